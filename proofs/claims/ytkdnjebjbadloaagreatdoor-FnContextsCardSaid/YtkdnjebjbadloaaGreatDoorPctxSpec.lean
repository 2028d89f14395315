/-
  ParseContext of the model: for every text what 'Pctx.mod' says, in memory of its own.
-/
import Derived.Test.YtkdnjebjbadloaaGreatDoorPctxPure
import Derived.Test.YtkdnjebjbadloaaGreatDoorNumRead
namespace Go.Proofs.YtkdnjebjbadloaaGreatDoor.Pctx
open Go Go.RowKit Mem Sets Elems Text Joins Strs Ctx Sets2 CtxText Cuts Parse Rowsp Split
set_option maxRecDepth 100000

theorem box_set {w : World} {b : Nat} {t : TypeId} {x y : Value} (h : BoxAt w b t #[x, y]) (u : Value) : BoxAt (w.setCell ⟨b, 1, none⟩ u) b t #[x, u] := by
  unfold BoxAt at h ⊢
  obtain ⟨hlt, hget⟩ := Array.getElem?_eq_some_iff.1 h
  simp [World.setCell, Array.getElem?_modify, h]

theorem Apart.thenBelow {lo hi B : Nat} {a b c : World} (h : Apart lo hi a b) (k : Below B b c) (hB : a.heap.size ≤ B) : Apart lo hi a c :=
  ⟨k.os.trans h.os, k.tape.trans h.tape, k.output.trans h.output, Nat.le_trans h.size k.size, fun j hj ho => (k.block j (by omega)).trans (h.block j hj ho)⟩
theorem Apart.thenGrown {lo hi : Nat} {a b c : World} {row : Option Nat} (h : Apart lo hi a b) (k : b.grownBy c row) (hr : ∀ q, row = some q → a.heap.size ≤ q) : Apart lo hi a c :=
  ⟨k.os.trans h.os, k.tape.trans h.tape, k.output.trans h.output, Nat.le_trans h.size k.size, fun j hj ho => (k.block j (by have := h.size; omega) (fun e => by have := hr j e.symm; omega)).trans (h.block j hj ho)⟩
theorem Apart.thenSet {lo hi : Nat} {a b : World} (h : Apart lo hi a b) {p : Addr} (hp : lo ≤ p.block ∧ p.block < hi) (u : Value) : Apart lo hi a (b.setCell p u) :=
  ⟨h.os, h.tape, h.output, by simpa using h.size, fun j hj ho => (Below.heap_setCell b p u j (by omega)).trans (h.block j hj ho)⟩

set_option maxHeartbeats 1600000 in
theorem spec_pctx (l : List UInt8) (hl : l.length ≤ 1048576) (w : World) :
    Calls Tryz.prog 15 #[.string ⟨l.toArray⟩] w (CtxRes (mod l) w) := by
  obtain ⟨i0, hi, hz0, hz1, hz2⟩ := info_parts Ints.info
  have HM := Lib.hid (show mod l = match cuts 32 l with | [p, r] => modOf l p r | _ => none from rfl)
  have HSP := Lib.hid (fun w => spec_split l 32 hl w)
  have HPL := Lib.hid (fun k => part_le (c := 32) (k := k) hl)
  have hwl := cuts_length 32 l
  generalize cuts 32 l = ws at HM HSP HPL hwl
  by_cases h2 : ws.length = 2
  · obtain ⟨p, r, rfl⟩ : ∃ p r, ws = [p, r] := by
      match ws, h2 with
      | [p, r], _ => exact ⟨p, r, rfl⟩
    have HY := Lib.hid (show mod l = modOf l p r from HM.out)
    have hpl : p.length ≤ 1048576 := HPL.out 0
    have hrl : r.length ≤ 1048576 := HPL.out 1
    clear h2 HM HPL hwl
    have HN := Lib.hid (fun w => NumRead.spec_int p (by omega) w)
    have HS2 := Lib.hid (fun w => spec_split r 44 hrl w)
    clear hpl
    go_enter Tryz.func15, Tryz.ntmps15
    go_wp2_with fail
    refine (HSP.out _).mono ?_
    rintro e w1 ⟨v, rfl, o1, b1⟩
    obtain ⟨hla, a, cw, rfl, hca⟩ := o1.reads
    simp only [strs, List.length_map, List.length_cons, List.length_nil] at hla hca ⊢
    obtain ⟨b, o, rfl, hb, gca⟩ := hca (by simp)
    have p0 : w1.cell? ⟨b, o, none⟩ = some (.string ⟨p.toArray⟩) := gca 0 (by omega)
    have p1 : w1.cell? ⟨b, o + 1, none⟩ = some (.string ⟨r.toArray⟩) := gca 1 (by omega)
    have HX1 := Lib.hid ((BoxAt.new w 26 #[.int .i64 0, .slice none 0 0]).below b1 (by simp))
    have HB1 := Lib.hid (((Below.refl w.heap.size w).alloc (Nat.le_refl _) _).trans (b1.mono (by simp)))
    have hz1' : w.heap.size < w1.heap.size := HX1.out.lt
    clear b1 o1 hca gca
    go_wp2_with fail
    refine (HN.out w1).mono ?_
    rintro e w2 ⟨rfl, b2⟩
    obtain ⟨nv, hnv⟩ : ∃ nv, (NumPure.rd p 12).getD 0 = nv := ⟨_, rfl⟩
    obtain ⟨okv, hok⟩ : ∃ okv, (NumPure.rd p 12).isSome = okv := ⟨_, rfl⟩
    rw [hnv, hok]
    have HNV := Lib.hid hnv
    have HOK := Lib.hid hok
    clear hnv hok
    have P2 := Lib.hid (show w2.cell? ⟨b, o + 1, none⟩ = some (.string ⟨r.toArray⟩) from (b2.cell (p := ⟨b, o + 1, none⟩) hb).trans p1)
    have p2 := P2.out
    have HX2 := Lib.hid (HX1.out.below b2 hz1')
    have HB2 := Lib.hid (HB1.out.trans (b2.mono (by omega)))
    have hz2' : w1.heap.size ≤ w2.heap.size := b2.size
    clear b2
    have hbn : b < w2.heap.size := by omega
    have hbn1 : ¬ b = w2.heap.size := by omega
    have hbn2 : ¬ w2.heap.size = b := by omega
    go_wp2_with fail
    have HXB := Lib.hid (HX2.out.below ((Below.refl w2.heap.size w2).alloc (Nat.le_refl _) (.cells #[.int .i64 nv, .slice none 0 0] 26)) (by omega))
    have HBB := Lib.hid (HB2.out.alloc (by omega) (.cells #[.int .i64 nv, .slice none 0 0] 26))
    have HQB := Lib.hid (BoxAt.new w2 26 #[.int .i64 nv, .slice none 0 0])
    refine (HS2.out _).mono ?_
    rintro e w3 ⟨v2, rfl, o3, b3⟩
    have HROWS := Lib.hid (show rowsOf r = if r = none4 then some [] else if good (cuts 44 r) = true then some (vals (cuts 44 r)) else none from rfl)
    have hcl := cuts_length 44 r
    have HPP := Lib.hid (fun k => part_le (c := 44) (k := k) hrl)
    have hone : r = none4 → (cuts 44 r).length = 1 := by rintro rfl; rfl
    generalize cuts 44 r = ps at o3 HROWS hcl HPP hone
    have hpn : ps.length ≤ 1048577 := by omega
    obtain ⟨hla2, a2, cw2, rfl, hca2⟩ := o3.reads
    simp only [strs, List.length_map] at hla2 hca2 ⊢
    have hpv : (Value.slice a2 ps.length cw2) = Value.slice a2 ps.length cw2 := rfl
    have O3 : Hid (Own 9 w3 (w2.heap.size + 1) w3.heap.size (.slice a2 ps.length cw2) (strs ps)) := Lib.hid (by simpa [strs] using o3)
    have P3 := Lib.hid (show w3.cell? ⟨b, o + 1, none⟩ = some (.string ⟨r.toArray⟩) from (b3.cell (p := ⟨b, o + 1, none⟩) (by show b < _; simp; omega)).trans ((((Below.refl w2.heap.size w2).alloc (Nat.le_refl _) _).cell (p := ⟨b, o + 1, none⟩) (by show b < _; omega)).trans P2.out))
    have HX3 := Lib.hid (HXB.out.below b3 (by simp; omega))
    have HQ3 := Lib.hid (HQB.out.below b3 (by simp))
    have HB3 := Lib.hid (HBB.out.trans (b3.mono (by simp; omega)))
    have hz3' : w2.heap.size < w3.heap.size := HQ3.out.lt
    clear b3 o3 hca2 hcl hrl hla2 p0 p1 p2 HXB HQB HBB hpv
    by_cases h4 : r = none4
    · have h41 : (r == [110, 111, 110, 101]) = true := by rw [h4]; rfl
      have HROW0 := Lib.hid (show rowsOf r = some [] by rw [HROWS.out, if_pos h4])
      have hd0 : decide ((0 : Int) < (ps.length : Int)) = true := by rw [hone h4]; rfl
      have hd1 : 0 < ps.length := by rw [hone h4]; exact Nat.zero_lt_one
      have hd2 : ¬ ps.length = 0 := by omega
      have hd3 : ¬ ps = [] := by rintro rfl; simp at hd1
      clear h4 hone
      have p3 := P3.out
      generalize w3 = wr at *
      obtain ⟨rs, hrs⟩ : ∃ rs : List Int, rs = [] := ⟨_, rfl⟩
      have HROW := Lib.hid (show rowsOf r = some rs by rw [hrs]; exact HROW0.out)
      obtain ⟨aa, ca, hsl⟩ : ∃ (aa : Option Addr) (ca : Nat), (Value.slice none 0 0) = .slice aa rs.length ca := ⟨none, 0, by rw [hrs]; rfl⟩
      have HQT : Hid (BoxAt wr w2.heap.size 26 #[.int .i64 nv, .slice aa rs.length ca]) := Lib.hid (by rw [← hsl]; exact HQ3.out)
      have HOT : Hid (Own 3 wr wr.heap.size wr.heap.size (.slice aa rs.length ca) (ints rs)) := Lib.hid (by rw [← hsl, hrs]; exact Own.made (World.ownsRow_nil _ _ _ _))
      have HXT := Lib.hid HX3.out
      have HBT := Lib.hid HB3.out
      clear hrs hsl
      have c0 : wr.cell? ⟨w.heap.size, 0, none⟩ = some (.int .i64 0) := HXT.out.cell 0
      have c1 : wr.cell? ⟨w.heap.size, 1, none⟩ = some (.slice none 0 0) := HXT.out.cell 1
      have f0 : wr.frozen? ⟨w.heap.size, 0, none⟩ = false := HXT.out.free 0
      have f1 : wr.frozen? ⟨w.heap.size, 1, none⟩ = false := HXT.out.free 1
      have q0 : wr.cell? ⟨w2.heap.size, 0, none⟩ = some (.int .i64 nv) := HQT.out.cell 0
      have q1 : wr.cell? ⟨w2.heap.size, 1, none⟩ = some (.slice aa rs.length ca) := HQT.out.cell 1
      go_wp2_with fail
      refine wp_loop_rounds 1 ?_
      rw [rounds_succ]
      cases hrd : NumPure.rd p 12 with
      | none =>
        have HZ := Lib.hid (show mod l = none by rw [HY.out, modOf, HROW.out, Option.bind_some, hrd]; rfl)
        obtain ⟨rfl, rfl⟩ : nv = 0 ∧ okv = false := by rw [← HNV.out, ← HOK.out, hrd]; exact ⟨rfl, rfl⟩
        clear hrd HNV HOK
        go_wp2_with fail
        refine bodyPost_ret (v := .tuple #[ctx 0 (.slice none 0 0), .bool false]) (by simp [results, Tryz.results15, go_sem, c0, c1]) rfl (ctxRes_none HZ.out ?_)
        exact (HBT.out.setCell (by simp) _).setCell (by simp) _
      | some n =>
        have HY2 := Lib.hid (show mod l = if ctxText n rs = l then some (n, rs) else none by rw [HY.out, modOf, HROW.out, Option.bind_some, hrd, Option.bind_some])
        obtain ⟨rfl, rfl⟩ : n = nv ∧ true = okv := by rw [← HNV.out, ← HOK.out, hrd]; exact ⟨rfl, rfl⟩
        clear hrd HNV HOK
        have HCT := Lib.hid (spec_ctxText n _ rs wr.heap.size wr HOT.out.reads (Nat.le_refl _))
        generalize ctxText n rs = tl at HY2 HCT
        by_cases htl : tl = l
        · have htl1 : (tl == l) = true := by simpa using htl
          have HZ := Lib.hid (show mod l = some (n, rs) by rw [HY2.out, if_pos htl])
          clear htl
          go_wp2_with fail
          refine HCT.out.mono ?_
          rintro e w9 ⟨rfl, b9⟩
          have HQ9 := Lib.hid (HQT.out.below b9 HQT.out.lt)
          have HO9 := Lib.hid (HOT.out.below b9 (Nat.le_refl _))
          have HB9 := Lib.hid (HBT.out.trans (b9.mono HBT.out.size))
          have HX9 := Lib.hid (HXT.out.below b9 HXT.out.lt)
          have hz9 := b9.size
          clear b9 c0 c1 f0 f1 q0 q1
          have c0 : w9.cell? ⟨w.heap.size, 0, none⟩ = some (.int .i64 0) := HX9.out.cell 0
          have c1 : w9.cell? ⟨w.heap.size, 1, none⟩ = some (.slice none 0 0) := HX9.out.cell 1
          have f0 : w9.frozen? ⟨w.heap.size, 0, none⟩ = false := HX9.out.free 0
          have f1 : w9.frozen? ⟨w.heap.size, 1, none⟩ = false := HX9.out.free 1
          have q0 : w9.cell? ⟨w2.heap.size, 0, none⟩ = some (.int .i64 n) := HQ9.out.cell 0
          have q1 : w9.cell? ⟨w2.heap.size, 1, none⟩ = some (.slice aa rs.length ca) := HQ9.out.cell 1
          go_wp2_with fail
          refine bodyPost_ret (v := .tuple #[ctx n (.slice aa rs.length ca), .bool true]) (by simp [results, Tryz.results15, go_sem, c0, c1]) rfl (ctxRes_some HZ.out ?_ ?_)
          · exact (own_set (own_set HO9.out (.inl (by simp; omega)) _) (.inl (by simp; omega)) _).mono (by omega) (by simp; omega)
          · exact (HB9.out.setCell (by simp) _).setCell (by simp) _
        · have htl1 : (tl == l) = false := by simpa using htl
          have HZ := Lib.hid (show mod l = none by rw [HY2.out, if_neg htl])
          clear htl
          go_wp2_with fail
          refine HCT.out.mono ?_
          rintro e w9 ⟨rfl, b9⟩
          have HQ9 := Lib.hid (HQT.out.below b9 HQT.out.lt)
          have HO9 := Lib.hid (HOT.out.below b9 (Nat.le_refl _))
          have HB9 := Lib.hid (HBT.out.trans (b9.mono HBT.out.size))
          have HX9 := Lib.hid (HXT.out.below b9 HXT.out.lt)
          have hz9 := b9.size
          clear b9 c0 c1 f0 f1 q0 q1
          have c0 : w9.cell? ⟨w.heap.size, 0, none⟩ = some (.int .i64 0) := HX9.out.cell 0
          have c1 : w9.cell? ⟨w.heap.size, 1, none⟩ = some (.slice none 0 0) := HX9.out.cell 1
          have f0 : w9.frozen? ⟨w.heap.size, 0, none⟩ = false := HX9.out.free 0
          have f1 : w9.frozen? ⟨w.heap.size, 1, none⟩ = false := HX9.out.free 1
          have q0 : w9.cell? ⟨w2.heap.size, 0, none⟩ = some (.int .i64 n) := HQ9.out.cell 0
          have q1 : w9.cell? ⟨w2.heap.size, 1, none⟩ = some (.slice aa rs.length ca) := HQ9.out.cell 1
          go_wp2_with fail
          refine bodyPost_ret (v := .tuple #[ctx 0 (.slice none 0 0), .bool false]) (by simp [results, Tryz.results15, go_sem, c0, c1]) rfl (ctxRes_none HZ.out ?_)
          exact (HB9.out.setCell (by simp) _).setCell (by simp) _
    · have h41 : (r == [110, 111, 110, 101]) = false := by simpa [none4] using h4
      have HROW2 := Lib.hid (show rowsOf r = if good ps = true then some (vals ps) else none by rw [HROWS.out, if_neg h4])
      clear h4 hone
      go_wp2_with fail
      go_loopw [9] (fun i wr => ∃ (k : Nat) (t : Value), k ≤ ps.length ∧ i = .int .i64 k ∧ Hid (good (ps.take k) = true) ∧ Hid (BoxAt wr w2.heap.size 26 #[.int .i64 nv, t]) ∧ Hid (wr.ownsRow w3.heap.size 3 1 t k (ints (vals (ps.take k)))) ∧ Hid (Apart w2.heap.size (w2.heap.size + 1) w3 wr)) (fun i _ => ps.length - (intOf i).toNat)
      case atStart => exact ⟨0, _, Nat.zero_le _, rfl, Lib.hid rfl, HQ3, Lib.hid (World.ownsRow_nil _ _ _ _), Lib.hid (Apart.refl _ _ _)⟩
      case round =>
        obtain ⟨k, t, hk, rfl, hgd, hbx, hown, hap⟩ := hrel
        have hbl := hap.out.below (B := w2.heap.size) (Nat.le_refl _) (by omega)
        have p3 : wr.cell? ⟨b, o + 1, none⟩ = some (.string ⟨r.toArray⟩) := (hbl.cell (p := ⟨b, o + 1, none⟩) hbn).trans P3.out
        have HXT := Lib.hid (HX3.out.below hbl (by omega))
        have HBT := Lib.hid (HB3.out.trans (hbl.mono (by omega)))
        have hzr : w3.heap.size ≤ wr.heap.size := hap.out.size
        clear hbl
        have c0 : wr.cell? ⟨w.heap.size, 0, none⟩ = some (.int .i64 0) := HXT.out.cell 0
        have c1 : wr.cell? ⟨w.heap.size, 1, none⟩ = some (.slice none 0 0) := HXT.out.cell 1
        have f0 : wr.frozen? ⟨w.heap.size, 0, none⟩ = false := HXT.out.free 0
        have f1 : wr.frozen? ⟨w.heap.size, 1, none⟩ = false := HXT.out.free 1
        by_cases hlt : k < ps.length
        · have hrd := (O3.out.apart hap.out (.inr (Nat.le_refl _))).reads
          obtain ⟨_, a3, c3, hv, hcells⟩ := hrd
          have hsl : (strs ps).length = ps.length := by simp [strs]
          rw [hsl] at hv hcells
          injection hv with e1 e2 e3
          subst e1 e3
          clear e2
          obtain ⟨b4, o4, rfl, hb4, g4⟩ := hcells (by intro h; rw [h] at hsl; simp at hsl; omega)
          have cc : wr.cell? ⟨b4, o4 + k, none⟩ = some (.string ⟨(ps.getD k []).toArray⟩) := (g4 k hlt).trans (strs_get ps k hlt)
          clear g4 hcells hsl
          have hpk := HPP.out k
          have q0 : wr.cell? ⟨w2.heap.size, 0, none⟩ = some (.int .i64 nv) := hbx.out.cell 0
          have q1 : wr.cell? ⟨w2.heap.size, 1, none⟩ = some t := hbx.out.cell 1
          cases hp : parse (ps.getD k []) with
          | none =>
            have HZ := Lib.hid (show mod l = none by rw [HY.out, modOf, HROW2.out, bad_at hlt hp]; rfl)
            have HP := Lib.hid (spec_parse _ hpk wr)
            have hpv : (parse (ps.getD k [])).getD 0 = 0 ∧ (parse (ps.getD k [])).isSome = false := by rw [hp]; exact ⟨rfl, rfl⟩
            unfold Post at HP
            rw [hpv.1, hpv.2] at HP
            clear hp hpv
            generalize ps.getD k [] = q at cc HP hpk
            go_wp2_with fail
            refine HP.out.mono ?_
            rintro e w4 ⟨rfl, b4'⟩
            have HX4 := Lib.hid (HXT.out.below b4' HXT.out.lt)
            have HB4 := Lib.hid (HBT.out.trans (b4'.mono HBT.out.size))
            clear b4' c0 c1 f0 f1 q0 q1
            have c0 : w4.cell? ⟨w.heap.size, 0, none⟩ = some (.int .i64 0) := HX4.out.cell 0
            have c1 : w4.cell? ⟨w.heap.size, 1, none⟩ = some (.slice none 0 0) := HX4.out.cell 1
            have f0 : w4.frozen? ⟨w.heap.size, 0, none⟩ = false := HX4.out.free 0
            have f1 : w4.frozen? ⟨w.heap.size, 1, none⟩ = false := HX4.out.free 1
            go_wp2_with fail
            refine bodyPost_ret (v := .tuple #[ctx 0 (.slice none 0 0), .bool false]) (by simp [results, Tryz.results15, go_sem, c0, c1]) rfl (ctxRes_none HZ.out ?_)
            exact (HB4.out.setCell (by simp) _).setCell (by simp) _
          | some s =>
            have HG := Lib.hid (good_take hlt hgd.out hp)
            have HV := Lib.hid (vals_take hlt hp)
            have HP := Lib.hid (spec_parse _ hpk wr)
            have hpv : (parse (ps.getD k [])).getD 0 = s ∧ (parse (ps.getD k [])).isSome = true := by rw [hp]; exact ⟨rfl, rfl⟩
            unfold Post at HP
            rw [hpv.1, hpv.2] at HP
            clear hp hpv
            generalize ps.getD k [] = q at cc HP hpk
            go_wp2_with fail
            refine HP.out.mono ?_
            rintro e w4 ⟨rfl, b4'⟩
            have HO := Lib.hid (Sets2.owns_below hown.out b4')
            have HQ4 := Lib.hid (hbx.out.below b4' (by have := hbx.out.lt; omega))
            have HA4 := Lib.hid (Apart.thenBelow hap.out b4' hzr)
            have hz4 := b4'.size
            clear b4' c0 c1 f0 f1 q0 q1
            have q0 : w4.cell? ⟨w2.heap.size, 0, none⟩ = some (.int .i64 nv) := HQ4.out.cell 0
            have q1 : w4.cell? ⟨w2.heap.size, 1, none⟩ = some t := HQ4.out.cell 1
            go_wp2_with (at_builtin; refine wpList_append_own _ rfl _ _ 24 rfl w3.heap.size 3 i0 (.int .i64 0) 1 8 Tryz.underlying24 hi hz0 hz1 hz2 rfl (by decide) _ _ _ rfl (HO.out.alloc _) ⟨w4.heap.size, 0, none⟩ 1 1 [.int .i64 s] rfl rfl ?c1 ?c2 ?c3 ?c4 ?c5 ?_)
            case c1 =>
              intro j u hj
              match j, hj with
              | 0, hj => simp at hj; subst hj; simp [Addr.add]
            case c2 => intro u hu; simp at hu; subst hu; rfl
            case c3 => unfold maxLen; omega
            case c4 => omega
            case c5 => simp; omega
            intro v' w5 hown' hgrow _
            obtain ⟨av, cv, rfl⟩ : ∃ a c, v' = .slice a (k + 1) c := by
              obtain ⟨_, a, c, he, _⟩ := (Own.made hown').reads
              exact ⟨a, c, by rw [he]; simp [vals, ints]; omega⟩
            have hq5 := Apart.thenGrown (Apart.thenBelow HA4.out ((Below.refl w4.heap.size w4).alloc (Nat.le_refl _) _) (by omega)) hgrow (fun q hq => (HO.out.lt q hq).1)
            have hq6 : BoxAt w5 w2.heap.size 26 #[.int .i64 nv, t] := by
              unfold BoxAt
              rw [hgrow.block w2.heap.size (by have := HQ4.out.lt; simp; omega) (fun e => by have := (HO.out.lt _ e.symm).1; omega)]
              exact (HQ4.out.below ((Below.refl w4.heap.size w4).alloc (Nat.le_refl _) _) HQ4.out.lt)
            have g0 : w5.cell? ⟨w2.heap.size, 0, none⟩ = some (.int .i64 nv) := hq6.cell 0
            have g1 : w5.cell? ⟨w2.heap.size, 1, none⟩ = some t := hq6.cell 1
            have e1 : w5.frozen? ⟨w2.heap.size, 1, none⟩ = false := hq6.free 1
            have R1 := Lib.hid (box_set hq6 (.slice av (k + 1) cv))
            have R2 := Lib.hid (Apart.thenSet hq5 (p := ⟨w2.heap.size, 1, none⟩) ⟨Nat.le_refl _, by simp⟩ (.slice av (k + 1) cv))
            have R3 := Lib.hid (ownsRow_same (w' := w5.setCell ⟨w2.heap.size, 1, none⟩ (.slice av (k + 1) cv)) hown' fun q hq => Below.heap_setCell w5 _ _ q (by have := (hown'.lt q hq).1; simp; omega))
            clear hown' hgrow hq5 hq6 q0 q1
            go_wp2_with fail
            go_roundw
            case rel => exact ⟨k + 1, _, by omega, by simp, HG, R1, Lib.hid (by rw [HV.out]; simpa [ints] using R3.out), R2⟩
            case measure => simp [intOf]; omega
        · have hkn : k = ps.length := by omega
          have hgd2 := hgd.out
          have hown2 := hown.out
          rw [hkn, List.take_length] at hgd2 hown2
          obtain ⟨rs, hrs⟩ : ∃ rs : List Int, vals ps = rs := ⟨_, rfl⟩
          have HROW := Lib.hid (show rowsOf r = some rs by rw [HROW2.out, if_pos hgd2, hrs])
          rw [hrs] at hown2
          have hown3 := (Own.made hown2).mono (lo' := w2.heap.size) (by omega) (Nat.le_refl _)
          obtain ⟨aa, ca, rfl⟩ := own_form hown3
          have HOT := Lib.hid hown3
          have HQT := Lib.hid hbx.out
          clear hgd2 hown2 hown3 hrs hgd hown hap hbx
          have q0 : wr.cell? ⟨w2.heap.size, 0, none⟩ = some (.int .i64 nv) := HQT.out.cell 0
          have q1 : wr.cell? ⟨w2.heap.size, 1, none⟩ = some (.slice aa rs.length ca) := HQT.out.cell 1
          cases hrd : NumPure.rd p 12 with
          | none =>
            have HZ := Lib.hid (show mod l = none by rw [HY.out, modOf, HROW.out, Option.bind_some, hrd]; rfl)
            obtain ⟨rfl, rfl⟩ : nv = 0 ∧ okv = false := by rw [← HNV.out, ← HOK.out, hrd]; exact ⟨rfl, rfl⟩
            clear hrd HNV HOK
            go_wp2_with fail
            refine bodyPost_ret (v := .tuple #[ctx 0 (.slice none 0 0), .bool false]) (by simp [results, Tryz.results15, go_sem, c0, c1]) rfl (ctxRes_none HZ.out ?_)
            exact (HBT.out.setCell (by simp) _).setCell (by simp) _
          | some n =>
            have HY2 := Lib.hid (show mod l = if ctxText n rs = l then some (n, rs) else none by rw [HY.out, modOf, HROW.out, Option.bind_some, hrd, Option.bind_some])
            obtain ⟨rfl, rfl⟩ : n = nv ∧ true = okv := by rw [← HNV.out, ← HOK.out, hrd]; exact ⟨rfl, rfl⟩
            clear hrd HNV HOK
            have HCT := Lib.hid (spec_ctxText n _ rs wr.heap.size wr HOT.out.reads (Nat.le_refl _))
            generalize ctxText n rs = tl at HY2 HCT
            by_cases htl : tl = l
            · have htl1 : (tl == l) = true := by simpa using htl
              have HZ := Lib.hid (show mod l = some (n, rs) by rw [HY2.out, if_pos htl])
              clear htl
              go_wp2_with fail
              refine HCT.out.mono ?_
              rintro e w9 ⟨rfl, b9⟩
              have HQ9 := Lib.hid (HQT.out.below b9 HQT.out.lt)
              have HO9 := Lib.hid (HOT.out.below b9 (Nat.le_refl _))
              have HB9 := Lib.hid (HBT.out.trans (b9.mono HBT.out.size))
              have HX9 := Lib.hid (HXT.out.below b9 HXT.out.lt)
              have hz9 := b9.size
              clear b9 c0 c1 f0 f1 q0 q1
              have c0 : w9.cell? ⟨w.heap.size, 0, none⟩ = some (.int .i64 0) := HX9.out.cell 0
              have c1 : w9.cell? ⟨w.heap.size, 1, none⟩ = some (.slice none 0 0) := HX9.out.cell 1
              have f0 : w9.frozen? ⟨w.heap.size, 0, none⟩ = false := HX9.out.free 0
              have f1 : w9.frozen? ⟨w.heap.size, 1, none⟩ = false := HX9.out.free 1
              have q0 : w9.cell? ⟨w2.heap.size, 0, none⟩ = some (.int .i64 n) := HQ9.out.cell 0
              have q1 : w9.cell? ⟨w2.heap.size, 1, none⟩ = some (.slice aa rs.length ca) := HQ9.out.cell 1
              go_wp2_with fail
              refine bodyPost_ret (v := .tuple #[ctx n (.slice aa rs.length ca), .bool true]) (by simp [results, Tryz.results15, go_sem, c0, c1]) rfl (ctxRes_some HZ.out ?_ ?_)
              · exact (own_set (own_set HO9.out (.inl (by simp; omega)) _) (.inl (by simp; omega)) _).mono (by omega) (by simp; omega)
              · exact (HB9.out.setCell (by simp) _).setCell (by simp) _
            · have htl1 : (tl == l) = false := by simpa using htl
              have HZ := Lib.hid (show mod l = none by rw [HY2.out, if_neg htl])
              clear htl
              go_wp2_with fail
              refine HCT.out.mono ?_
              rintro e w9 ⟨rfl, b9⟩
              have HQ9 := Lib.hid (HQT.out.below b9 HQT.out.lt)
              have HO9 := Lib.hid (HOT.out.below b9 (Nat.le_refl _))
              have HB9 := Lib.hid (HBT.out.trans (b9.mono HBT.out.size))
              have HX9 := Lib.hid (HXT.out.below b9 HXT.out.lt)
              have hz9 := b9.size
              clear b9 c0 c1 f0 f1 q0 q1
              have c0 : w9.cell? ⟨w.heap.size, 0, none⟩ = some (.int .i64 0) := HX9.out.cell 0
              have c1 : w9.cell? ⟨w.heap.size, 1, none⟩ = some (.slice none 0 0) := HX9.out.cell 1
              have f0 : w9.frozen? ⟨w.heap.size, 0, none⟩ = false := HX9.out.free 0
              have f1 : w9.frozen? ⟨w.heap.size, 1, none⟩ = false := HX9.out.free 1
              have q0 : w9.cell? ⟨w2.heap.size, 0, none⟩ = some (.int .i64 n) := HQ9.out.cell 0
              have q1 : w9.cell? ⟨w2.heap.size, 1, none⟩ = some (.slice aa rs.length ca) := HQ9.out.cell 1
              go_wp2_with fail
              refine bodyPost_ret (v := .tuple #[ctx 0 (.slice none 0 0), .bool false]) (by simp [results, Tryz.results15, go_sem, c0, c1]) rfl (ctxRes_none HZ.out ?_)
              exact (HB9.out.setCell (by simp) _).setCell (by simp) _
  · have h21 : ((ws.length : Int) == 2) = false := by simpa using (by omega : ¬ (ws.length : Int) = 2)
    have HZ := Lib.hid (show mod l = none by
      rw [HM.out]
      match ws, h2 with
      | [], _ => rfl
      | [_], _ => rfl
      | [_, _], h => exact absurd rfl h
      | _ :: _ :: _ :: _, _ => rfl)
    clear h2 HM HPL
    go_enter Tryz.func15, Tryz.ntmps15
    go_wp2_with fail
    refine (HSP.out _).mono ?_
    rintro e w1 ⟨v, rfl, o1, b1⟩
    obtain ⟨hla, a, cw, rfl, hca⟩ := o1.reads
    simp only [strs, List.length_map] at hla hca ⊢
    have HX1 := Lib.hid ((BoxAt.new w 26 #[.int .i64 0, .slice none 0 0]).below b1 (by simp))
    have HB1 := Lib.hid (((Below.refl w.heap.size w).alloc (Nat.le_refl _) _).trans (b1.mono (by simp)))
    have c0 : w1.cell? ⟨w.heap.size, 0, none⟩ = some (.int .i64 0) := HX1.out.cell 0
    have c1 : w1.cell? ⟨w.heap.size, 1, none⟩ = some (.slice none 0 0) := HX1.out.cell 1
    have f0 : w1.frozen? ⟨w.heap.size, 0, none⟩ = false := HX1.out.free 0
    have f1 : w1.frozen? ⟨w.heap.size, 1, none⟩ = false := HX1.out.free 1
    clear b1 o1 hca hwl
    go_wp2_with fail
    refine bodyPost_ret (v := .tuple #[ctx 0 (.slice none 0 0), .bool false]) (by simp [results, Tryz.results15, go_sem, c0, c1]) rfl (ctxRes_none HZ.out ?_)
    exact (HB1.out.setCell (by simp) _).setCell (by simp) _
end Go.Proofs.YtkdnjebjbadloaaGreatDoor.Pctx
