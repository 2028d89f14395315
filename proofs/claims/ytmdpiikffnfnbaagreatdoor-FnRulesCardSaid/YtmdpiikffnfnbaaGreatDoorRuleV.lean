/-
  Chapter 9 of the model: rules read from their texts.
-/
import Derived.Test.YtmdpiikffnfnbaaGreatDoorRuleS
import Derived.Test.YtmdpiikffnfnbaaGreatDoorRuleT
import Derived.Test.YtmdpiikffnfnbaaGreatDoorSplitS
import Derived.BigQuiet
namespace Go.Proofs.YtmdpiikffnfnbaaGreatDoor.Rule
open Go Go.RowKit Mem Sets Ctx Tab Elems Text Joins Strs Cuts Parse
set_option maxRecDepth 100000

def optR (x : Option PInt) : Value := .tuple #[mk (x.getD (0, 0)), .bool x.isSome]
theorem Past.ofStrs2 {W : World} {P : Program} {f : FuncId} {args : Array Value} {xs : List (List UInt8)} {t : TypeId} (p : Past W) (h : Calls P f args p.w fun e w' => ∃ u, e = .returned u ∧ Mem.Own t w' p.w.heap.size w'.heap.size u (strs xs) ∧ Below p.w.heap.size p.w w') :
    Calls P f args p.w fun e w' => ∃ a c, e = .returned (.slice a xs.length c) ∧ ∃ q : Past W, w' = q.w ∧ Reads q.w q.w.heap.size (.slice a xs.length c) (strs xs) :=
  h.mono fun _ w' ⟨u, he, ho, hb⟩ => by
    have hr := ho.reads
    obtain ⟨h1, a, c, rfl, h2⟩ := hr
    have e1 : (strs xs).length = xs.length := by simp
    rw [e1] at he h2
    exact ⟨a, c, he, ⟨w', p.h.trans (hb.mono p.h.size)⟩, rfl, h1, a, c, by rw [e1], by rw [e1]; exact h2⟩
set_option maxHeartbeats 1600000 in
theorem spec_parseRule (t : List UInt8) (hl : t.length ≤ 1048576) (w : World) :
    Calls Tryz.prog 53 #[.string ⟨t.toArray⟩] w fun e w' => e = .returned (optR (parseRule t)) ∧ Below w.heap.size w w' := by
  have hW := (Below.refl w.heap.size w).alloc (Nat.le_refl _) (.cells #[.int .i64 0, .int .i64 0] 28)
  have hbx := BoxAt.new w 28 #[.int .i64 0, .int .i64 0]
  have hz : w.heap.size < (w.alloc (.cells #[.int .i64 0, .int .i64 0] 28)).heap.size := by simp
  go_enter Tryz.func53, Tryz.ntmps53
  go_wp2_with fail
  generalize w.alloc (.cells #[.int .i64 0, .int .i64 0] 28) = W at hW hbx hz ⊢
  have HBW := Lib.hid hW
  have HBX := Lib.hid hbx
  have HS := Lib.hid (Past.ofStrs2 (Past.start W) (Split.spec_split t 62 hl W))
  clear hW hbx
  have e0 := fun p : Past W => (HBX.out.below p.h hz).cell 0
  have e1 := fun p : Past W => (HBX.out.below p.h hz).cell 1
  have f0 := fun p : Past W => (HBX.out.below p.h hz).free 0
  have f1 := fun p : Past W => (HBX.out.below p.h hz).free 1
  refine HS.out.mono ?_
  rintro e _ ⟨pa, pc, rfl, p, rfl, hr⟩
  by_cases h2 : (cuts 62 t).length = 2
  · obtain ⟨a, b, hab⟩ : ∃ a b, cuts 62 t = [a, b] := by
      match hc : cuts 62 t, h2 with
      | [a, b], _ => exact ⟨a, b, rfl⟩
    have ha : a.length ≤ 1048576 := by have := part_le (c := 62) (k := 0) hl; rwa [hab] at this
    have hb : b.length ≤ 1048576 := by have := part_le (c := 62) (k := 1) hl; rwa [hab] at this
    have HPR := Lib.hid (parseRule_two hab)
    rw [hab] at hr ⊢
    obtain ⟨_, _, _, hv, hcells⟩ := hr
    injection hv with i1 i2 i3
    subst i1 i3
    clear i2
    obtain ⟨bk, o, rfl, hbk, hc⟩ := hcells (by simp [strs])
    have d0 : p.w.cell? ⟨bk, o, none⟩ = some (.string ⟨a.toArray⟩) := by have := hc 0 (by simp [strs]); simpa [strs] using this
    have d1 : p.w.cell? ⟨bk, o + 1, none⟩ = some (.string ⟨b.toArray⟩) := by have := hc 1 (by simp [strs]); simpa [strs] using this
    have k1 := fun q : Past p.w => Past.cell d1 (show bk < p.w.heap.size from hbk) q
    have HAp := Lib.hid ((Past.start p.w).of (spec_parse a ha p.w))
    have HB := Lib.hid fun q : Past p.w => q.of (spec_parse b hb q.w)
    have HZ : Hid (∀ q : Past p.w, ∃ z : Past W, z.w = q.w) := Lib.hid fun q => ⟨⟨q.w, p.h.trans (q.h.mono p.size)⟩, rfl⟩
    clear hc hcells h2 hab HS
    go_wp2_with fail
    refine HAp.out.mono ?_
    rintro e _ ⟨rfl, q, rfl⟩
    have kq := k1 q
    go_wp2_with fail
    refine (HB.out q).mono ?_
    rintro e _ ⟨rfl, q2, rfl⟩
    obtain ⟨z, hz2⟩ := HZ.out q2
    rw [← hz2]
    clear HAp HB hz2 k1 kq d0 d1
    cases hpa : parse a with
    | none =>
      have HX : Hid (parseRule t = none) := Lib.hid (by rw [HPR.out, hpa]; rfl)
      clear hpa HPR
      have g0 := e0 z
      have g1 := e1 z
      have g2 := f0 z
      have g3 := f1 z
      simp only [List.getElem?_toArray, List.getElem?_cons_zero, List.getElem?_cons_succ] at g0 g1
      have hbb := HBW.out.trans (z.h.mono (by omega))
      go_wp2_with fail
      refine bodyPost_ret (v := .tuple #[mk (0, 0), .bool false]) (by simp [results, Tryz.results53, go_sem, g0, g1]) rfl ⟨by rw [HX.out]; rfl, (hbb.setCell (p := ⟨w.heap.size, 0, none⟩) (Nat.le_refl _) _).setCell (p := ⟨w.heap.size, 1, none⟩) (Nat.le_refl _) _⟩
    | some x =>
      cases hpb : parse b with
      | none =>
        have HX : Hid (parseRule t = none) := Lib.hid (by rw [HPR.out, hpa, hpb]; rfl)
        clear hpa hpb HPR
        have g0 := e0 z
        have g1 := e1 z
        have g2 := f0 z
        have g3 := f1 z
        simp only [List.getElem?_toArray, List.getElem?_cons_zero, List.getElem?_cons_succ] at g0 g1
        have hbb := HBW.out.trans (z.h.mono (by omega))
        go_wp2_with fail
        refine bodyPost_ret (v := .tuple #[mk (0, 0), .bool false]) (by simp [results, Tryz.results53, go_sem, g0, g1]) rfl ⟨by rw [HX.out]; rfl, (hbb.setCell (p := ⟨w.heap.size, 0, none⟩) (Nat.le_refl _) _).setCell (p := ⟨w.heap.size, 1, none⟩) (Nat.le_refl _) _⟩
      | some y =>
        have HX : Hid (parseRule t = some (x, y)) := Lib.hid (by rw [HPR.out, hpa, hpb]; rfl)
        clear hpa hpb HPR
        have g0 := e0 z
        have g1 := e1 z
        have g2 := f0 z
        have g3 := f1 z
        simp only [List.getElem?_toArray, List.getElem?_cons_zero, List.getElem?_cons_succ] at g0 g1
        have hbb := HBW.out.trans (z.h.mono (by omega))
        go_wp2_with fail
        refine bodyPost_ret (v := .tuple #[mk (x, y), .bool true]) (by simp [results, Tryz.results53, go_sem, g0, g1]) rfl ⟨by rw [HX.out]; rfl, (hbb.setCell (p := ⟨w.heap.size, 0, none⟩) (Nat.le_refl _) _).setCell (p := ⟨w.heap.size, 1, none⟩) (Nat.le_refl _) _⟩
  · have HX : Hid (parseRule t = none) := Lib.hid (parseRule_no h2)
    have hd : (((cuts 62 t).length : Int) != 2) = true := by
      rw [bne_iff_ne]; omega
    generalize (cuts 62 t).length = n at hd hr
    clear hr h2 HS
    have g0 := e0 p
    have g1 := e1 p
    have g2 := f0 p
    have g3 := f1 p
    simp only [List.getElem?_toArray, List.getElem?_cons_zero, List.getElem?_cons_succ] at g0 g1
    have hbb := HBW.out.trans (p.h.mono (by omega))
    go_wp2_with fail
    refine bodyPost_ret (v := .tuple #[mk (0, 0), .bool false]) (by simp [results, Tryz.results53, go_sem, g0, g1]) rfl ⟨by rw [HX.out]; rfl, (hbb.setCell (p := ⟨w.heap.size, 0, none⟩) (Nat.le_refl _) _).setCell (p := ⟨w.heap.size, 1, none⟩) (Nat.le_refl _) _⟩
theorem newsR (w : World) (p : PInt) (t : TypeId) : ∀ (j : Nat) (u : Value), (prs [p])[j]? = some u → (w.alloc (.cells #[.int .i64 p.1, .int .i64 p.2] t)).cell? ((⟨w.heap.size, 0, none⟩ : Addr).add j) = some u := by
  intro j u hj
  match j, hj with
  | 0, hj => simp [prs] at hj; subst hj; simp [Addr.add]
  | 1, hj => simp [prs] at hj; subst hj; simp [Addr.add]
theorem oneR (p : PInt) : ∀ u ∈ prs [p], u.oneCell' = true := by
  intro u hu
  simp [prs] at hu
  rcases hu with rfl | rfl <;> rfl
set_option maxHeartbeats 3200000 in
theorem spec_parseRules (t : List UInt8) (hl : t.length ≤ 1048576) (w : World) :
    Calls Tryz.prog 15 #[.string ⟨t.toArray⟩] w fun e w' => ∃ u, e = .returned (.tuple #[u, .bool (parseRules t).isSome]) ∧ OwnP 28 w' w.heap.size w'.heap.size u ((parseRules t).getD []) ∧ Below w.heap.size w w' := by
  obtain ⟨i0, hinf, hz0, hz1, hz2⟩ := info_parts PRule.infoT
  have hps := cuts_ne 32 t
  have HPL := Lib.hid (fun k => part_le (c := 32) (k := k) hl)
  have HS := Lib.hid fun w => Split.spec_split t 32 hl w
  have HPR := Lib.hid (show parseRules t = if t = [110, 111, 110, 101] then some [] else if goodR (cuts 32 t) = true ∧ (cuts 32 t).length ≤ 40 then some (valsR (cuts 32 t)) else none from rfl)
  have hwl := cuts_length 32 t
  generalize cuts 32 t = ps at hps HPL HS HPR hwl
  have O0 : (w.alloc (.cells #[] 28 (0, 0))).ownsRow w.heap.size 28 2 (.slice (some ⟨w.heap.size, 0, none⟩) 0 0) 0 (prs []) := World.ownsRow_lit w #[] 0 (Nat.le_refl _) (Nat.zero_le _) rfl
  have HO0 := Lib.hid O0
  clear O0
  go_enter Tryz.func15, Tryz.ntmps15
  go_wp2_with fail
  refine (HS.out _).mono ?_
  rintro e w1 ⟨v, rfl, o1, b1⟩
  have hz1' : w.heap.size + 1 ≤ w1.heap.size := by have := b1.size; simpa using this
  have hlo : w.heap.size + 1 ≤ (w.alloc (.cells #[] 28 (0, 0))).heap.size := by simp
  have HO1 := Lib.hid (rowP_same HO0.out fun k hk => b1.block k (HO0.out.lt k hk).2)
  have hp0 : Below w.heap.size w w1 := ((Below.refl _ _).alloc (Nat.le_refl _) _).trans (b1.mono (by simp))
  obtain ⟨n, hn⟩ : ∃ n, ps.length = n := ⟨_, rfl⟩
  have HN := Lib.hid hn
  have HNP : Hid (0 < n) := Lib.hid (Nat.pos_of_ne_zero fun h => hps (List.length_eq_zero_iff.1 (hn.trans h)))
  obtain ⟨bw, o, c, rfl, hbw, hbw2, hcells⟩ : ∃ bw o c, v = .slice (some ⟨bw, o, none⟩) n c ∧ w.heap.size < bw ∧ bw < w1.heap.size ∧ ∀ j, j < n → w1.cell? ⟨bw, o + j, none⟩ = some (.string ⟨(ps.getD j []).toArray⟩) := by
    obtain ⟨_, a, c, rfl, hc⟩ := o1.reads
    obtain ⟨bw, o, rfl, h1, h2⟩ := hc (by simpa [strs] using hps)
    have hlen : (strs ps).length = n := by simp [strs, hn]
    rw [hlen] at h2 ⊢
    have hob := (o1.1.lt bw (by
      rcases o1.1.2 with ⟨hv, _⟩ | ⟨g, cap, cur, hv, _⟩
      · cases hv
      · injection hv with e1 e2 e3
        cases e1; rfl)).1
    exact ⟨bw, o, c, rfl, by omega, h1, fun j hj => (h2 j hj).trans (strs_get ps j (by omega))⟩
  have HC1 := Lib.hid hcells
  obtain ⟨bz, hbz⟩ : ∃ b, (t == [110, 111, 110, 101]) = b := ⟨_, rfl⟩
  have HBZ := Lib.hid hbz
  have hnb : n ≤ 1048577 := by omega
  clear HS o1 b1 HO0 hn hcells hbz hps hwl
  go_wp2_with fail
  go_loopw [4, 6] (fun ov i wr => ∃ (k : Nat) (p : Past w), k ≤ n ∧ k ≤ 40 ∧ i = .int .i64 k ∧ Hid (bz = true → k = 0) ∧ Hid (goodR (ps.take k) = true) ∧ Hid (p.w.ownsRow w.heap.size 28 2 ov k (prs (valsR (ps.take k)))) ∧ Hid (∀ g, ov.ownBlock = some g → g ≠ bw) ∧ bw < p.w.heap.size ∧ Hid (∀ j, j < n → p.w.cell? ⟨bw, o + j, none⟩ = some (.string ⟨(ps.getD j []).toArray⟩)) ∧ wr = p.w) (fun _ i _ => n - (intOf i).toNat)
  case atStart => exact ⟨0, ⟨w1, hp0⟩, Nat.zero_le _, by omega, rfl, Lib.hid (fun _ => rfl), Lib.hid rfl, HO1, Lib.hid (fun g hg => by cases hg; show w.heap.size ≠ bw; omega), hbw2, HC1, rfl⟩
  case round =>
    obtain ⟨k, p, hk, hk40, rfl, hz0', hgd, hown, hne, hbp, hcl, rfl⟩ := hrel
    by_cases hlt : k < n ∧ bz = false
    · obtain ⟨hkn, rfl⟩ := hlt
      have hd0 : (t == [110, 111, 110, 101]) = false := HBZ.out
      have htn : t ≠ [110, 111, 110, 101] := by simpa using hd0
      have hkp : k < ps.length := by rw [HN.out]; exact hkn
      have cc := hcl.out k hkn
      have hpk := HPL.out k
      have HPRB := Lib.hid fun h : goodR ps = false => show parseRules t = none by rw [HPR.out, if_neg htn, if_neg (fun h2 => by rw [h] at h2; cases h2.1)]
      have HPRL := Lib.hid fun h : 40 < n => show parseRules t = none by rw [HPR.out, if_neg htn, if_neg (fun h2 => by have := h2.2; have := HN.out; omega)]
      have HGT := Lib.hid fun x h => goodR_take (s := x) hkp hgd.out h
      have HVT := Lib.hid fun x h => valsR_take (s := x) hkp h
      have HBD := Lib.hid fun h => badR_at hkp h
      have HQ := Lib.hid (p.ofB (spec_parseRule (ps.getD k []) hpk p.w))
      obtain ⟨q, hq⟩ : ∃ q, ps.getD k [] = q := ⟨_, rfl⟩
      rw [hq] at cc HQ HGT HVT HBD
      clear hpk hq htn
      cases hr : parseRule q with
      | none =>
        have HZ := Lib.hid (HPRB.out (HBD.out hr))
        rw [hr] at HQ
        rw [show optR none = .tuple #[.agg #[.int .i64 0, .int .i64 0], .bool false] from rfl] at HQ
        clear hr
        go_wp2_with fail
        refine HQ.out.mono ?_
        rintro e _ ⟨rfl, p2, rfl, -⟩
        have hbb := p2.h.alloc p2.size (.cells #[.int .i64 0, .int .i64 0] 28)
        have hzV : w.heap.size ≤ (p2.w.alloc (.cells #[.int .i64 0, .int .i64 0] 28)).heap.size := hbb.size
        have h0 : (p2.w.alloc (.cells #[.int .i64 0, .int .i64 0] 28)).cell? ⟨p2.w.heap.size, 0, none⟩ = some (.int .i64 0) := by simp
        go_upto_region 7 with fail
        generalize p2.w.alloc (.cells #[.int .i64 0, .int .i64 0] 28) = V at hbb hzV h0 ⊢
        go_wp2_with fail
        go_ret2
        exact ⟨_, by rw [HZ.out]; rfl, by rw [HZ.out]; exact OwnP.made (World.ownsRow_lit V #[] 0 hzV (Nat.zero_le _) rfl), hbb.alloc hbb.size _⟩
      | some x =>
        obtain ⟨x0, x1⟩ := x
        have HG2 := Lib.hid (HGT.out _ hr)
        have HV2 := Lib.hid (HVT.out _ hr)
        rw [hr] at HQ
        rw [show optR (some (x0, x1)) = .tuple #[.agg #[.int .i64 x0, .int .i64 x1], .bool true] from rfl] at HQ
        clear hr HGT HVT HBD HPRB
        obtain ⟨av, cv, hov⟩ := rowP_form hown.out
        subst hov
        by_cases h40 : 40 ≤ k
        · have HZ := Lib.hid (HPRL.out (by omega))
          have hd4 : decide ((40 : Int) ≤ (k : Int)) = true := by simp; omega
          clear hgd hown
          go_wp2_with fail
          refine HQ.out.mono ?_
          rintro e _ ⟨rfl, p2, rfl, -⟩
          have hbb := p2.h.alloc p2.size (.cells #[.int .i64 x0, .int .i64 x1] 28)
          have hzV : w.heap.size ≤ (p2.w.alloc (.cells #[.int .i64 x0, .int .i64 x1] 28)).heap.size := hbb.size
          have h0 : (p2.w.alloc (.cells #[.int .i64 x0, .int .i64 x1] 28)).cell? ⟨p2.w.heap.size, 0, none⟩ = some (.int .i64 x0) := by simp
          go_upto_region 7 with fail
          generalize p2.w.alloc (.cells #[.int .i64 x0, .int .i64 x1] 28) = V at hbb hzV h0 ⊢
          go_wp2_with fail
          go_ret2
          exact ⟨_, by rw [HZ.out]; rfl, by rw [HZ.out]; exact OwnP.made (World.ownsRow_lit V #[] 0 hzV (Nat.zero_le _) rfl), hbb.alloc hbb.size _⟩
        · have hd4 : decide ((40 : Int) ≤ (k : Int)) = false := by simp; omega
          go_wp2_with fail
          refine HQ.out.mono ?_
          rintro e _ ⟨rfl, p2, rfl, b2⟩
          have hp2 := p2.size
          have hb2 := b2.size
          have HO2 := Lib.hid ((rowP_same hown.out fun k hk => b2.block k (hown.out.lt k hk).2).alloc (.cells #[.int .i64 x0, .int .i64 x1] 28))
          have HC2 : Hid (∀ j, j < n → (p2.w.alloc (.cells #[.int .i64 x0, .int .i64 x1] 28)).cell? ⟨bw, o + j, none⟩ = some (.string ⟨(ps.getD j []).toArray⟩)) := Lib.hid fun j hj => by
            rw [World.cell?_alloc_lt _ _ _ (by show bw < p2.w.heap.size; omega), b2.cell (p := ⟨bw, o + j, none⟩) hbp, hcl.out j hj]
          have h0 : (p2.w.alloc (.cells #[.int .i64 x0, .int .i64 x1] 28)).cell? ⟨p2.w.heap.size, 0, none⟩ = some (.int .i64 x0) := by simp
          have h1 : (p2.w.alloc (.cells #[.int .i64 x0, .int .i64 x1] 28)).cell? ⟨p2.w.heap.size, 1, none⟩ = some (.int .i64 x1) := by simp
          have hzz : p2.w.heap.size < (p2.w.alloc (.cells #[.int .i64 x0, .int .i64 x1] 28)).heap.size := by simp
          have hpp := Lib.hid (p2.h.alloc p2.size (.cells #[.int .i64 x0, .int .i64 x1] 28))
          clear b2 hown hcl
          go_upto_region 7 with fail
          generalize p2.w.alloc (.cells #[.int .i64 x0, .int .i64 x1] 28) = V at HO2 HC2 h0 h1 hzz hpp ⊢
          go_wp2_with (at_builtin; refine wpList_append_lies _ rfl _ _ _ rfl w.heap.size 28 i0 (.agg #[.int .i64 0, .int .i64 0]) 2 16 Tryz.underlying32 hinf hz0 hz1 hz2 rfl (by decide) _ k _ rfl (HO2.out.alloc _) ⟨V.heap.size, 0, none⟩ 1 1 (prs [(x0, x1)]) rfl rfl (newsR _ (x0, x1) _) (oneR _) Nat.one_pos (by unfold maxLen; omega) (by omega) (by simp; omega) _ rfl ?_)
          intro g cap w4 hown4 hgrow hat hlt4
          have hcm : ∀ j, j < n → w4.cell? ⟨bw, o + j, none⟩ = some (.string ⟨(ps.getD j []).toArray⟩) := fun j hj => by
            rw [World.cell?_of_block (w := V.alloc (.cells #[.int .i64 x0, .int .i64 x1] 28)) (hgrow.block bw (by simp; omega) (fun e => hne.out bw e.symm rfl)), World.cell?_alloc_lt _ _ _ (by show bw < V.heap.size; omega)]
            exact HC2.out j hj
          have hgb : g ≠ bw := by
            rcases hat with h | h
            · exact hne.out g h
            · omega
          have hw4 := (hpp.out.alloc hpp.out.size (.cells #[.int .i64 x0, .int .i64 x1] 28)).grown hgrow (by simp; omega) (fun q hq => (HO2.out.lt q hq).1)
          have hbw4 : bw < w4.heap.size := by have := hgrow.size; simp at this; omega
          have HR4 := Lib.hid hown4
          have HC4 := Lib.hid hcm
          have HW4 := Lib.hid hw4
          clear hown4 hgrow hat hlt4 hcm hw4
          go_wp2_with fail
          go_roundw
          case rel =>
            exact ⟨k + 1, ⟨w4, HW4.out⟩, by omega, by omega, by simp, Lib.hid (fun h => by cases h), HG2, Lib.hid (by
              have := HR4.out
              rw [HV2.out, prs_app]
              exact this), Lib.hid (fun g' hg' => by cases hg'; exact hgb), hbw4, HC4, rfl⟩
          case measure => simp [intOf]; omega
    · have hbb := p.h
      obtain ⟨av, cv, hov⟩ := rowP_form hown.out
      subst hov
      cases bz with
      | true =>
        have hk0 := hz0'.out rfl
        subst hk0
        have hd0 : (t == [110, 111, 110, 101]) = true := HBZ.out
        have HZ : Hid (parseRules t = some []) := Lib.hid (by rw [HPR.out, if_pos (by simpa using hd0)])
        have HO := Lib.hid (OwnP.made hown.out)
        have hn1 : 0 < n := HNP.out
        clear hown hlt
        go_wp2_with fail
        go_ret2
        exact ⟨_, by rw [HZ.out]; rfl, by rw [HZ.out]; exact HO.out, hbb⟩
      | false =>
        have hkn : k = n := Classical.byContradiction fun h => hlt ⟨by omega, rfl⟩
        have hd0 : (t == [110, 111, 110, 101]) = false := HBZ.out
        have htk : ps.take k = ps := List.take_of_length_le (by have := HN.out; omega)
        have hg := hgd.out
        rw [htk] at hg
        have HZ : Hid (parseRules t = some (valsR ps)) := Lib.hid (by rw [HPR.out, if_neg (by simpa using hd0), if_pos ⟨hg, by have := HN.out; omega⟩])
        have ho := hown.out
        rw [htk] at ho
        have HO := Lib.hid (OwnP.made ho)
        have HKN := Lib.hid hkn
        have hdk : decide ((k : Int) < (n : Int)) = false := by simp; omega
        clear hown hlt ho hg htk hgd
        go_wp2_with fail
        go_ret2
        exact ⟨_, by rw [HZ.out]; rfl, by rw [HZ.out]; exact HO.out, hbb⟩
end Go.Proofs.YtmdpiikffnfnbaaGreatDoor.Rule
