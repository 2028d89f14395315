/-
  Chapter 7 of the model: Clarify.
-/
import Derived.Test.YtlomfgbmijhgiaaRedS2
namespace Go.Proofs.Ytlomfgbmijhgiaa.Ctx
open Go Go.RowKit Mem Sets Elems
set_option maxRecDepth 100000
attribute [local go_sem ↓] Go.wp_at_zero Go.wp_at_succ

theorem someCtx {x : Option (Int × List Int)} {n : Int} {xs : List Int} (hx : x = some (n, xs)) {w : World} {e : Ending} {w' : World} (h : CtxRes x w e w') :
    ∃ p c, e = .returned (.tuple #[ctx n (.slice p xs.length c), .bool true]) ∧ Own 3 w' w.heap.size w'.heap.size (.slice p xs.length c) (ints xs) ∧ Below w.heap.size w w' := by
  subst hx
  obtain ⟨u, he, o, b⟩ := h
  obtain ⟨p, c, rfl⟩ := own_form o
  exact ⟨p, c, he, o, b⟩
theorem ownBx {e : TypeId} {w : World} {lo hi : Nat} {v : Value} {cs : List Value} (h : Mem.Own e w lo hi v cs) (hh : hi ≤ w.heap.size) (o : Obj) : Mem.Own e (w.alloc o) lo hi v cs := h.below (B := w.heap.size) ((Below.refl _ _).alloc (Nat.le_refl _) o) hh
theorem ded_contains (rs : List Int) (k : Nat) (x : Int) : decide (x ∈ dedTo rs k) = (dedTo rs k).contains x := by
  rw [Bool.eq_iff_iff, decide_eq_true_eq, List.contains_iff_mem]
theorem pow_absorb (g m : Nat) : (g ||| 2 ^ m) ||| 2 ^ m = g ||| 2 ^ m := by rw [Nat.or_assoc, Nat.or_self]
/-- The places found so far: g, and m where one of the first n numbers is that of place m. -/
def twinTo (xs : List Int) (g m n : Nat) : Nat := if (xs.take n).contains (xs.getD m 0) = true then g ||| 2 ^ m else g
theorem twinTo_zero (xs : List Int) (g m : Nat) : twinTo xs g m 0 = g := by simp [twinTo]
theorem twinTo_end (xs : List Int) (m : Nat) : twinTo xs (dupTo xs m) m m = dupTo xs (m + 1) := by rw [twinTo, dupTo]
theorem twinTo_yes {xs : List Int} {g m n : Nat} (hn : n < xs.length) (h : xs.getD n 0 = xs.getD m 0) : twinTo xs g m (n + 1) = twinTo xs g m n ||| 2 ^ m := by
  have h1 : (xs.take (n + 1)).contains (xs.getD m 0) = true := List.contains_iff_mem.2 ((take_mem hn).2 (.inr h.symm))
  unfold twinTo
  rw [if_pos h1]
  split
  · rw [pow_absorb]
  · rfl
theorem twinTo_no {xs : List Int} {g m n : Nat} (hn : n < xs.length) (h : ¬ xs.getD n 0 = xs.getD m 0) : twinTo xs g m (n + 1) = twinTo xs g m n := by
  have h1 : (xs.take (n + 1)).contains (xs.getD m 0) = (xs.take n).contains (xs.getD m 0) := by
    rw [Bool.eq_iff_iff, List.contains_iff_mem, List.contains_iff_mem, take_mem hn]
    exact ⟨fun h2 => h2.elim id fun e => absurd e.symm h, .inl⟩
  unfold twinTo
  rw [h1]
theorem twinTo_256 {xs : List Int} {g m n : Nat} (hg : g < 256) (hm : m < 8) : twinTo xs g m n < 256 := by
  unfold twinTo
  split
  · exact Nat.or_lt_two_pow (n := 8) hg (Nat.pow_lt_pow_right (by omega) (by omega))
  · exact hg
theorem colTo_256 {a : Int} {rs : List Int} (h : isCtx a rs = true) (m : Nat) : colTo rs m rs.length < 256 := Nat.lt_of_lt_of_le (colTo_lt rs m rs.length) (pow_le8 (isCtx_parts h).2.2.1)
set_option maxHeartbeats 8000000 in
theorem spec_clarify (a : Int) (v : Value) (rs : List Int) (B : Nat) (w : World) (hr : Reads w B v (ints rs)) (hB : B ≤ w.heap.size) :
    Calls Try.prog 47 #[ctx a v] w (CtxRes (clarify a rs) w) := by
  obtain ⟨i0, hi, hz0, hz1, hz2⟩ := info_parts Ints.info
  obtain ⟨aa, ca, rfl⟩ := reads_form hr
  have hW := ((Below.refl w.heap.size w).alloc (Nat.le_refl _) (.cells #[.int .i64 a, .slice aa rs.length ca] 26)).alloc (by simp) (.cells #[.int .i64 0, .slice none 0 0] 26)
  have HR1 := Lib.hid (hr.below hW hB)
  have q0 : ((w.alloc (.cells #[.int .i64 a, .slice aa rs.length ca] 26)).alloc (.cells #[.int .i64 0, .slice none 0 0] 26)).cell? ⟨w.heap.size, 0, none⟩ = some (.int .i64 a) := by simp
  have q1 : ((w.alloc (.cells #[.int .i64 a, .slice aa rs.length ca] 26)).alloc (.cells #[.int .i64 0, .slice none 0 0] 26)).cell? ⟨w.heap.size, 1, none⟩ = some (.slice aa rs.length ca) := by simp
  have hbx : BoxAt ((w.alloc (.cells #[.int .i64 a, .slice aa rs.length ca] 26)).alloc (.cells #[.int .i64 0, .slice none 0 0] 26)) (w.heap.size + 1) 26 #[.int .i64 0, .slice none 0 0] := by
    have := BoxAt.new (w.alloc (.cells #[.int .i64 a, .slice aa rs.length ca] 26)) 26 #[.int .i64 0, .slice none 0 0]; simpa using this
  have hz : w.heap.size + 2 ≤ ((w.alloc (.cells #[.int .i64 a, .slice aa rs.length ca] 26)).alloc (.cells #[.int .i64 0, .slice none 0 0] 26)).heap.size := by simp
  clear hr
  go_enter Try.func47, Try.ntmps47
  go_wp2_with fail
  generalize ((w.alloc (.cells #[.int .i64 a, .slice aa rs.length ca] 26)).alloc (.cells #[.int .i64 0, .slice none 0 0] 26)) = W at HR1 hW q0 q1 hz hbx ⊢
  refine (spec_isCtx a _ rs B W HR1.out (by omega)).mono ?_
  rintro e w1 ⟨rfl, b1⟩
  have hy1 := b1.size
  have p0 : w1.cell? ⟨w.heap.size, 0, none⟩ = some (.int .i64 a) := (b1.cell (p := ⟨w.heap.size, 0, none⟩) (by show w.heap.size < _; omega)).trans q0
  have p1 : w1.cell? ⟨w.heap.size, 1, none⟩ = some (.slice aa rs.length ca) := (b1.cell (p := ⟨w.heap.size, 1, none⟩) (by show w.heap.size < _; omega)).trans q1
  have HR2 := Lib.hid (HR1.out.below b1 (by omega))
  have B1 := Lib.hid (hW.trans (b1.mono (by omega)))
  have HBX1 := Lib.hid (hbx.below b1 (by omega))
  have hzw : w.heap.size + 2 ≤ w1.heap.size := by omega
  clear b1 q0 q1 hbx hW HR1 hz
  cases hic : isCtx a rs with
  | false =>
    have HX : Hid (clarify a rs = none) := Lib.hid (by rw [clarify, if_neg (by simp [hic])])
    have e0 : w1.cell? ⟨w.heap.size + 1, 0, none⟩ = some (.int .i64 0) := HBX1.out.cell 0
    have e1 : w1.cell? ⟨w.heap.size + 1, 1, none⟩ = some (.slice none 0 0) := HBX1.out.cell 1
    have f0 : w1.frozen? ⟨w.heap.size + 1, 0, none⟩ = false := HBX1.out.free 0
    have f1 : w1.frozen? ⟨w.heap.size + 1, 1, none⟩ = false := HBX1.out.free 1
    clear hic
    go_wp2_with fail
    refine bodyPost_ret (v := .tuple #[ctx 0 (.slice none 0 0), .bool false]) (by simp [results, Try.results47, go_sem, e0, e1]) rfl (ctxRes_none HX.out ?_)
    exact (B1.out.setCell (p := ⟨w.heap.size + 1, 0, none⟩) (by show w.heap.size ≤ w.heap.size + 1; omega) _).setCell (p := ⟨w.heap.size + 1, 1, none⟩) (by show w.heap.size ≤ w.heap.size + 1; omega) _
  | true =>
    have HI := Lib.hid hic
    have HX : Hid (clarify a rs = dropA a (dedTo rs rs.length) ((twins a (dedTo rs rs.length) : Nat) : Int)) := Lib.hid (by rw [clarify, if_pos hic])
    obtain ⟨ha0, ha6, h8, -⟩ := isCtx_parts hic
    have hB1 : B ≤ w1.heap.size := by omega
    clear hic
    go_wp2_with fail
    go_loopw [5] (fun i wr => ∃ (k : Nat) (v' : Value), k ≤ rs.length ∧ i = .int .i64 k ∧ Hid (BoxAt wr w1.heap.size 26 #[.int .i64 a, v']) ∧ Hid (wr.ownsRow (w1.heap.size + 1) 3 1 v' (dedTo rs k).length (ints (dedTo rs k))) ∧ Hid (Below w1.heap.size w1 wr)) (fun i _ => rs.length - (intOf i).toNat)
    case atStart => exact ⟨0, .slice none 0 0, Nat.zero_le _, rfl, Lib.hid (BoxAt.new _ _ _), Lib.hid (World.ownsRow_nil _ _ _ _), Lib.hid ((Below.refl _ _).alloc (Nat.le_refl _) _)⟩
    case round =>
      obtain ⟨k, v', hk, rfl, hbox, hown, hbel⟩ := hrel
      obtain ⟨av, cv, rfl⟩ := owns_form hown.out
      have hzr : w1.heap.size < wr.heap.size := hbox.out.lt
      have c1 : wr.cell? ⟨w.heap.size, 1, none⟩ = some (.slice aa rs.length ca) := (hbel.out.cell (p := ⟨w.heap.size, 1, none⟩) (by show w.heap.size < _; omega)).trans p1
      have c2 : wr.cell? ⟨w1.heap.size, 1, none⟩ = some (.slice av (dedTo rs k).length cv) := hbox.out.cell 1
      by_cases hlt : k < rs.length
      · have hlen := Nat.le_trans (dedTo_len rs k) hk
        have hfr : Mem.Own 3 wr (w1.heap.size + 1) wr.heap.size (.slice av (dedTo rs k).length cv) (ints (dedTo rs k)) := Own.made hown.out
        obtain ⟨_, _, _, hv, hcells⟩ := HR2.out
        injection hv with e1 e2 e3
        subst e1 e3
        clear e2
        obtain ⟨bk, o, rfl, hb, gca⟩ := hcells (by intro h; simp [ints] at h; subst h; simp at hlt)
        have ce : wr.cell? ⟨bk, o + k, none⟩ = some (.int .i64 (rs.getD k 0)) := (hbel.out.cell (p := ⟨bk, o + k, none⟩) (by show bk < _; omega)).trans ((gca k (by simpa [ints] using hlt)).trans (ints_get rs k hlt))
        clear gca hcells
        have HIN := Lib.hid fun p : Past wr => by
          have := p.ofSame (Sets2.l2In _ (dedTo rs k) (rs.getD k 0) wr.heap.size p.w (Past.reads hfr.reads (Nat.le_refl _) p))
          rw [ded_contains] at this
          exact this
        have k1 := fun p : Past wr => Past.cell c1 (by show w.heap.size < _; omega) p
        have k2 := fun p : Past wr => Past.cell c2 (by show w1.heap.size < _; omega) p
        have ke := fun p : Past wr => Past.cell ce (by show bk < _; omega) p
        cases hbt : (dedTo rs k).contains (rs.getD k 0) with
        | true =>
          have HST := Lib.hid (dedTo_yes hbt)
          rw [hbt] at HIN
          clear hbt hfr
          generalize rs.getD k 0 = x at HIN ke
          go_wp2_with fail
          refine wp_region_past (by kernel_rfl) (by kernel_rfl) ?_
          repeat (go_big_quiet_step (with_reducible exact HIN.out _))
          refine wpQuiet_nil ?_
          rintro _ ⟨p, rfl⟩
          go_wp2_with fail
          go_roundw
          case rel => exact ⟨k + 1, _, by omega, by simp, Lib.hid (hbox.out.below p.h (by omega)), Lib.hid (by rw [HST.out]; exact owns_below hown.out p.h), Lib.hid (hbel.out.trans (p.h.mono (by omega)))⟩
          case measure => simp [intOf]; omega
        | false =>
          have HST := Lib.hid (dedTo_no hbt)
          rw [hbt] at HIN
          clear hbt hfr
          generalize rs.getD k 0 = x at HIN ke HST
          generalize dedTo rs k = xs at *
          go_wp2_with fail
          refine wp_region_past (by kernel_rfl) (by kernel_rfl) ?_
          repeat (go_big_quiet_step (with_reducible exact HIN.out _))
          refine wpQuiet_nil ?_
          rintro _ ⟨p, rfl⟩
          have c1 := k1 p
          have c2 := k2 p
          have ce := ke p
          have hbox := Lib.hid (hbox.out.below p.h (by omega))
          have hown := Lib.hid (owns_below hown.out p.h)
          have hbel := Lib.hid (hbel.out.trans (p.h.mono (by omega)))
          have c2f : p.w.frozen? ⟨w1.heap.size, 1, none⟩ = false := hbox.out.free 1
          have hzr : w1.heap.size < p.w.heap.size := hbox.out.lt
          clear k1 k2 ke HIN
          obtain ⟨wr2, hwr2⟩ : ∃ wr2, p.w = wr2 := ⟨_, rfl⟩
          rw [hwr2] at c1 c2 ce hbox hown hbel c2f hzr ⊢
          clear hwr2 p
          have HK1 : Hid (xs.length + 1 ≤ maxLen) := Lib.hid (by unfold maxLen; omega)
          have HK2 : Hid ((xs.length + 1) * 8 ≤ 140737488355328) := Lib.hid (by omega)
          clear hlen
          go_wp2_with fail
          go_region_law (first | (refine step_append_lies _ (by rfl) _ _ _ (by rfl) (w1.heap.size + 1) 3 i0 (.int .i64 0) 1 8 Try.underlying22 hi hz0 hz1 hz2 rfl (by decide) _ xs.length _ (by rfl) (show (wr2.alloc _).drew.ownsRow _ _ _ _ _ _ from hown.out.alloc _) ⟨wr2.heap.size, 0, none⟩ 1 1 [.int .i64 x] (by rfl) (by rfl) (news1 _ _ _) (one1 _ _) Nat.one_pos HK1.out HK2.out (Nat.le_trans hzr (Below.refl 0 wr2 |>.alloc (Nat.zero_le _) _).size) _ rfl ?_; intro g cap w3 hown3 hgrow hat hlt3; have b4' := ((Below.refl w1.heap.size wr2).alloc (Nat.le_of_lt hzr) _).drew.grown hgrow (Nat.le_trans (Nat.le_of_lt hzr) (Below.refl 0 wr2 |>.alloc (Nat.zero_le _) _).size) (fun q hq => Nat.le_trans (Nat.le_succ _) (hown.out.lt q hq).1); have f4 := (((hbox.out.alloc _).drew.grown hgrow (fun e => by have := (hown.out.lt _ e.symm).1; omega))); have d4 := f4.cell 1; have g4 := f4.free 1) | fail)
          all_goals
            have HB4 := Lib.hid (f4.set 1 (.slice (some ⟨g, 0, none⟩) (xs.length + 1) cap))
            have HO4 := Lib.hid (ownsRow_setCell_below hown3 (a := ⟨w1.heap.size, 1, none⟩) (by show w1.heap.size < _; omega) (.slice (some ⟨g, 0, none⟩) (xs.length + 1) cap))
            have HW4 := Lib.hid ((hbel.out.trans b4').setCell (p := ⟨w1.heap.size, 1, none⟩) (by show w1.heap.size ≤ w1.heap.size; omega) (.slice (some ⟨g, 0, none⟩) (xs.length + 1) cap))
            clear b4' hown3 hgrow hat hlt3 f4 d4 g4
            go_wp2_with fail
            go_roundw
            case rel => exact ⟨k + 1, _, by omega, by simp, HB4, Lib.hid (by rw [HST.out]; simpa [ints] using HO4.out), HW4⟩
            case measure => simp [intOf]; omega
      · have hk' : k = rs.length := by omega
        rw [hk'] at hown hbox c2
        clear hk' hk
        have HDC := Lib.hid (dedTo_ctx HI.out)
        have BX := Lib.hid (HBX1.out.below hbel.out (by omega))
        have BT := Lib.hid (B1.out.trans (hbel.out.mono (by omega)))
        have RQ := Lib.hid (Own.made hown.out).reads
        have hd0 := (isCtx_parts HDC.out).2.2.1
        generalize dedTo rs rs.length = ds at hown hbox c2 HDC RQ HX hd0
        have k0 : ∀ p : Past wr, p.w.cell? ⟨w1.heap.size, 0, none⟩ = some (.int .i64 a) := fun p => Past.cell (hbox.out.cell 0) hzr p
        have k1 : ∀ p : Past wr, p.w.cell? ⟨w1.heap.size, 1, none⟩ = some (.slice av ds.length cv) := fun p => Past.cell (hbox.out.cell 1) hzr p
        have HL := Lib.hid fun (p : Past wr) (m : Nat) (hm : m < a.toNat) => by
          have := p.of (l3Column a (.slice av ds.length cv) ds m wr.heap.size p.w (Past.reads RQ.out (Nat.le_refl _) p) p.size HDC.out (by omega))
          rw [← cols_get hm] at this
          exact this
        have hcl : (cols a ds).length = a.toNat := dualTo_length _ _
        obtain ⟨b, hb⟩ : ∃ b, count (keepOf a ((twins a ds : Nat) : Int)) = b := ⟨_, rfl⟩
        obtain ⟨l, hl⟩ : ∃ l, packRows ds (keepOf a ((twins a ds : Nat) : Int)) ds.length = l := ⟨_, rfl⟩
        have hdA : dropA a ds ((twins a ds : Nat) : Int) = some (b, l) := by rw [dropA, if_pos ⟨HDC.out, twins_isSet HDC.out⟩, hb, hl]
        have HD := Lib.hid fun p : Past wr => (spec_dropA a (.slice av ds.length cv) ds ((twins a ds : Nat) : Int) _ p.w (Past.reads RQ.out (Nat.le_refl _) p) p.size).mono fun e w' h => someCtx hdA h
        have HXs : Hid (clarify a rs = some (b, l)) := Lib.hid (HX.out.trans hdA)
        have HT : Hid (dupTo (cols a ds) a.toNat = twins a ds) := Lib.hid rfl
        generalize cols a ds = cs at HL hcl HT
        generalize twins a ds = tw at HD HT
        have HCL := Lib.hid hcl
        have HG : Hid (∀ m, m ≤ a.toNat → dupTo cs m < 256) := Lib.hid fun m hm => Nat.lt_of_lt_of_le (dupTo_lt cs m) (pow_le8 (by omega))
        clear hb hl hdA HX hcl hown hbox HBX1 B1 HR2 HI HDC RQ hd0 p0 p1
        go_wp2_with fail
        go_loopw [6, 7] (fun t i wx => ∃ m c : Nat, m ≤ a.toNat ∧ i = .int .i64 m ∧ t = .int .i64 c ∧ c < 256 ∧ Hid (c = dupTo cs m) ∧ ∃ p : Past wr, wx = p.w) (fun _ i _ => a.toNat - (intOf i).toNat)
        case atStart => exact ⟨0, 0, Nat.zero_le _, rfl, rfl, by omega, Lib.hid rfl, Past.start wr, rfl⟩
        case round =>
          obtain ⟨m, c, hm, rfl, rfl, hc, HC, p, rfl⟩ := hrel
          have kp0 := k0 p
          have kp1 := k1 p
          by_cases hlm : m < a.toNat
          · have HLm := Lib.hid fun q : Past wr => HL.out q m hlm
            have HTZ := Lib.hid (twinTo_zero cs c m)
            have HTE : Hid (twinTo cs c m m = dupTo cs (m + 1)) := Lib.hid (by rw [HC.out]; exact twinTo_end cs m)
            have HT2 := Lib.hid fun n => twinTo_256 (xs := cs) (n := n) hc (show m < 8 by omega)
            have HY := Lib.hid fun n hn h => twinTo_yes (xs := cs) (g := c) (m := m) (n := n) hn h
            have HN := Lib.hid fun n hn h => twinTo_no (xs := cs) (g := c) (m := m) (n := n) hn h
            generalize cs.getD m 0 = x at HLm HY HN
            go_wp2_with fail
            go_loopw [6, 8] (fun t i wx => ∃ n d : Nat, n ≤ m ∧ i = .int .i64 n ∧ t = .int .i64 d ∧ d < 256 ∧ Hid (d = twinTo cs c m n) ∧ ∃ p : Past wr, wx = p.w) (fun _ i _ => m - (intOf i).toNat)
            case atStart => exact ⟨0, c, Nat.zero_le _, rfl, rfl, hc, Lib.hid HTZ.out.symm, p, rfl⟩
            case round =>
              obtain ⟨n, d, hn, rfl, rfl, hd, HD2, p2, rfl⟩ := hrel
              by_cases hln : n < m
              · have HLn := Lib.hid fun q : Past wr => HL.out q n (by omega)
                have hY := Lib.hid (HY.out n (by rw [HCL.out]; omega))
                have hN := Lib.hid (HN.out n (by rw [HCL.out]; omega))
                generalize cs.getD n 0 = y at HLn hY hN
                by_cases hyx : y = x
                · have d0 : (y == x) = true := by simp [hyx]
                  have HST := Lib.hid (hY.out hyx)
                  clear hyx
                  go_wp2_with fail
                  refine wp_region_pastIn p2 (by kernel_rfl) (by kernel_rfl) ?_
                  repeat (go_big_quiet_step (first | with_reducible exact HLn.out _ | with_reducible exact HLm.out _))
                  refine wpQuiet_nil ?_
                  rintro _ ⟨p3, rfl⟩
                  go_wp2_with fail
                  go_roundw
                  case rel => exact ⟨n + 1, d ||| 2 ^ m, by omega, by simp, by rw [or_pow d m hd (by omega)], Nat.or_lt_two_pow (n := 8) hd (Nat.pow_lt_pow_right (by omega) (by omega)), Lib.hid (by rw [HST.out, ← HD2.out]), p3, rfl⟩
                  case measure => simp [intOf]; omega
                · have d0 : (y == x) = false := by simp [hyx]
                  have HST := Lib.hid (hN.out hyx)
                  clear hyx
                  go_wp2_with fail
                  refine wp_region_pastIn p2 (by kernel_rfl) (by kernel_rfl) ?_
                  repeat (go_big_quiet_step (first | with_reducible exact HLn.out _ | with_reducible exact HLm.out _))
                  refine wpQuiet_nil ?_
                  rintro _ ⟨p3, rfl⟩
                  go_wp2_with fail
                  go_roundw
                  case rel => exact ⟨n + 1, d, by omega, by simp, rfl, hd, Lib.hid (by rw [HST.out, ← HD2.out]), p3, rfl⟩
                  case measure => simp [intOf]; omega
              · have hnm : n = m := by omega
                have HE : Hid (d = dupTo cs (m + 1)) := Lib.hid (by rw [HD2.out, hnm, HTE.out])
                clear hnm
                go_wp2_with fail
                go_roundw
                case rel => exact ⟨m + 1, d, by omega, by simp, rfl, hd, HE, p2, rfl⟩
                case measure => simp [intOf]; omega
          · have hma : m = a.toNat := by omega
            have hct : c = tw := by rw [HC.out, hma, HT.out]
            subst hct
            clear hma HL HG HC HT
            go_wp2_with fail
            refine (HD.out p).mono ?_
            rintro e w3 ⟨pa, pc, rfl, o3, b3⟩
            have hy3 := b3.size
            have hyp := p.size
            have HB3 := BX.out.below (p.h.trans (b3.mono hyp)) (by omega)
            have e0 : ∀ o, (w3.alloc o).cell? ⟨w.heap.size + 1, 0, none⟩ = some (.int .i64 0) := fun o => (HB3.alloc o).cell 0
            have e1 : ∀ o, (w3.alloc o).cell? ⟨w.heap.size + 1, 1, none⟩ = some (.slice none 0 0) := fun o => (HB3.alloc o).cell 1
            have f0 : ∀ o, (w3.alloc o).frozen? ⟨w.heap.size + 1, 0, none⟩ = false := fun o => (HB3.alloc o).free 0
            have f1 : ∀ o, (w3.alloc o).frozen? ⟨w.heap.size + 1, 1, none⟩ = false := fun o => (HB3.alloc o).free 1
            have O3 := Lib.hid o3
            have BZ := Lib.hid (BT.out.trans ((p.h.trans (b3.mono hyp)).mono (by omega)))
            clear o3 b3 HB3
            go_wp2_with fail
            refine bodyPost_ret (v := .tuple #[ctx b (.slice pa l.length pc), .bool true]) (by simp [results, Try.results47, go_sem, e0, e1]) rfl (ctxRes_some HXs.out ?_ ?_)
            · refine (own_set (own_set (ownBx O3.out (by omega) _) (p := ⟨w.heap.size + 1, 0, none⟩) (.inl (by show w.heap.size + 1 < _; omega)) _) (p := ⟨w.heap.size + 1, 1, none⟩) (.inl (by show w.heap.size + 1 < _; omega)) _).mono (by omega) (by simp)
            · exact ((BZ.out.alloc (by omega) _).setCell (p := ⟨w.heap.size + 1, 0, none⟩) (by show w.heap.size ≤ w.heap.size + 1; omega) _).setCell (p := ⟨w.heap.size + 1, 1, none⟩) (by show w.heap.size ≤ w.heap.size + 1; omega) _
end Go.Proofs.Ytlomfgbmijhgiaa.Ctx
