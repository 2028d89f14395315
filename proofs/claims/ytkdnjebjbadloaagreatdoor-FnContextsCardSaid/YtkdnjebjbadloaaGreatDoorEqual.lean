/-
  EqualContext of the program and of the model.
-/
import Derived.Test.YtkdnjebjbadloaaGreatDoorCtx
namespace Go.Proofs.YtkdnjebjbadloaaGreatDoor.Ctx
open Go Go.RowKit Mem Sets Ints
set_option maxRecDepth 100000

/-- Two rows are compared. -/
theorem l2Same (va vb : Value) (xs ys : List Int) (Ba Bb : Nat) (w : World) (ha : Reads w Ba va (ints xs)) (hb : Reads w Bb vb (ints ys)) (hBa : Ba ≤ w.heap.size) (hBb : Bb ≤ w.heap.size) :
    Calls Tryz.prog 43 #[va, vb] w fun e w' => e = .returned (.bool (xs == ys)) ∧ Below w.heap.size w w' := by
  obtain ⟨hla, a, ca, rfl, hca⟩ := ha
  obtain ⟨hlb, b, cb, rfl, hcb⟩ := hb
  simp only [ints, List.length_map] at hla hlb hca hcb ⊢
  by_cases hl : xs.length = ys.length
  · by_cases hne : xs = []
    · subst hne
      have hy : ys = [] := List.length_eq_zero_iff.1 hl.symm
      subst hy
      clear hca hcb
      go_enter Tryz.func43, Tryz.ntmps43
      go_wp2_with fail
      refine wp_loop_rounds 1 ?_
      rw [rounds_succ]
      go_wp2
      go_ret
      exact ⟨rfl, Below.refl _ _⟩
    · have hney : ys ≠ [] := by rintro rfl; exact hne (List.length_eq_zero_iff.1 (by simpa using hl))
      obtain ⟨ba, oa, rfl, hba, gca⟩ := hca (by simpa using hne)
      obtain ⟨bb, ob, rfl, hbb, gcb⟩ := hcb (by simpa using hney)
      have hq : ((xs.length : Int) != (ys.length : Int)) = false := by simp [hl]
      have Hla : xs.length ≤ 9223372036854775807 := by unfold maxLen at hla; omega
      have Hlb : ys.length ≤ 9223372036854775807 := by unfold maxLen at hlb; omega
      have HA := Lib.hid gca
      have HB := Lib.hid gcb
      clear hca hcb gca gcb hla hlb
      have Hl := Lib.hid hl
      go_enter Tryz.func43, Tryz.ntmps43
      go_wp2_with fail
      go_loopw [5] (fun i wr => ∃ k : Nat, k ≤ xs.length ∧ i = .int .i64 k ∧ xs.take k = ys.take k ∧ Below w.heap.size w wr) (fun i _ => xs.length - (intOf i).toNat)
      case atStart => exact ⟨0, Nat.zero_le _, rfl, rfl, Below.refl _ _⟩
      case round =>
        obtain ⟨k, hk, rfl, heq, hb⟩ := hrel
        by_cases hlt : k < xs.length
        · have c1 : wr.cell? ⟨ba, oa + k, none⟩ = some (.int .i64 (xs.getD k 0)) := (hb.cell (p := ⟨ba, oa + k, none⟩) (by show ba < _; omega)).trans ((HA.out k (by simpa using hlt)).trans (ints_get xs k hlt))
          have c2 : wr.cell? ⟨bb, ob + k, none⟩ = some (.int .i64 (ys.getD k 0)) := (hb.cell (p := ⟨bb, ob + k, none⟩) (by show bb < _; omega)).trans ((HB.out k (by simpa using (by omega : k < ys.length))).trans (ints_get ys k (by omega)))
          have Hq := Lib.hid heq
          have hlt2 : k < ys.length := by omega
          clear heq
          by_cases hxy : xs.getD k 0 = ys.getD k 0
          · have hd : (xs.getD k 0 != ys.getD k 0) = false := by simp only [hxy, bne_self_eq_false]
            have Hxy := Lib.hid hxy
            clear hxy
            generalize hgx : xs.getD k 0 = x at c1 hd
            generalize hgy : ys.getD k 0 = y at c2 hd
            have Gx := Lib.hid hgx
            have Gy := Lib.hid hgy
            clear hgx hgy
            go_wp2
            go_region
            all_goals go_wp2
            all_goals go_roundw
            case rel => exact ⟨k + 1, by omega, by simp, take_both Hl.out hlt Hq.out Hxy.out, hb.drew⟩
            case measure => simp [intOf]; omega
          · have hd : (xs.getD k 0 != ys.getD k 0) = true := by simp only [bne_iff_ne, ne_eq]; exact hxy
            have Hxy := Lib.hid hxy
            clear hxy
            generalize hgx : xs.getD k 0 = x at c1 hd
            generalize hgy : ys.getD k 0 = y at c2 hd
            have Gx := Lib.hid hgx
            have Gy := Lib.hid hgy
            clear hgx hgy
            go_wp2
            go_region
            all_goals go_wp2
            all_goals go_ret
            all_goals exact ⟨by rw [ne_at (j := k) Hxy.out]; rfl, hb.drew⟩
        · have hkn : k = xs.length := by omega
          have Hq := Lib.hid heq
          clear heq
          go_wp2
          go_ret
          exact ⟨by rw [eq_all Hl.out hkn Hq.out]; rfl, hb⟩
  · have hq : ((xs.length : Int) != (ys.length : Int)) = true := by simp; omega
    clear hca hcb
    go_enter Tryz.func43, Tryz.ntmps43
    go_wp2_with fail
    go_ret
    exact ⟨by rw [ne_len hl]; rfl, Below.refl _ _⟩
/-- Two rows are compared. -/
theorem slEqual (va vb : Value) (xs ys : List Int) (Ba Bb : Nat) (w : World) (ha : Reads w Ba va (ints xs)) (hb : Reads w Bb vb (ints ys)) (hBa : Ba ≤ w.heap.size) (hBb : Bb ≤ w.heap.size) :
    Calls Tryz.prog 47 #[va, vb] w fun e w' => e = .returned (.bool (xs == ys)) ∧ Below w.heap.size w w' := by
  obtain ⟨hla, a, ca, rfl, hca⟩ := ha
  obtain ⟨hlb, b, cb, rfl, hcb⟩ := hb
  simp only [ints, List.length_map] at hla hlb hca hcb ⊢
  by_cases hl : xs.length = ys.length
  · by_cases hne : xs = []
    · subst hne
      have hy : ys = [] := List.length_eq_zero_iff.1 hl.symm
      subst hy
      clear hca hcb
      go_enter Tryz.func47, Tryz.ntmps47
      go_wp2_with fail
      refine wp_loop_rounds 1 ?_
      rw [rounds_succ]
      go_wp2
      go_ret
      exact ⟨rfl, Below.refl _ _⟩
    · have hney : ys ≠ [] := by rintro rfl; exact hne (List.length_eq_zero_iff.1 (by simpa using hl))
      obtain ⟨ba, oa, rfl, hba, gca⟩ := hca (by simpa using hne)
      obtain ⟨bb, ob, rfl, hbb, gcb⟩ := hcb (by simpa using hney)
      have hq : ((xs.length : Int) != (ys.length : Int)) = false := by simp [hl]
      have Hla : xs.length ≤ 9223372036854775807 := by unfold maxLen at hla; omega
      have Hlb : ys.length ≤ 9223372036854775807 := by unfold maxLen at hlb; omega
      have HA := Lib.hid gca
      have HB := Lib.hid gcb
      clear hca hcb gca gcb hla hlb
      have Hl := Lib.hid hl
      go_enter Tryz.func47, Tryz.ntmps47
      go_wp2_with fail
      go_loopw [13] (fun i wr => ∃ k : Nat, k ≤ xs.length ∧ i = .int .i64 k ∧ xs.take k = ys.take k ∧ Below w.heap.size w wr) (fun i _ => xs.length - (intOf i).toNat)
      case atStart => exact ⟨0, Nat.zero_le _, rfl, rfl, Below.refl _ _⟩
      case round =>
        obtain ⟨k, hk, rfl, heq, hb⟩ := hrel
        by_cases hlt : k < xs.length
        · have c1 : wr.cell? ⟨ba, oa + k, none⟩ = some (.int .i64 (xs.getD k 0)) := (hb.cell (p := ⟨ba, oa + k, none⟩) (by show ba < _; omega)).trans ((HA.out k (by simpa using hlt)).trans (ints_get xs k hlt))
          have c2 : wr.cell? ⟨bb, ob + k, none⟩ = some (.int .i64 (ys.getD k 0)) := (hb.cell (p := ⟨bb, ob + k, none⟩) (by show bb < _; omega)).trans ((HB.out k (by simpa using (by omega : k < ys.length))).trans (ints_get ys k (by omega)))
          have Hq := Lib.hid heq
          have hlt2 : k < ys.length := by omega
          clear heq
          by_cases hxy : xs.getD k 0 = ys.getD k 0
          · have hd : (xs.getD k 0 != ys.getD k 0) = false := by simp only [hxy, bne_self_eq_false]
            have Hxy := Lib.hid hxy
            clear hxy
            generalize hgx : xs.getD k 0 = x at c1 hd
            generalize hgy : ys.getD k 0 = y at c2 hd
            have Gx := Lib.hid hgx
            have Gy := Lib.hid hgy
            clear hgx hgy
            go_wp2
            go_region
            all_goals go_wp2
            all_goals go_roundw
            case rel => exact ⟨k + 1, by omega, by simp, take_both Hl.out hlt Hq.out Hxy.out, hb.drew⟩
            case measure => simp [intOf]; omega
          · have hd : (xs.getD k 0 != ys.getD k 0) = true := by simp only [bne_iff_ne, ne_eq]; exact hxy
            have Hxy := Lib.hid hxy
            clear hxy
            generalize hgx : xs.getD k 0 = x at c1 hd
            generalize hgy : ys.getD k 0 = y at c2 hd
            have Gx := Lib.hid hgx
            have Gy := Lib.hid hgy
            clear hgx hgy
            go_wp2
            go_region
            all_goals go_wp2
            all_goals go_ret
            all_goals exact ⟨by rw [ne_at (j := k) Hxy.out]; rfl, hb.drew⟩
        · have hkn : k = xs.length := by omega
          have Hq := Lib.hid heq
          clear heq
          go_wp2
          go_ret
          exact ⟨by rw [eq_all Hl.out hkn Hq.out]; rfl, hb⟩
  · have hq : ((xs.length : Int) != (ys.length : Int)) = true := by simp; omega
    clear hca hcb
    go_enter Tryz.func47, Tryz.ntmps47
    go_wp2_with fail
    go_ret
    exact ⟨by rw [ne_len hl]; rfl, Below.refl _ _⟩
theorem spec_eqc (a b : Int) (va vb : Value) (xs ys : List Int) (Ba Bb : Nat) (w : World) (ha : Reads w Ba va (ints xs)) (hb : Reads w Bb vb (ints ys)) (hBa : Ba ≤ w.heap.size) (hBb : Bb ≤ w.heap.size) :
    Calls Tryz.prog 16 #[ctx a va, ctx b vb] w fun e w' => e = .returned (.bool (a == b && xs == ys)) ∧ Below w.heap.size w w' := by
  obtain ⟨aa, ca, rfl⟩ := reads_form ha
  obtain ⟨ab, cb, rfl⟩ := reads_form hb
  by_cases h : a = b
  · subst h
    have hd : (a == a) = true := by simp
    have HA := Lib.hid ha
    have HB := Lib.hid hb
    clear ha hb
    generalize hq : (xs == ys) = q
    have HQ := Lib.hid hq
    clear hq
    go_enter Tryz.func16, Tryz.ntmps16
    go_wp2_with fail
    refine (l2Same _ _ xs ys Ba Bb _ (HA.out.below (B' := w.heap.size) (((Below.refl _ _).alloc (Nat.le_refl _) _).alloc (by simp) _) hBa) (HB.out.below (B' := w.heap.size) (((Below.refl _ _).alloc (Nat.le_refl _) _).alloc (by simp) _) hBb) (by simp; omega) (by simp; omega)).mono ?_
    rintro e w1 ⟨rfl, b⟩
    rw [HQ.out]
    have BB := Lib.hid b
    clear b
    go_wp2_with fail
    go_ret
    exact ⟨by simp, ((((Below.refl _ _).alloc (Nat.le_refl _) _).alloc (by simp) _).trans (BB.out.mono (by simp; omega)))⟩
  · have hd : (a == b) = false := by simpa using h
    clear ha hb h
    go_enter Tryz.func16, Tryz.ntmps16
    go_wp2_with fail
    go_ret
    exact ⟨by simp [hd], (((Below.refl _ _).alloc (Nat.le_refl _) _).alloc (by simp) _)⟩
theorem impl_eqc (a b : Int) (va vb : Value) (xs ys : List Int) (Ba Bb : Nat) (w : World) (ha : Reads w Ba va (ints xs)) (hb : Reads w Bb vb (ints ys)) (hBa : Ba ≤ w.heap.size) (hBb : Bb ≤ w.heap.size) :
    Calls Tryz.prog 19 #[ctx a va, ctx b vb] w fun e w' => e = .returned (.bool (a == b && xs == ys)) ∧ Below w.heap.size w w' := by
  obtain ⟨aa, ca, rfl⟩ := reads_form ha
  obtain ⟨ab, cb, rfl⟩ := reads_form hb
  by_cases h : a = b
  · subst h
    have hd : (a == a) = true := by simp
    have HA := Lib.hid ha
    have HB := Lib.hid hb
    clear ha hb
    generalize hq : (xs == ys) = q
    have HQ := Lib.hid hq
    clear hq
    go_enter Tryz.func19, Tryz.ntmps19
    go_wp2_with fail
    refine (slEqual _ _ xs ys Ba Bb _ (HA.out.below (B' := w.heap.size) (((Below.refl _ _).alloc (Nat.le_refl _) _).alloc (by simp) _) hBa) (HB.out.below (B' := w.heap.size) (((Below.refl _ _).alloc (Nat.le_refl _) _).alloc (by simp) _) hBb) (by simp; omega) (by simp; omega)).mono ?_
    rintro e w1 ⟨rfl, b⟩
    rw [HQ.out]
    have BB := Lib.hid b
    clear b
    go_wp2_with fail
    go_ret
    exact ⟨by simp, ((((Below.refl _ _).alloc (Nat.le_refl _) _).alloc (by simp) _).trans (BB.out.mono (by simp; omega)))⟩
  · have hd : (a == b) = false := by simpa using h
    clear ha hb h
    go_enter Tryz.func19, Tryz.ntmps19
    go_wp2_with fail
    go_ret
    exact ⟨by simp [hd], (((Below.refl _ _).alloc (Nat.le_refl _) _).alloc (by simp) _)⟩
end Go.Proofs.YtkdnjebjbadloaaGreatDoor.Ctx
