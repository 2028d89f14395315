/-
  Chapter 3's functions that return a number, a bool or a context, one contract each, of the program and of the model: ColumnOf, DualContext, ComplementContext, EqualContext.
-/
import Derived.Test.YthodmmckekgkdaaCtx
import Derived.Deep.RegionHeld3
namespace Go.Proofs.Ythodmmckekgkdaa.Ctx
open Go Go.RowKit Mem Sets
set_option maxRecDepth 100000

def colOf (a : Int) (rs : List Int) (m : Int) : Int := if isCtx a rs = true ∧ 0 ≤ m ∧ m < a then (colTo rs m rs.length : Nat) else 0
theorem boxed {w : World} {B : Nat} {v : Value} {cs : List Value} (h : Reads w B v cs) (hB : B ≤ w.heap.size) (o : Obj) : Reads (w.alloc o) B v cs :=
  h.below (B' := w.heap.size) ((Below.refl _ _).alloc (Nat.le_refl _) o) hB

theorem impl_isAtt (a : Int) (v : Value) (rs : List Int) (g : Int) (B : Nat) (w : World) (hr : Reads w B v (ints rs)) (hB : B ≤ w.heap.size) :
    Calls Try.prog 126 #[ctx a v, .int .i64 g] w fun e w' => e = .returned (.bool (isCtx a rs && decide (0 ≤ g ∧ g < a))) ∧ Below w.heap.size w w' := by
  obtain ⟨aa, ca, rfl⟩ := reads_form hr
  have HR := Lib.hid hr
  clear hr
  go_enter Try.func126, Try.ntmps126
  go_wp2_with fail
  refine (impl_isCtx a _ rs B _ (boxed HR.out hB _) (by simp; omega)).mono ?_
  rintro e w1 ⟨rfl, b⟩
  obtain ⟨hc, hf⟩ := bcell b
  have hz := b.size
  simp at hz
  have BB := Lib.hid b
  clear b
  cases hi : isCtx a rs with
  | false =>
    have HI := Lib.hid hi
    clear hi
    go_wp2_with fail
    go_ret
    exact ⟨by simp [HI.out], ((Below.refl _ _).alloc (Nat.le_refl _) _).trans (BB.out.mono (by simp))⟩
  | true =>
    have HI := Lib.hid hi
    clear hi
    by_cases hg : 0 ≤ g
    · have d0 : decide (0 ≤ g) = true := decide_eq_true hg
      have HG := Lib.hid hg
      clear hg
      go_wp2_with fail
      go_ret
      exact ⟨by simp [HI.out, HG.out], ((Below.refl _ _).alloc (Nat.le_refl _) _).trans (BB.out.mono (by simp))⟩
    · have d0 : decide (0 ≤ g) = false := decide_eq_false hg
      have HG := Lib.hid hg
      clear hg
      go_wp2_with fail
      go_ret
      exact ⟨by have := HG.out; simp [HI.out]; omega, ((Below.refl _ _).alloc (Nat.le_refl _) _).trans (BB.out.mono (by simp))⟩
set_option maxHeartbeats 400000 in
theorem impl_col (a : Int) (v : Value) (rs : List Int) (m : Int) (B : Nat) (w : World) (hr : Reads w B v (ints rs)) (hB : B ≤ w.heap.size) :
    Calls Try.prog 121 #[ctx a v, .int .i64 m] w fun e w' => e = .returned (.int .i64 (colOf a rs m)) ∧ Below w.heap.size w w' := by
  obtain ⟨aa, ca, rfl⟩ := reads_form hr
  have HR := Lib.hid hr
  clear hr
  go_enter Try.func121, Try.ntmps121
  go_wp2_with fail
  refine (impl_isAtt a _ rs m B _ (boxed HR.out hB _) (by simp; omega)).mono ?_
  rintro e w1 ⟨rfl, b⟩
  obtain ⟨hc, hf⟩ := bcell b
  have hz := b.size
  simp at hz
  have BB := Lib.hid b
  clear b
  cases hi : (isCtx a rs && decide (0 ≤ m ∧ m < a)) with
  | false =>
    have HX : Hid (colOf a rs m = 0) := Lib.hid (by rw [colOf, if_neg]; intro h; simp [h.1, h.2.1, h.2.2] at hi)
    clear hi
    go_wp2_with fail
    go_ret
    exact ⟨by rw [HX.out]; rfl, ((Below.refl _ _).alloc (Nat.le_refl _) _).trans (BB.out.mono (by simp))⟩
  | true =>
    rw [Bool.and_eq_true, decide_eq_true_eq] at hi
    obtain ⟨hi, hm0, hma⟩ := hi
    obtain ⟨ha0, ha6, hl8, _⟩ := isCtx_parts hi
    have HI := Lib.hid hi
    clear hi
    by_cases hne : rs = []
    · subst hne
      go_wp2_with fail
      refine wp_loop_rounds 1 ?_
      rw [rounds_succ]
      go_wp2_with fail
      go_ret
      exact ⟨by rw [colOf, if_pos ⟨HI.out, by omega, by omega⟩]; rfl, ((Below.refl _ _).alloc (Nat.le_refl _) _).trans (BB.out.mono (by simp))⟩
    · obtain ⟨_, _, _, hv, hcells⟩ := HR.out
      injection hv with e1 e2 e3
      subst e1 e3
      clear e2
      obtain ⟨bk, o, rfl, hb, gca⟩ := hcells (by simpa [ints] using hne)
      simp only [ints, List.length_map] at gca
      have HD := Lib.hid gca
      have HW := Lib.hid (row_le HI.out)
      clear gca hcells hne
      go_wp2_with fail
      go_loop [5, 15] (fun t i => ∃ k : Nat, k ≤ rs.length ∧ i = .int .i64 k ∧ ∃ x : Nat, t = .int .i64 x ∧ x < 256 ∧ Hid (x = colTo rs m k)) (fun _ i => rs.length - (intOf i).toNat)
      case atStart => exact ⟨0, Nat.zero_le _, rfl, 0, rfl, by omega, Lib.hid rfl⟩
      case round =>
        obtain ⟨k, hk, rfl, x, rfl, hx, HX⟩ := hrel
        by_cases hlt : k < rs.length
        · have c2 : w1.cell? ⟨bk, o + k, none⟩ = some (.int .i64 (rs.getD k 0)) := by
            rw [BB.out.cell (p := ⟨bk, o + k, none⟩) (by simp; omega), World.cell?_alloc_lt _ _ _ (by show bk < _; omega), HD.out k hlt, ints_get rs k hlt]
          have hs := HW.out k
          generalize hgy : rs.getD k 0 = y at c2 hs
          have HY := Lib.hid hgy
          clear hgy
          have hel : hasEl y m = bit y m := by
            rw [hasEl, isSet8_true hs, decide_eq_true (by omega : 0 ≤ m ∧ m ≤ 7)]; rfl
          have HE := Lib.hid hel
          clear hel
          cases hbt : bit y m with
          | true =>
            go_wp2_with fail
            refine (impl_hasEl _ _ _).mono ?_
            rintro e w' ⟨rfl, rfl⟩
            rw [HE.out, hbt]
            go_wp2_with fail
            go_round
            case rel =>
              refine ⟨k + 1, by omega, by simp, x ||| 2 ^ k, by rw [or_pow x k hx (by omega)], Nat.or_lt_two_pow (n := 8) hx (Nat.pow_lt_pow_right (by omega) (by omega)), Lib.hid ?_⟩
              rw [colTo, HY.out, hbt, if_pos rfl, ← HX.out]
            case measure => simp [intOf]; omega
          | false =>
            go_wp2_with fail
            refine (impl_hasEl _ _ _).mono ?_
            rintro e w' ⟨rfl, rfl⟩
            rw [HE.out, hbt]
            go_wp2_with fail
            go_round
            case rel =>
              refine ⟨k + 1, by omega, by simp, x, rfl, hx, Lib.hid ?_⟩
              rw [colTo, HY.out, hbt, ← HX.out]; rfl
            case measure => simp [intOf]; omega
        · have hkn : k = rs.length := by omega
          go_wp2_with fail
          go_ret
          exact ⟨by rw [colOf, if_pos ⟨HI.out, by omega, by omega⟩, HX.out, hkn]; rfl, ((Below.refl _ _).alloc (Nat.le_refl _) _).trans (BB.out.mono (by simp))⟩
end Go.Proofs.Ythodmmckekgkdaa.Ctx
