/-
  The laws' own helpers: whether two lists of numbers are the same, whether a number is in one; a big code.
-/
import Derived.Test.YthodmmckekgkdaaPast
namespace Go.Proofs.Ythodmmckekgkdaa.Mem
open Go Go.RowKit
set_option maxRecDepth 100000

theorem get_at (xs : List Int) (k : Nat) (h : k < xs.length) : (ints xs)[k]? = some (.int .i64 (xs.getD k 0)) := ints_get xs k h
set_option maxHeartbeats 800000 in
/-- The same list twice. -/
theorem same_ (va vb : Value) (xs : List Int) (Ba Bb : Nat) (w : World) (ha : Reads w Ba va (ints xs)) (hb : Reads w Bb vb (ints xs)) (hBa : Ba ≤ w.heap.size) (hBb : Bb ≤ w.heap.size) (hm : xs.length ≤ 1048576) :
    Calls Try.prog 18 #[va, vb] w fun e w' => e = .returned (.bool true) ∧ Below w.heap.size w w' := by
  obtain ⟨-, aa, ca, rfl, hca⟩ := ha
  obtain ⟨-, ab, cb, rfl, hcb⟩ := hb
  have hl : (ints xs).length = xs.length := by simp
  rw [hl] at hca hcb ⊢
  have HA := Lib.hid hca
  have HB := Lib.hid hcb
  clear hca hcb hl
  obtain ⟨n, hn⟩ : ∃ n, xs.length = n := ⟨_, rfl⟩
  rw [hn] at HA HB hm ⊢
  have HN := Lib.hid hn
  clear hn
  have hq : ((n : Int) != (n : Int)) = false := by simp
  go_enter Try.func18, Try.ntmps18
  go_wp2_with fail
  go_loopw [5] (fun i wr => ∃ k : Nat, i = .int .i64 k ∧ k ≤ n ∧ Hid (Below w.heap.size w wr)) (fun i _ => n - (intOf i).toNat)
  case atStart => exact ⟨0, rfl, by omega, Lib.hid (Below.refl _ _)⟩
  case round =>
    obtain ⟨k, rfl, hk, hb⟩ := hrel
    by_cases hkn : k < n
    · have hne : ints xs ≠ [] := fun e => by have h1 := congrArg List.length e; have h2 := HN.out; simp at h1; rw [h1] at h2; simp at h2; omega
      obtain ⟨b1, o1, rfl, hlt1, hc1⟩ := HA.out hne
      obtain ⟨b2, o2, rfl, hlt2, hc2⟩ := HB.out hne
      have c1 := (hb.out.cell (p := ⟨b1, o1 + k, none⟩) (by show b1 < _; omega)).trans (hc1 k hkn)
      have c2 := (hb.out.cell (p := ⟨b2, o2 + k, none⟩) (by show b2 < _; omega)).trans (hc2 k hkn)
      rw [get_at xs k (by rw [HN.out]; exact hkn)] at c1 c2
      have hzr := hb.out.size
      generalize xs.getD k 0 = y at c1 c2
      have q1 := fun p : Past wr => Past.cell (W := wr) c1 (show b1 < wr.heap.size by omega) p
      have q2 := fun p : Past wr => Past.cell (W := wr) c2 (show b2 < wr.heap.size by omega) p
      have hy : (y != y) = false := by simp
      clear c1 c2 hne hc1 hc2
      go_wp2_with fail
      refine wp_region_past (by kernel_rfl) (by kernel_rfl) ?_
      repeat (go_big_quiet_step (fail))
      refine wpQuiet_nil ?_
      rintro _ ⟨p, rfl⟩
      have hbb := Lib.hid (hb.out.trans (p.h.mono hzr))
      go_wp2_with fail
      exact ⟨⟨k + 1, by simp, by omega, hbb⟩, by simp only [intOf]; omega⟩
    · have hkn2 : k = n := by omega
      subst hkn2
      go_wp2_with fail
      go_ret
      exact ⟨rfl, hb.out⟩
end Go.Proofs.Ythodmmckekgkdaa.Mem
