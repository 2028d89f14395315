/-
  Chapter 6: both sides answer by the same pure functions.
-/
import Derived.Test.YtdkgmjbhkifcbaaSLat5
namespace Go.Proofs.Ytdkgmjbhkifcbaa.Tab
open Go Go.RowKit Mem Sets Ctx
set_option maxRecDepth 100000

theorem ed_eq (a : Int) (rs : List Int) : ∀ k, k ≤ (concepts a rs).length → edN (concepts a rs) k = edS (concepts a rs) k
  | 0, _ => rfl
  | k + 1, h => by
    rw [edN, edS, ed_eq a rs k (by omega)]
    have := up_eq a rs (k : Int)
    rw [upI, if_pos (by simp [exi]; omega), Int.toNat_natCast] at this
    rw [this]
theorem f_isBelow (a : Int) (v : Value) (rs : List Int) (x y : Int) (B : Nat) (w : World) (hr : Reads w B v (ints rs)) (hB : B ≤ w.heap.size) :
    Calls Try.prog 65 #[ctx a v, .int .i64 x, .int .i64 y] w fun e w' => e = .returned (.bool (isBelS (concepts a rs) x y)) ∧ Below w.heap.size w w' := by
  have := impl_isBelow a v rs x y B w hr hB (concepts_64 a rs)
  rw [bel_eq] at this
  exact this
theorem f_meet (a : Int) (v : Value) (rs : List Int) (x y : Int) (B : Nat) (w : World) (hr : Reads w B v (ints rs)) (hB : B ≤ w.heap.size) :
    Calls Try.prog 54 #[ctx a v, .int .i64 x, .int .i64 y] w fun e w' => e = .returned (.int .i64 (meetS a rs x y)) ∧ Below w.heap.size w w' := by
  have := impl_meet a v rs x y B w hr hB (concepts_64 a rs)
  rw [meet_eq] at this
  exact this
theorem f_join (a : Int) (v : Value) (rs : List Int) (x y : Int) (B : Nat) (w : World) (hr : Reads w B v (ints rs)) (hB : B ≤ w.heap.size) :
    Calls Try.prog 55 #[ctx a v, .int .i64 x, .int .i64 y] w fun e w' => e = .returned (.int .i64 (joinS a rs x y)) ∧ Below w.heap.size w w' := by
  have := impl_join a v rs x y B w hr hB (concepts_64 a rs)
  rw [join_eq] at this
  exact this
theorem f_bottom (a : Int) (v : Value) (rs : List Int) (B : Nat) (w : World) (hr : Reads w B v (ints rs)) (hB : B ≤ w.heap.size) :
    Calls Try.prog 69 #[ctx a v] w fun e w' => e = .returned (.int .i64 (((concepts a rs).length : Int) - 1)) ∧ Below w.heap.size w w' := impl_bottom a v rs B w hr hB (concepts_64 a rs)
theorem f_height (a : Int) (v : Value) (rs : List Int) (B : Nat) (w : World) (hr : Reads w B v (ints rs)) (hB : B ≤ w.heap.size) :
    Calls Try.prog 71 #[ctx a v] w fun e w' => e = .returned (.int .i64 (hgt (concepts a rs) (concepts a rs).length)) ∧ Below w.heap.size w w' := impl_height a v rs B w hr hB (concepts_64 a rs)
theorem f_edges (a : Int) (v : Value) (rs : List Int) (B : Nat) (w : World) (hr : Reads w B v (ints rs)) (hB : B ≤ w.heap.size) :
    Calls Try.prog 73 #[ctx a v] w fun e w' => e = .returned (.int .i64 (edS (concepts a rs) (concepts a rs).length : Nat)) ∧ Below w.heap.size w w' := by
  have := impl_edges a v rs B w hr hB (concepts_64 a rs)
  rw [ed_eq a rs _ (Nat.le_refl _)] at this
  exact this
theorem f_up (a : Int) (v : Value) (rs : List Int) (x : Int) (B : Nat) (w : World) (hr : Reads w B v (ints rs)) (hB : B ≤ w.heap.size) :
    Calls Try.prog 57 #[ctx a v, .int .i64 x] w fun e w' => ∃ u, e = .returned u ∧ Mem.Own 3 w' w.heap.size w'.heap.size u (ints (covL (concepts a rs) true x)) ∧ Below w.heap.size w w' := by
  have := impl_up a v rs x B w hr hB (concepts_64 a rs)
  rw [up_eq] at this
  exact this
theorem f_lo (a : Int) (v : Value) (rs : List Int) (x : Int) (B : Nat) (w : World) (hr : Reads w B v (ints rs)) (hB : B ≤ w.heap.size) :
    Calls Try.prog 58 #[ctx a v, .int .i64 x] w fun e w' => ∃ u, e = .returned u ∧ Mem.Own 3 w' w.heap.size w'.heap.size u (ints (covL (concepts a rs) false x)) ∧ Below w.heap.size w w' := by
  have := impl_lo a v rs x B w hr hB (concepts_64 a rs)
  rw [lo_eq] at this
  exact this
end Go.Proofs.Ytdkgmjbhkifcbaa.Tab
