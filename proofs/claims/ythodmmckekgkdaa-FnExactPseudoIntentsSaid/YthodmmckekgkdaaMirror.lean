/-
  The lectic order as an order of numbers: a set's mirrored number. (Pure: no memory.)
-/
import Derived.Test.YthodmmckekgkdaaSet
namespace Go.Proofs.Ythodmmckekgkdaa.Lectic
open Go Go.RowKit Sets
set_option maxRecDepth 100000

/-- The number whose bits are those of m in the other order. -/
def mirror (m : Nat) : Nat := (List.range 8).foldl (fun acc k => if m.testBit k then acc + 2 ^ (7 - k) else acc) 0
def lowBit (d : Nat) : Nat := (List.range 8).foldr (fun k acc => if d.testBit k then 2 ^ k else acc) 0
theorem least_low : ∀ d : Nat, d < 256 → least (d : Int) = (lowBit d : Int) := by decide +kernel
theorem low_lt : ∀ d : Nat, d < 256 → lowBit d < 256 := by decide +kernel
theorem mirror_low : ∀ m : Nat, m < 256 → ∀ k : Nat, k < 256 → (k &&& lowBit (m ^^^ k) != 0) = decide (mirror m < mirror k) := by decide +kernel
theorem mirror_inj : ∀ m : Nat, m < 256 → mirror (mirror m) = m := by decide +kernel
end Go.Proofs.Ythodmmckekgkdaa.Lectic
