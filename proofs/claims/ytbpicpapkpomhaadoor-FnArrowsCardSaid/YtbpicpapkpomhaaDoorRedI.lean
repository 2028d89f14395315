/-
  Chapter 7 of the program: rows without some objects, rows without some attributes.
-/
import Derived.Test.YtbpicpapkpomhaaDoorRedP
import Derived.Test.YtbpicpapkpomhaaDoorDerive
import Derived.Deep.RegionHeld3
import Derived.Deep.DeepCutAuto
namespace Go.Proofs.YtbpicpapkpomhaaDoor.Ctx
open Go Go.RowKit Mem Sets Elems
set_option maxRecDepth 100000

theorem hasEl_at8 {s : Int} {e : Nat} (hs : 0 ≤ s ∧ s ≤ 255) (he : e < 8) : hasEl s e = bit s e := by
  rw [hasEl, isSet8_true hs, decide_eq_true (by omega : 0 ≤ (e : Int) ∧ (e : Int) ≤ 7)]; rfl
/-- The places below k of a list whose elements are in s. -/
def renTo (s : Int) (l : List Int) : Nat → Nat
  | 0 => 0
  | k + 1 => if hasEl s (l.getD k 0) = true then renTo s l k ||| 2 ^ k else renTo s l k
theorem renTo_yes {s : Int} {l : List Int} {k : Nat} (h : hasEl s (l.getD k 0) = true) : renTo s l (k + 1) = renTo s l k ||| 2 ^ k := if_pos h
theorem renTo_no {s : Int} {l : List Int} {k : Nat} (h : hasEl s (l.getD k 0) = false) : renTo s l (k + 1) = renTo s l k := if_neg (by simp only [h]; simp)
theorem renTo_pack : ∀ keep : Nat, keep < 64 → ∀ s : Nat, s < 64 → renTo (s : Int) (elems (keep : Int)) (elems (keep : Int)).length = pack (s : Int) (keep : Int) := by decide +kernel
theorem elems_count : ∀ keep : Nat, keep < 64 → ((elems (keep : Int)).length : Int) = count (keep : Int) := by decide +kernel
end Go.Proofs.YtbpicpapkpomhaaDoor.Ctx
