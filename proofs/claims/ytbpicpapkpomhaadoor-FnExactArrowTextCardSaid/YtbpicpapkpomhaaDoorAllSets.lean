/-
  Are all numbers of a list sets: l2Sets of the model, areAllSets of the program; is a number in a list: l2In of the model.
-/
import Derived.Test.YtbpicpapkpomhaaDoorInts
import Derived.Test.YtbpicpapkpomhaaDoorSet
namespace Go.Proofs.YtbpicpapkpomhaaDoor.Sets2
open Go Go.RowKit Mem Sets
set_option maxRecDepth 100000

def allSets (xs : List Int) : Bool := xs.all (isSet 8)
theorem all_step {rs : List Int} {k : Nat} (hk : k < rs.length) (h : (rs.take k).all (isSet 8) = true) (hs : isSet 8 (rs.getD k 0) = true) : (rs.take (k + 1)).all (isSet 8) = true := by
  rw [List.take_add_one, List.getElem?_eq_getElem hk, List.all_append, h]
  simp only [List.getD, List.getElem?_eq_getElem hk, Option.getD_some] at hs
  simp [hs]
theorem all_bad {rs : List Int} {k : Nat} (hk : k < rs.length) (hs : isSet 8 (rs.getD k 0) = false) : allSets rs = false := by
  simp only [List.getD, List.getElem?_eq_getElem hk, Option.getD_some] at hs
  rw [allSets, List.all_eq_false]
  exact ⟨rs[k], List.getElem_mem hk, by simp [hs]⟩



end Go.Proofs.YtbpicpapkpomhaaDoor.Sets2
