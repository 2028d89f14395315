/-
  The laws' own helpers over []string, one contract each: eqStringS compares, markStringS writes, heldStringS reads back.
-/
import Derived.Test.YthodmmckekgkdaaProg
import Derived.Test.YthodmmckekgkdaaOwn
import Derived.WalkKit
import Derived.Outline
import Derived.LoopTactic
import Derived.RegionTactic
import Derived.Deep.RegionHeld3
import Derived.Lib.Hide
import Derived.OwnWalk
namespace Go.Proofs.Ythodmmckekgkdaa.Strs
open Go Go.RowKit Mem

theorem infoS : (Try.prog.info? 9).map (fun i => (i.zero, i.size, i.bytes)) = some (some (.string ByteArray.empty), 1, 16) := by kernel_rfl
/-- Cells of strings. -/
abbrev strs (xs : List (List UInt8)) : List Value := xs.map fun l => .string ⟨l.toArray⟩
theorem strs_get (xs : List (List UInt8)) (j : Nat) (hj : j < xs.length) : (strs xs)[j]? = some (.string ⟨(xs.getD j []).toArray⟩) := by
  simp [strs, List.getD, List.getElem?_eq_getElem hj]
theorem take_both {xs ys : List (List UInt8)} {k : Nat} (hl : xs.length = ys.length) (hk : k < xs.length) (h : xs.take k = ys.take k) (he : xs.getD k [] = ys.getD k []) : xs.take (k + 1) = ys.take (k + 1) := by
  rw [List.take_add_one, List.take_add_one, h, List.getElem?_eq_getElem hk, List.getElem?_eq_getElem (by omega : k < ys.length)]
  simp only [List.getD, List.getElem?_eq_getElem hk, List.getElem?_eq_getElem (by omega : k < ys.length), Option.getD_some] at he
  rw [he]
theorem ne_at {xs ys : List (List UInt8)} {j : Nat} (h : ¬ xs.getD j [] = ys.getD j []) : (xs == ys) = false := by
  rw [beq_eq_false_iff_ne]; rintro rfl; exact h rfl
theorem eq_all {xs ys : List (List UInt8)} {k : Nat} (hl : xs.length = ys.length) (hk : k = xs.length) (h : xs.take k = ys.take k) : (xs == ys) = true := by
  rw [beq_iff_eq]
  rwa [List.take_of_length_le (by omega), List.take_of_length_le (by omega)] at h
theorem ne_len {xs ys : List (List UInt8)} (h : ¬ xs.length = ys.length) : (xs == ys) = false := by
  rw [beq_eq_false_iff_ne]; rintro rfl; exact h rfl





theorem copy_step (xs : List (List UInt8)) (ys : List Value) (j : Nat) (hj : j < xs.length) (hl : ys.length = xs.length) :
    (strs (xs.take j) ++ ys.drop j).set j (.string ⟨(xs.getD j []).toArray⟩) = strs (xs.take (j + 1)) ++ ys.drop (j + 1) := by
  rw [List.set_append_right _ _ (by simp [strs]; omega), List.drop_eq_getElem_cons (by omega : j < ys.length), List.take_add_one, List.getElem?_eq_getElem hj]
  have h1 : (strs (xs.take j)).length = j := by simp [strs]; omega
  rw [h1, Nat.sub_self, List.set_cons_zero]
  simp only [strs, List.getD, List.getElem?_eq_getElem hj, Option.getD_some, Option.toList_some, List.map_append, List.map_cons, List.map_nil, List.append_assoc, List.singleton_append]


/-- How much is left when rows of strings are counted off: none if there are more. -/
def lens (xs : List (List UInt8)) : Nat := (xs.map (·.length)).sum
theorem lens_take (xs : List (List UInt8)) (k : Nat) (h : k < xs.length) : lens (xs.take (k + 1)) = lens (xs.take k) + (xs.getD k []).length := by
  rw [List.take_add_one, List.getElem?_eq_getElem h]
  simp only [lens, List.getD, List.getElem?_eq_getElem h, Option.toList_some, List.map_append, List.sum_append, List.map_cons, List.map_nil, List.sum_cons, List.sum_nil, Nat.add_zero, Option.getD_some]
theorem lens_mono (xs : List (List UInt8)) (k : Nat) : lens (xs.take k) ≤ lens xs := by
  conv => rhs; rw [← List.take_append_drop k xs]
  simp only [lens, List.map_append, List.sum_append]
  omega
theorem lens_each (xs : List (List UInt8)) (j : Nat) (h : j < xs.length) : (xs.getD j []).length ≤ lens xs := by
  have h1 := lens_take xs j h
  have h2 := lens_mono xs (j + 1)
  omega
end Go.Proofs.Ythodmmckekgkdaa.Strs
