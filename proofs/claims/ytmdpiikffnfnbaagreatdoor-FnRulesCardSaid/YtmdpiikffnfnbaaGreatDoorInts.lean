/-
  The laws' own helpers over []int, one contract each: eqIntS compares, markIntS writes, heldIntS reads back, toIntS copies.
-/
import Derived.Test.YtmdpiikffnfnbaaGreatDoorProg
import Derived.Test.YtmdpiikffnfnbaaGreatDoorOwn
import Derived.WalkKit
import Derived.Outline
import Derived.LoopTactic
import Derived.RegionTactic
import Derived.Lib.Hide
import Derived.OwnWalk
namespace Go.Proofs.YtmdpiikffnfnbaaGreatDoor.Ints
open Go Go.RowKit Mem
set_option maxRecDepth 100000

theorem info : (Tryz.prog.info? 3).map (fun i => (i.zero, i.size, i.bytes)) = some (some (.int .i64 0), 1, 8) := by kernel_rfl

theorem take_both {xs ys : List Int} {k : Nat} (hl : xs.length = ys.length) (hk : k < xs.length) (h : xs.take k = ys.take k) (he : xs.getD k 0 = ys.getD k 0) : xs.take (k + 1) = ys.take (k + 1) := by
  rw [List.take_add_one, List.take_add_one, h, List.getElem?_eq_getElem hk, List.getElem?_eq_getElem (by omega : k < ys.length)]
  simp only [List.getD, List.getElem?_eq_getElem hk, List.getElem?_eq_getElem (by omega : k < ys.length), Option.getD_some] at he
  rw [he]
theorem ne_at {xs ys : List Int} {j : Nat} (h : ¬ xs.getD j 0 = ys.getD j 0) : (xs == ys) = false := by
  rw [beq_eq_false_iff_ne]; rintro rfl; exact h rfl
theorem eq_all {xs ys : List Int} {k : Nat} (hl : xs.length = ys.length) (hk : k = xs.length) (h : xs.take k = ys.take k) : (xs == ys) = true := by
  rw [beq_iff_eq]
  rwa [List.take_of_length_le (by omega), List.take_of_length_le (by omega)] at h
theorem ne_len {xs ys : List Int} (h : ¬ xs.length = ys.length) : (xs == ys) = false := by
  rw [beq_eq_false_iff_ne]; rintro rfl; exact h rfl

theorem copy_step (xs : List Int) (ys : List Value) (j : Nat) (hj : j < xs.length) (hl : ys.length = xs.length) :
    (ints (xs.take j) ++ ys.drop j).set j (.int .i64 (xs.getD j 0)) = ints (xs.take (j + 1)) ++ ys.drop (j + 1) := by
  rw [List.set_append_right _ _ (by simp [ints]; omega), List.drop_eq_getElem_cons (by omega : j < ys.length), List.take_add_one, List.getElem?_eq_getElem hj]
  have h1 : (ints (xs.take j)).length = j := by simp [ints]; omega
  rw [h1, Nat.sub_self, List.set_cons_zero]
  simp only [ints, List.getD, List.getElem?_eq_getElem hj, Option.getD_some, Option.toList_some, List.map_append, List.map_cons, List.map_nil, List.append_assoc, List.singleton_append]





end Go.Proofs.YtmdpiikffnfnbaaGreatDoor.Ints
