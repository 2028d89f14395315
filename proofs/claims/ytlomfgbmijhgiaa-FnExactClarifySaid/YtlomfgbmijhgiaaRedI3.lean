/-
  Chapter 7 of the program: reducible objects and attributes, Clarify, ReduceContext.
-/
import Derived.Test.YtlomfgbmijhgiaaRedI2
import Derived.Test.YtlomfgbmijhgiaaPastI
import Derived.Deep.RegionHeld3
import Derived.Deep.DeepCutAuto
namespace Go.Proofs.Ytlomfgbmijhgiaa.Ctx
open Go Go.RowKit Mem Sets Elems Tab
set_option maxRecDepth 100000

theorem fullA_256 {a : Int} {rs : List Int} (h : isCtx a rs = true) : fullA a < 256 := by
  have := pow_le8 (n := a.toNat) (by have := isCtx_parts h; omega)
  have := Nat.pow_pos (n := a.toNat) (show 0 < 2 by omega)
  show 2 ^ a.toNat - 1 < 256
  omega
theorem fullO_256 {a : Int} {rs : List Int} (h : isCtx a rs = true) : fullO rs < 256 := by
  have := pow_le8 (n := rs.length) (isCtx_parts h).2.2.1
  have := Nat.pow_pos (n := rs.length) (show 0 < 2 by omega)
  show 2 ^ rs.length - 1 < 256
  omega
theorem cols_le {a : Int} {rs : List Int} (h : isCtx a rs = true) (k : Nat) : 0 ≤ (cols a rs).getD k 0 ∧ (cols a rs).getD k 0 ≤ 255 := by
  by_cases hk : k < a.toNat
  · rw [cols_get hk]
    have := Nat.lt_of_lt_of_le (colTo_lt rs k rs.length) (pow_le8 (isCtx_parts h).2.2.1)
    omega
  · rw [List.getD_eq_getElem?_getD, List.getElem?_eq_none (by rw [dualTo_length]; omega)]; simp
end Go.Proofs.Ytlomfgbmijhgiaa.Ctx
