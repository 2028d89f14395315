/-
  Chapter 3's functions that return a number, a bool or a context, one contract each, of the program and of the model: ColumnOf, DualContext, ComplementContext, EqualContext.
-/
import Derived.Test.YtmdpiikffnfnbaaGreatDoorCtx
import Derived.Deep.RegionHeld3
namespace Go.Proofs.YtmdpiikffnfnbaaGreatDoor.Ctx
open Go Go.RowKit Mem Sets
set_option maxRecDepth 100000

def colOf (a : Int) (rs : List Int) (m : Int) : Int := if isCtx a rs = true ∧ 0 ≤ m ∧ m < a then (colTo rs m rs.length : Nat) else 0
theorem boxed {w : World} {B : Nat} {v : Value} {cs : List Value} (h : Reads w B v cs) (hB : B ≤ w.heap.size) (o : Obj) : Reads (w.alloc o) B v cs :=
  h.below (B' := w.heap.size) ((Below.refl _ _).alloc (Nat.le_refl _) o) hB

end Go.Proofs.YtmdpiikffnfnbaaGreatDoor.Ctx
