/-
  Chapter 5 of the model: the concept of a set, of an object, of an attribute; whether a pair is a concept.
-/
import Derived.Test.YthodmmckekgkdaaConc
import Derived.Deep.RegionHeld3
namespace Go.Proofs.Ythodmmckekgkdaa.Ctx
open Go Go.RowKit Mem Sets
set_option maxRecDepth 100000

/-- A concept, and whether there is one. -/
def optC (o : Option PInt) : Value := .tuple #[conc (o.getD (0, 0)), .bool o.isSome]
theorem keepk {w w' : World} {B : Nat} {p q r : Addr} {x y z : Value} (hb : Below B w w') (h : w.cell? p = some x ∧ w.cell? q = some y ∧ w.cell? r = some z) (hp : p.block < B) (hq : q.block < B) (hr : r.block < B) :
    w'.cell? p = some x ∧ w'.cell? q = some y ∧ w'.cell? r = some z := ⟨(hb.cell hp).trans h.1, (hb.cell hq).trans h.2.1, (hb.cell hr).trans h.2.2⟩
def conceptAt (a : Int) (rs : List Int) (s : Int) : Option PInt := if isCtx a rs = true ∧ isSet a s = true then some (conceptOf a rs s) else none
def attrConcept (a : Int) (rs : List Int) (m : Int) : Option PInt := if isCtx a rs = true ∧ 0 ≤ m ∧ m ≤ a - 1 then some (conceptOf a rs (2 ^ m.toNat : Nat)) else none
def objConcept (a : Int) (rs : List Int) (g : Int) : Option PInt := if isCtx a rs = true ∧ 0 ≤ g ∧ g ≤ rs.length - 1 then some (conceptOf a rs (rs.getD g.toNat 0)) else none
end Go.Proofs.Ythodmmckekgkdaa.Ctx
