/-
  Regions that draw their order, whose operations only read old cells, and whose callees may lay blocks of their own: one walk serves every order.
-/
import Derived.Test.YthodmmckekgkdaaDual
import Derived.BigQuiet
namespace Go.Proofs.Ythodmmckekgkdaa.Mem
open Go Go.RowKit
set_option maxRecDepth 100000

/-- A world behind W in which whatever lay in W lies as it lay. -/
structure Past (W : World) where
  w : World
  h : Below W.heap.size W w
instance {W : World} : Nonempty (Past W) := ⟨⟨W, Below.refl _ _⟩⟩
instance {W : World} : Inhabited (Past W) := ⟨⟨W, Below.refl _ _⟩⟩
theorem wp_region_past {P : Program} {id : Nat} {Q : Exit → Act → World → Prop} {a : Act} {W : World} {l : List Oper} (hm : P.follows .mixedOrders = true) (hB : Region.lexB .any l.toArray = true)
    (h : wpQuiet P l.toArray (fun w' => ∃ p : Past W, w' = p.w) (fun a' => ∀ w', (∃ p : Past W, w' = p.w) → Q .normal a' w') l a) : (Code.region id l.toArray true).wp P Q a W :=
  wp_region_quiet (C := fun w' => ∃ p : Past W, w' = p.w) hm hB ⟨⟨W.drew, (Below.refl W.heap.size W).drew⟩, rfl⟩ (by simpa using h)
/-- A contract, met in a world of the class. -/
theorem Past.of {W : World} {P : Program} {f : FuncId} {args : Array Value} {v : Value} (p : Past W) (h : Calls P f args p.w fun e w' => e = .returned v ∧ Below p.w.heap.size p.w w') : Calls P f args p.w fun e w' => e = .returned v ∧ ∃ q : Past W, w' = q.w :=
  h.mono fun _ w' ⟨he, hb⟩ => ⟨he, ⟨w', p.h.trans (hb.mono p.h.size)⟩, rfl⟩
theorem Past.ofSame {W : World} {P : Program} {f : FuncId} {args : Array Value} {v : Value} (p : Past W) (h : Calls P f args p.w fun e w' => e = .returned v ∧ w' = p.w) : Calls P f args p.w fun e w' => e = .returned v ∧ ∃ q : Past W, w' = q.w :=
  h.mono fun _ _ ⟨he, hb⟩ => ⟨he, p, hb⟩
theorem Past.cell {W : World} {q : Addr} {v : Value} (h : W.cell? q = some v) (hb : q.block < W.heap.size) (p : Past W) : p.w.cell? q = some v := (p.h.cell hb).trans h
theorem Past.size {W : World} (p : Past W) : W.heap.size ≤ p.w.heap.size := p.h.size
theorem Past.reads {W : World} {B : Nat} {v : Value} {cs : List Value} (h : Reads W B v cs) (hB : B ≤ W.heap.size) (p : Past W) : Reads p.w B v cs := h.below p.h hB
end Go.Proofs.Ythodmmckekgkdaa.Mem
