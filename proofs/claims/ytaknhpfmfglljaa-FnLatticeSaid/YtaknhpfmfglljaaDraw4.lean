/-
  Draws of a context with a set: each call returns a context and a number, in memory of its own.
-/
import Derived.Test.YtaknhpfmfglljaaDraw3
namespace Go.Proofs.Ytaknhpfmfglljaa.Draw
open Go Go.RowKit Mem Sets Elems Text Strs Ctx
set_option maxRecDepth 100000

theorem own_setB {e : TypeId} {w : World} {lo hi : Nat} {v : Value} {cs : List Value} (h : Own e w lo hi v cs) {q : Addr} (hq : q.block < lo ∨ hi ≤ q.block) (u : Value) : Own e (w.setCell q u) lo hi v cs := own_set h hq u
end Go.Proofs.Ytaknhpfmfglljaa.Draw
