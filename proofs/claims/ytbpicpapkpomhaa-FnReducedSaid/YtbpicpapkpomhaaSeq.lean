/-
  Chapter 5 of the program: closedSets hands back a function over which a loop may range: it yields the closed sets in lectic order.
-/
import Derived.Test.YtbpicpapkpomhaaConc3
import Derived.Test.YtbpicpapkpomhaaPast
import Derived.Test.YtbpicpapkpomhaaRound
namespace Go.Proofs.Ytbpicpapkpomhaa.Ctx
open Go Go.RowKit Mem Sets
set_option maxRecDepth 100000
attribute [local go_sem] Oper.semAt_some

/-- What the closed sets' function yields. -/
def closedList (a : Int) (rs : List Int) : List Nat := if isCtx a rs = true then closedFrom a.toNat (clo a rs) (clo a rs 0) else []
/-- What a round keeps: whatever lies below lo, and block b. -/
structure Keep (lo b : Nat) (W W' : World) : Prop where
  below : Below lo W W'
  box : W'.heap[b]? = W.heap[b]?
theorem Keep.trans {lo b : Nat} {A B C : World} (h : Keep lo b A B) (k : Keep lo b B C) : Keep lo b A C := ⟨h.below.trans k.below, k.box.trans h.box⟩
theorem closedFrom_head {n : Nat} {cl : Nat → Nat} (C : Clo n cl) {x : Nat} (hx : x < 2 ^ n) (hcx : cl x = x) : ∃ t, closedFrom n cl x = x :: t := by
  cases h : nextTo cl x n with
  | none => exact ⟨[], closedFrom_none C hx hcx h⟩
  | some y => exact ⟨_, closedFrom_some C hx hcx h⟩
end Go.Proofs.Ytbpicpapkpomhaa.Ctx
