/-
  Chapter 5 of the program: all concepts of a context, collected by a loop over a function.
-/
import Derived.Test.YtbpicpapkpomhaaSeq
import Derived.Deep.RegionHeld
import Derived.Deep.AppendLies
namespace Go.Proofs.Ytbpicpapkpomhaa.Ctx
open Go Go.RowKit Mem Sets
set_option maxRecDepth 100000
attribute [local go_sem] Oper.semAt_some

theorem grown_of_below {W W' : World} (h : Below W.heap.size W W') : W.grownBy W' none := ⟨h.os, h.tape, h.output, h.size, fun k hk _ => h.block k hk⟩
theorem keepsFrom_of_below {B : Nat} {W W' : World} (h : Below W.heap.size W W') : KeepsFrom B W W' := ⟨h.size, fun k _ _ hk _ => (h.block k (Array.getElem?_eq_some_iff.1 hk).1).trans hk⟩
theorem boxAt_from {β : Type} {B g : Nat} {t : TypeId} {cs : Array Value} (hg : g < B) : OwnFrom B (fun (_ : β) W => BoxAt W g t cs) :=
  fun _ _ _ _ hs hgr hr => (hgr.block g hs.lt (fun e => by have := (hr g e.symm).1; omega)).trans hs
theorem boxAt_not_row {W : World} {g : Nat} {t e : TypeId} {cs : Array Value} (h : BoxAt W g t cs) (hte : t ≠ e) {base size k : Nat} {v : Value} {xs : List Value} (hr : W.ownsRow base e size v k xs) : some g ≠ v.ownBlock := by
  rcases hr.2 with ⟨rfl, _⟩ | ⟨g', cap, cur, rfl, _, hgb, _⟩
  · simp [Value.ownBlock]
  · intro e'
    obtain rfl : g = g' := by simpa [Value.ownBlock] using e'
    have := (show W.heap[g]? = _ from h).symm.trans hgb
    simp at this
    exact hte this.2
/-- The concept of a closed set. -/
def cf (a : Int) (rs : List Int) (x : Nat) : PInt := (extent a rs (x : Nat), ((x : Nat) : Int))
theorem concepts_cf (a : Int) (rs : List Int) : concepts a rs = (closedList a rs).map (cf a rs) := by
  unfold concepts closedList
  cases hi : isCtx a rs with
  | false => rfl
  | true =>
    simp only [if_true]
    refine List.map_congr_left fun x hx => ?_
    obtain ⟨hx1, hx2, -⟩ := (mem_closedFrom (clo_ok hi).n8).1 hx
    have hs : isSet a (x : Int) = true := isSet_of_nat (isCtx_parts hi).1 (by have := isCtx_parts hi; omega) hx1
    have h2 : intTo a rs ((extTo rs (x : Int) rs.length : Nat) : Int) rs.length = x := hx2
    rw [conceptOf, cf, extent, if_pos ⟨hi, hs⟩, h2]
end Go.Proofs.Ytbpicpapkpomhaa.Ctx
