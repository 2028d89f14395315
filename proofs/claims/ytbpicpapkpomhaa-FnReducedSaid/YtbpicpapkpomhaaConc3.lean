/-
  Chapter 5 of the program: the next closed set, the concept of a set, of an object, of an attribute; of both sides: whether a pair is a concept.
-/
import Derived.Test.YtbpicpapkpomhaaConc2
namespace Go.Proofs.Ytbpicpapkpomhaa.Ctx
open Go Go.RowKit Mem Sets
set_option maxRecDepth 100000
attribute [local go_sem ↓] Go.wp_at_zero Go.wp_at_succ

theorem keepc4 {w w' : World} {B : Nat} {p q r s : Addr} {x y z t : Value} (hb : Below B w w') (h : w.cell? p = some x ∧ w.cell? q = some y ∧ w.cell? r = some z ∧ w.cell? s = some t) (hp : p.block < B) (hq : q.block < B) (hr : r.block < B) (hs : s.block < B) :
    w'.cell? p = some x ∧ w'.cell? q = some y ∧ w'.cell? r = some z ∧ w'.cell? s = some t :=
  ⟨(hb.cell hp).trans h.1, (hb.cell hq).trans h.2.1, (hb.cell hr).trans h.2.2.1, (hb.cell hs).trans h.2.2.2⟩
theorem closure_clo {a : Int} {rs : List Int} {x : Nat} (hi : isCtx a rs = true) (hx : x < 2 ^ a.toNat) : closure a rs (x : Int) = ((clo a rs x : Nat) : Int) := by
  obtain ⟨h0, h6, -⟩ := isCtx_parts hi
  rw [closure, if_pos ⟨hi, isSet_of_nat h0 (by omega) hx⟩]; rfl
theorem hasEl_bit {n k : Nat} (hn : n < 256) (hk : k < 8) : hasEl (n : Int) (k : Int) = bit n k := by
  rw [hasEl, isSet8_true (by omega), show decide (0 ≤ (k : Int) ∧ (k : Int) ≤ 7) = true by simp; omega]; rfl
end Go.Proofs.Ytbpicpapkpomhaa.Ctx
