/-
  Chapter 5, both sides: whether a pair is a concept, and its text; the laws' copy of a concept.
-/
import Derived.Test.YtbpicpapkpomhaaConc4
import Derived.Test.YtbpicpapkpomhaaPast
import Derived.Test.YtbpicpapkpomhaaText
namespace Go.Proofs.Ytbpicpapkpomhaa.PConcept
open Go Go.RowKit Mem
set_option maxRecDepth 100000
end Go.Proofs.Ytbpicpapkpomhaa.PConcept
namespace Go.Proofs.Ytbpicpapkpomhaa.Ctx
open Go Go.RowKit Mem Sets
set_option maxRecDepth 100000

def isConcept (a : Int) (rs : List Int) (p : PInt) : Bool := isCtx a rs && isSet rs.length p.1 && isSet a p.2 && (((intTo a rs p.1 rs.length : Nat) : Int) == p.2) && (((extTo rs p.2 rs.length : Nat) : Int) == p.1)
theorem isConcept_impl {a : Int} {rs : List Int} (hi : isCtx a rs = true) (x y : Int) : isConcept a rs (x, y) = (intent a rs x == y && extent a rs y == x) := by
  cases hx : isSet rs.length x with
  | true =>
    cases hy : isSet a y with
    | true => simp [isConcept, intent, extent, hi, hx, hy]
    | false =>
      have h1 : (intent a rs x == y) = false := by
        rw [beq_eq_false_iff_ne, intent, if_pos ⟨hi, hx⟩]
        rintro rfl
        rw [intTo_isSet hi] at hy; cases hy
      simp [isConcept, hy, h1]
  | false =>
    cases h1 : (intent a rs x == y) with
    | false => simp [isConcept, hx]
    | true =>
      have h0 : y = 0 := by
        rw [beq_iff_eq, intent, if_neg (by simp [hx])] at h1
        exact h1.symm
      have h2 : (extent a rs y == x) = false := by
        rw [beq_eq_false_iff_ne, h0, extent, if_pos ⟨hi, by
          obtain ⟨ha0, ha6, -, -⟩ := isCtx_parts hi
          have := isSet_of_nat (x := 0) ha0 (by omega) (Nat.pow_pos (by omega))
          simpa using this⟩]
        rintro rfl
        rw [extTo_isSet hi] at hx; cases hx
      simp [isConcept, hx, h2]
theorem keepd4 {w w' : World} {B : Nat} {p q r s : Addr} {x y z t : Value} (hb : Below B w w') (h : w.cell? p = some x ∧ w.cell? q = some y ∧ w.cell? r = some z ∧ w.cell? s = some t) (hp : p.block < B) (hq : q.block < B) (hr : r.block < B) (hs : s.block < B) :
    w'.cell? p = some x ∧ w'.cell? q = some y ∧ w'.cell? r = some z ∧ w'.cell? s = some t :=
  ⟨(hb.cell hp).trans h.1, (hb.cell hq).trans h.2.1, (hb.cell hr).trans h.2.2.1, (hb.cell hs).trans h.2.2.2⟩
end Go.Proofs.Ytbpicpapkpomhaa.Ctx
namespace Go.Proofs.Ytbpicpapkpomhaa.Text
open Go Go.RowKit Mem Sets
set_option maxRecDepth 100000
def cText (p : PInt) : List UInt8 := if isSet 8 p.1 = true ∧ isSet 8 p.2 = true then setText p.1 ++ [47] ++ setText p.2 else []
theorem join_text (l r : List UInt8) (c : UInt8) (B : ByteArray) (h : B = ⟨#[c]⟩) : Value.string (⟨l.toArray⟩ ++ B ++ ⟨r.toArray⟩) = Value.string ⟨(l ++ [c] ++ r).toArray⟩ := by
  subst h
  congr 1
theorem setText_len (s : Int) : (setText s).length ≤ 8 := by
  unfold setText
  split
  · split
    · simp
    · rw [chars, List.length_map, Elems.elems, Elems.elemsTo, List.length_map]
      exact Nat.le_trans (List.length_filter_le _ _) (by simp)
  · simp
end Go.Proofs.Ytbpicpapkpomhaa.Text
