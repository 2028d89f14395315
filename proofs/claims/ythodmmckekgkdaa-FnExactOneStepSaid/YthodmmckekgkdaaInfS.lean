/-
  Chapter 11 of the model: lists that say the same, a list without one of its rules, what follows from the other ones, what stays.
-/
import Derived.Test.YthodmmckekgkdaaInfP
import Derived.Test.YthodmmckekgkdaaAppR
import Derived.Test.YthodmmckekgkdaaMrg2
namespace Go.Proofs.Ythodmmckekgkdaa.Infer
open Go Go.RowKit Mem Sets Ctx Tab Rule Stem Lectic
set_option maxRecDepth 100000

theorem equiv_no1 {a b : List PInt} (h : allIn 8 a = false) : equiv a b = false := by rw [equiv, h]; rfl
theorem equiv_no2 {a b : List PInt} (h : allIn 8 b = false) : equiv a b = false := by rw [equiv, h]; cases allIn 8 a <;> rfl
theorem equiv_yes {a b : List PInt} (ha : allIn 8 a = true) (hb : allIn 8 b = true) : equiv a b = (allFollow a b && allFollow b a) := by rw [equiv, ha, hb]; rfl
theorem cut_own {w w3 w4 : World} {e : TypeId} {g1 g2 c1 c2 k : Nat} {l : List PInt} {ob : Obj} {m1 m2 : Nat}
    (o3 : w3.ownsRow w.heap.size e 2 (.slice (some ⟨g1, 0, none⟩) m1 c1) m1 ([] ++ prs (l.take k))) (o4 : w4.ownsRow w.heap.size e 2 (.slice (some ⟨g2, 0, none⟩) m2 c2) m2 ([] ++ prs (l.take k) ++ prs (l.drop (k + 1))))
    (gr3 : (w.alloc ob).drew.grownBy w3 (some w.heap.size)) (gr4 : w3.grownBy w4 (some g1)) :
    OwnP e w4 w.heap.size w4.heap.size (.slice (some ⟨g2, 0, none⟩) m2 c2) (without l k) ∧ Below w.heap.size w w4 := by
  have h3 := (((Below.refl w.heap.size w).alloc (Nat.le_refl _) ob).drew).grown gr3 (by show w.heap.size ≤ (w.alloc ob).heap.size; simp) (fun q hq => by cases hq; exact Nat.le_refl _)
  have h4 := h3.grown gr4 (by have := gr3.size; change (w.alloc ob).heap.size ≤ _ at this; simp at this; omega) (fun q hq => by cases hq; exact (o3.lt g1 rfl).1)
  refine ⟨OwnP.made (n := m2) ?_, h4⟩
  rw [without, prs_app]
  simpa using o4
theorem redundant_no {l : List PInt} {k : Int} (h : ¬ (0 ≤ k ∧ k ≤ (l.length : Int) - 1)) : redundant l k = false := by
  rw [redundant, isRed]
  by_cases h0 : 0 ≤ k
  · rw [decide_eq_false (show ¬ k.toNat < l.length by omega), Bool.false_and, Bool.and_false]
  · rw [decide_eq_false h0]; rfl
theorem redundant_nat (l : List PInt) (k : Nat) : redundant l (k : Int) = isRed l k := by
  rw [redundant, decide_eq_true (by omega), Int.toNat_natCast]; rfl
theorem isRed_at {l : List PInt} {k : Nat} (hk : k < l.length) : isRed l k = follows (without l k) (rl l k) := by rw [isRed, decide_eq_true hk]; rfl
theorem minimal_no {l : List PInt} (h : allIn 8 l = false) : minimal l = [] := by rw [minimal, if_neg (by rw [h]; decide)]
theorem minimal_yes {l : List PInt} (h : allIn 8 l = true) : minF (l.length - 0) l 0 = minimal l := by rw [minimal, if_pos h]; rfl
theorem minF_red {l : List PInt} {k : Nat} (hk : k < l.length) (h : isRed l k = true) : minF (l.length - k) l k = minF ((without l k).length - k) (without l k) k := by
  obtain ⟨d, hd⟩ : ∃ d, l.length - k = d + 1 := ⟨l.length - k - 1, by omega⟩
  rw [hd, minF, if_pos hk, if_pos h, without_len hk, show l.length - 1 - k = d by omega]
theorem minF_next {l : List PInt} {k : Nat} (hk : k < l.length) (h : isRed l k = false) : minF (l.length - k) l k = minF (l.length - (k + 1)) l (k + 1) := by
  obtain ⟨d, hd⟩ : ∃ d, l.length - k = d + 1 := ⟨l.length - k - 1, by omega⟩
  rw [hd, minF, if_pos hk, if_neg (by rw [h]; decide), show l.length - (k + 1) = d by omega]
theorem minF_end {l : List PInt} {k : Nat} (hk : l.length ≤ k) : minF (l.length - k) l k = l := by
  rw [show l.length - k = 0 by omega]; rfl
theorem capP {e : TypeId} {w : World} {lo hi n c : Nat} {a : Option Addr} {l : List PInt} (h : OwnP e w lo hi (.slice a n c) l) : n ≤ c := by
  rcases h.1.2 with ⟨hv, _⟩ | ⟨g, cap, cur, hv, _, _, hn, _⟩
  · injection hv with e1 e2 e3; omega
  · injection hv with e1 e2 e3; omega
/-- A call that returns a list of its own, in a world of the class. -/
theorem _root_.Go.Proofs.Ythodmmckekgkdaa.Mem.Past.ofB' {W : World} {P : Program} {f : FuncId} {args : Array Value} {l : List PInt} {t : TypeId} (p : Past W) (h : Calls P f args p.w fun e w' => ∃ u, e = .returned u ∧ OwnP t w' p.w.heap.size w'.heap.size u l ∧ Below p.w.heap.size p.w w') :
    Calls P f args p.w fun e w' => ∃ a c, e = .returned (.slice a l.length c) ∧ ∃ q : Past W, w' = q.w ∧ OwnP t q.w p.w.heap.size q.w.heap.size (.slice a l.length c) l :=
  h.mono fun _ w' ⟨u, he, ho, hb⟩ => by
    obtain ⟨a, c, rfl⟩ := ho.form
    exact ⟨a, c, he, ⟨w', p.h.trans (hb.mono p.h.size)⟩, rfl, ho⟩
def lenV : Value → Nat
  | .slice _ n _ => n
  | _ => 0
end Go.Proofs.Ythodmmckekgkdaa.Infer
