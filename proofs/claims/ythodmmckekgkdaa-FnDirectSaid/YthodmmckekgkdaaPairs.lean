/-
  Slices of structs of two numbers: what such a slice owns, what can be read off it.
-/
import Derived.Test.YthodmmckekgkdaaOwn
import Derived.Test.YthodmmckekgkdaaInts
namespace Go.Proofs.Ythodmmckekgkdaa.Mem
open Go Go.RowKit
set_option maxRecDepth 100000

abbrev PInt := Int × Int
def prs (l : List PInt) : List Value := l.flatMap fun p => [.int .i64 p.1, .int .i64 p.2]
theorem prs_length (l : List PInt) : (prs l).length = l.length * 2 := by
  induction l with
  | nil => rfl
  | cons p l ih => simp only [prs, List.flatMap_cons, List.length_append, List.length_cons, List.length_nil] at ih ⊢; rw [ih]; omega
theorem prs_get (l : List PInt) (j : Nat) (hj : j < l.length) : (prs l)[j * 2]? = some (.int .i64 (l.getD j (0, 0)).1) ∧ (prs l)[j * 2 + 1]? = some (.int .i64 (l.getD j (0, 0)).2) := by
  induction l generalizing j with
  | nil => simp at hj
  | cons p l ih =>
    cases j with
    | zero => exact ⟨rfl, rfl⟩
    | succ j =>
      have := ih j (by simpa using hj)
      have e : prs (p :: l) = .int .i64 p.1 :: .int .i64 p.2 :: prs l := rfl
      rw [e, show (j + 1) * 2 = j * 2 + 1 + 1 by omega]
      simpa using this
theorem prs_app (l r : List PInt) : prs (l ++ r) = prs l ++ prs r := by simp [prs]
theorem prs_nil {l : List PInt} : prs l = [] ↔ l = [] := by
  constructor
  · intro h
    have := congrArg List.length h
    rw [prs_length] at this
    simp at this
    exact List.length_eq_zero_iff.1 (by omega)
  · rintro rfl; rfl

def OwnP (e : TypeId) (w : World) (lo hi : Nat) (v : Value) (l : List PInt) : Prop :=
  w.ownsRow lo e 2 v l.length (prs l) ∧ (∀ k, v.ownBlock = some k → k < hi)
def ReadsP (w : World) (B : Nat) (v : Value) (l : List PInt) : Prop :=
  l.length ≤ maxLen ∧ ∃ a cap, v = .slice a l.length cap ∧ (l ≠ [] → ∃ b off, a = some ⟨b, off, none⟩ ∧ b < B ∧ ∀ j, j < l.length → w.cell? ⟨b, off + j * 2, none⟩ = some (.int .i64 (l.getD j (0, 0)).1) ∧ w.cell? ⟨b, off + j * 2 + 1, none⟩ = some (.int .i64 (l.getD j (0, 0)).2))
theorem rowP_same {e : TypeId} {size : Nat} {w w' : World} {lo : Nat} {v : Value} {n : Nat} {cs : List Value} (h : w.ownsRow lo e size v n cs) (hb : ∀ k, v.ownBlock = some k → w'.heap[k]? = w.heap[k]?) : w'.ownsRow lo e size v n cs := by
  obtain ⟨h1, h2⟩ := h
  refine ⟨h1, ?_⟩
  rcases h2 with h2 | ⟨g, cap, cur, rfl, hg, hk, h3⟩
  · exact .inl h2
  · exact .inr ⟨g, cap, cur, rfl, hg, (hb g rfl).trans hk, h3⟩
theorem rowP_form {e : TypeId} {size : Nat} {w : World} {lo : Nat} {v : Value} {n : Nat} {cs : List Value} (h : w.ownsRow lo e size v n cs) : ∃ a c, v = .slice a n c := by
  rcases h.2 with ⟨h1, h2⟩ | ⟨g, cap, cur, h1, _⟩
  · exact ⟨none, 0, by rw [h2]; exact h1⟩
  · exact ⟨_, _, h1⟩
theorem OwnP.below {e : TypeId} {w w' : World} {lo hi B : Nat} {v : Value} {l : List PInt} (h : OwnP e w lo hi v l) (hb : Below B w w') (hB : hi ≤ B) : OwnP e w' lo hi v l :=
  ⟨rowP_same h.1 fun k hk => hb.block k (by have := h.2 k hk; omega), h.2⟩
theorem OwnP.apart {e : TypeId} {w w' : World} {lo hi l r : Nat} {v : Value} {cs : List PInt} (h : OwnP e w lo hi v cs) (hb : Apart l r w w') (hd : hi ≤ l ∨ r ≤ lo) : OwnP e w' lo hi v cs :=
  ⟨rowP_same h.1 fun k hk => hb.block k (h.1.lt k hk).2 (by have := h.2 k hk; have := (h.1.lt k hk).1; omega), h.2⟩
theorem OwnP.mono {e : TypeId} {w : World} {lo hi lo' hi' : Nat} {v : Value} {l : List PInt} (h : OwnP e w lo hi v l) (hl : lo' ≤ lo) (hh : hi ≤ hi') : OwnP e w lo' hi' v l := by
  obtain ⟨⟨h1, h2⟩, h3⟩ := h
  refine ⟨⟨h1, ?_⟩, fun k hk => by have := h3 k hk; omega⟩
  rcases h2 with h2 | ⟨g, cap, cur, rfl, hg, hk⟩
  · exact .inl h2
  · exact .inr ⟨g, cap, cur, rfl, by omega, hk⟩
theorem OwnP.made {e : TypeId} {w : World} {v : Value} {lo : Nat} {n : Nat} {l : List PInt} (h : w.ownsRow lo e 2 v n (prs l)) : OwnP e w lo w.heap.size v l := by
  have hl : n = l.length := by have := h.1; rw [prs_length] at this; omega
  subst hl
  exact ⟨h, fun k hk => (h.lt k hk).2⟩
theorem OwnP.form {e : TypeId} {w : World} {lo hi : Nat} {v : Value} {l : List PInt} (h : OwnP e w lo hi v l) : ∃ a c, v = .slice a l.length c := by
  rcases h.1.2 with ⟨rfl, h2⟩ | ⟨g, cap, cur, rfl, _⟩
  · exact ⟨none, 0, by rw [h2]⟩
  · exact ⟨_, _, rfl⟩
theorem OwnP.len {e : TypeId} {w : World} {lo hi : Nat} {v : Value} {l : List PInt} (h : OwnP e w lo hi v l) : l.length ≤ maxLen := by
  rcases h.1.2 with ⟨_, h2⟩ | ⟨g, cap, cur, _, _, _, h1, h2, _⟩
  · omega
  · omega
theorem OwnP.reads {e : TypeId} {w : World} {lo hi : Nat} {v : Value} {l : List PInt} (h : OwnP e w lo hi v l) : ReadsP w hi v l := by
  refine ⟨h.len, ?_⟩
  rcases h.1.2 with ⟨rfl, h2⟩ | ⟨g, cap, cur, rfl, hg, hk, h1, h2, h3, h4⟩
  · exact ⟨none, 0, by rw [h2], fun hn => absurd (List.length_eq_zero_iff.1 h2) hn⟩
  · refine ⟨some ⟨g, 0, none⟩, cap, rfl, fun _ => ⟨g, 0, rfl, h.2 g rfl, fun j hj => ?_⟩⟩
    rw [Nat.zero_add]
    have hg := prs_get l j hj
    exact ⟨(h.1.cellAt (j * 2) (by omega)).trans hg.1, (h.1.cellAt (j * 2 + 1) (by omega)).trans hg.2⟩
theorem ReadsP.form {w : World} {B : Nat} {v : Value} {l : List PInt} (h : ReadsP w B v l) : ∃ a c, v = .slice a l.length c := by
  obtain ⟨_, a, c, rfl, _⟩ := h
  exact ⟨a, c, rfl⟩
theorem ReadsP.below {w w' : World} {B B' : Nat} {v : Value} {l : List PInt} (h : ReadsP w B v l) (hb : Below B' w w') (hB : B ≤ B') : ReadsP w' B v l := by
  obtain ⟨h1, a, cap, h2, h3⟩ := h
  refine ⟨h1, a, cap, h2, fun hn => ?_⟩
  obtain ⟨b, off, ha, hlt, hc⟩ := h3 hn
  exact ⟨b, off, ha, hlt, fun j hj => ⟨(hb.cell (p := ⟨b, off + j * 2, none⟩) (by show b < B'; omega)).trans (hc j hj).1, (hb.cell (p := ⟨b, off + j * 2 + 1, none⟩) (by show b < B'; omega)).trans (hc j hj).2⟩⟩
theorem ReadsP.mono {w : World} {B B' : Nat} {v : Value} {l : List PInt} (h : ReadsP w B v l) (hB : B ≤ B') : ReadsP w B' v l := by
  obtain ⟨h1, a, cap, h2, h3⟩ := h
  refine ⟨h1, a, cap, h2, fun hn => ?_⟩
  obtain ⟨b, off, ha, hlt, hc⟩ := h3 hn
  exact ⟨b, off, ha, by omega, hc⟩
theorem ReadsP.apart {w w' : World} {B l r : Nat} {v : Value} {cs : List PInt} (h : ReadsP w B v cs) (hb : Apart l r w w') (hB : B ≤ l) (hs : B ≤ w.heap.size) : ReadsP w' B v cs :=
  h.below (hb.below hB hs) (Nat.le_refl _)
theorem own_setP {e : TypeId} {w : World} {lo hi : Nat} {v : Value} {l : List PInt} (h : OwnP e w lo hi v l) {p : Addr} (hp : p.block < lo ∨ hi ≤ p.block) (u : Value) : OwnP e (w.setCell p u) lo hi v l :=
  ⟨rowP_same h.1 fun k hk => Below.heap_setCell w p u k (by have := h.2 k hk; have := (h.1.lt k hk).1; omega), h.2⟩
/-- The numbers from k on, two by two. -/
def seqP (k n : Nat) : List PInt := (List.range n).map fun j => (((k + 2 * j : Nat) : Int), ((k + 2 * j + 1 : Nat) : Int))
theorem seqP_length (k n : Nat) : (seqP k n).length = n := by simp [seqP]
theorem seqP_succ (k n : Nat) : seqP k (n + 1) = seqP k n ++ [(((k + 2 * n : Nat) : Int), ((k + 2 * n + 1 : Nat) : Int))] := by simp [seqP, List.range_succ]
theorem seqP_get (k n j : Nat) (hj : j < n) : (seqP k n).getD j (0, 0) = (((k + 2 * j : Nat) : Int), ((k + 2 * j + 1 : Nat) : Int)) := by
  simp [seqP, List.getD, hj]
theorem pair_all {xs ys : List PInt} {k : Nat} (hl : xs.length = ys.length) (hk : k = xs.length) (h : ∀ j, j < k → xs.getD j (0, 0) = ys.getD j (0, 0)) : (xs == ys) = true := by
  rw [beq_iff_eq]
  apply List.ext_getElem hl
  intro i h1 h2
  have := h i (by omega)
  simpa [List.getD, List.getElem?_eq_getElem h1, List.getElem?_eq_getElem h2] using this
theorem pair_ne {xs ys : List PInt} {j : Nat} (h : xs.getD j (0, 0) ≠ ys.getD j (0, 0)) : (xs == ys) = false := by
  rw [beq_eq_false_iff_ne]
  rintro rfl
  exact h rfl
theorem set_two (k : Nat) (xs : List PInt) (j : Nat) (hj : j < xs.length) : ((prs (seqP k j ++ xs.drop j)).set (j * 2) (.int .i64 ((k + 2 * j : Nat) : Int))).set (j * 2 + 1) (.int .i64 ((k + 2 * j + 1 : Nat) : Int)) = prs (seqP k (j + 1) ++ xs.drop (j + 1)) := by
  have hl : (prs (seqP k j)).length = j * 2 := by rw [prs_length, seqP_length]
  rw [List.drop_eq_getElem_cons hj, seqP_succ, prs_app, prs_app, prs_app]
  have e : prs (xs[j] :: xs.drop (j + 1)) = .int .i64 xs[j].1 :: .int .i64 xs[j].2 :: prs (xs.drop (j + 1)) := rfl
  rw [e, List.set_append_right _ _ (by omega), hl, Nat.sub_self, List.set_cons_zero, List.set_append_right _ _ (by omega), hl, Nat.add_sub_cancel_left, List.set_cons_succ, List.set_cons_zero, List.append_assoc]
  rfl
end Go.Proofs.Ythodmmckekgkdaa.Mem
