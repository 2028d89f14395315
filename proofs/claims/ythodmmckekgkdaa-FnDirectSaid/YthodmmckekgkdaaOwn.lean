/-
  Words for rows in memory: 'Own' (a slice value owns cells in a block of its own between two block numbers), 'Reads' (a slice value that can be read), 'Apart' (what a call leaves alone), and how each is carried from world to world.
-/
import Derived.Below
import Derived.OwnWalk
import Derived.Laws.OwnMore
import Derived.ChangeSlices
namespace Go.Proofs.Ythodmmckekgkdaa.Mem
open Go Go.RowKit
set_option maxRecDepth 100000

/-- The slice value v owns the cells cs (one cell each, elements of type e); its block lies from lo on and below hi. -/
def Own (e : TypeId) (w : World) (lo hi : Nat) (v : Value) (cs : List Value) : Prop :=
  w.ownsRow lo e 1 v cs.length cs ∧ (∀ k, v.ownBlock = some k → k < hi)
/-- The slice value v can be read as the cells cs; its block lies below B. -/
def Reads (w : World) (B : Nat) (v : Value) (cs : List Value) : Prop :=
  cs.length ≤ maxLen ∧ ∃ a cap, v = .slice a cs.length cap ∧ (cs ≠ [] → ∃ b off, a = some ⟨b, off, none⟩ ∧ b < B ∧ ∀ j, j < cs.length → w.cell? ⟨b, off + j, none⟩ = cs[j]?)
/-- Blocks outside of [lo, hi) stand as they were. -/
structure Apart (lo hi : Nat) (w w' : World) : Prop where
  os : w'.os = w.os
  tape : w'.tape = w.tape
  output : w'.output = w.output
  size : w.heap.size ≤ w'.heap.size
  block : ∀ k, k < w.heap.size → (k < lo ∨ hi ≤ k) → w'.heap[k]? = w.heap[k]?

theorem Apart.refl (lo hi : Nat) (w : World) : Apart lo hi w w := ⟨rfl, rfl, rfl, Nat.le_refl _, fun _ _ _ => rfl⟩
theorem Apart.trans {lo hi : Nat} {a b c : World} (h : Apart lo hi a b) (k : Apart lo hi b c) : Apart lo hi a c :=
  ⟨k.os.trans h.os, k.tape.trans h.tape, k.output.trans h.output, Nat.le_trans h.size k.size, fun j hj ho => (k.block j (Nat.lt_of_lt_of_le hj h.size) ho).trans (h.block j hj ho)⟩
theorem Apart.of_below {lo hi B : Nat} {w w' : World} (h : Below B w w') (hB : w.heap.size ≤ B) : Apart lo hi w w' := ⟨h.os, h.tape, h.output, h.size, fun k hk _ => h.block k (by omega)⟩
theorem Apart.below {lo hi B : Nat} {w w' : World} (h : Apart lo hi w w') (hB : B ≤ lo) (hs : B ≤ w.heap.size) : Below B w w' := ⟨h.os, h.tape, h.output, h.size, fun k hk => h.block k (by omega) (by omega)⟩
theorem Apart.grown {lo hi : Nat} {w w' : World} {row : Option Nat} (h : w.grownBy w' row) (hr : ∀ k, row = some k → lo ≤ k ∧ k < hi) : Apart lo hi w w' :=
  ⟨h.os, h.tape, h.output, h.size, fun k hk ho => h.block k hk (fun e => by have := hr k e.symm; omega)⟩
theorem Apart.drew {lo hi : Nat} {a w : World} (h : Apart lo hi a w) : Apart lo hi a w.drew := ⟨h.os, h.tape, h.output, h.size, h.block⟩

theorem ownsRow_same {e : TypeId} {w w' : World} {lo : Nat} {v : Value} {n : Nat} {cs : List Value} (h : w.ownsRow lo e 1 v n cs) (hb : ∀ k, v.ownBlock = some k → w'.heap[k]? = w.heap[k]?) : w'.ownsRow lo e 1 v n cs := by
  obtain ⟨h1, h2⟩ := h
  refine ⟨h1, ?_⟩
  rcases h2 with h2 | ⟨g, cap, cur, rfl, hg, hk, h3⟩
  · exact .inl h2
  · exact .inr ⟨g, cap, cur, rfl, hg, (hb g rfl).trans hk, h3⟩
theorem Own.below {e : TypeId} {w w' : World} {lo hi B : Nat} {v : Value} {cs : List Value} (h : Own e w lo hi v cs) (hb : Below B w w') (hB : hi ≤ B) : Own e w' lo hi v cs :=
  ⟨ownsRow_same h.1 fun k hk => hb.block k (by have := h.2 k hk; omega), h.2⟩
theorem Own.apart {e : TypeId} {w w' : World} {lo hi l r : Nat} {v : Value} {cs : List Value} (h : Own e w lo hi v cs) (hb : Apart l r w w') (hd : hi ≤ l ∨ r ≤ lo) : Own e w' lo hi v cs :=
  ⟨ownsRow_same h.1 fun k hk => hb.block k (h.1.lt k hk).2 (by have := h.2 k hk; have := (h.1.lt k hk).1; omega), h.2⟩
theorem Own.mono {e : TypeId} {w : World} {lo hi lo' hi' : Nat} {v : Value} {cs : List Value} (h : Own e w lo hi v cs) (hl : lo' ≤ lo) (hh : hi ≤ hi') : Own e w lo' hi' v cs := by
  obtain ⟨⟨h1, h2⟩, h3⟩ := h
  refine ⟨⟨h1, ?_⟩, fun k hk => by have := h3 k hk; omega⟩
  rcases h2 with h2 | ⟨g, cap, cur, rfl, hg, hk⟩
  · exact .inl h2
  · exact .inr ⟨g, cap, cur, rfl, by omega, hk⟩
theorem Own.len {e : TypeId} {w : World} {lo hi : Nat} {v : Value} {cs : List Value} (h : Own e w lo hi v cs) : cs.length ≤ maxLen := by
  rcases h.1.2 with ⟨_, h2⟩ | ⟨g, cap, cur, _, _, _, h1, h2, _⟩
  · omega
  · omega
theorem Own.reads {e : TypeId} {w : World} {lo hi : Nat} {v : Value} {cs : List Value} (h : Own e w lo hi v cs) : Reads w hi v cs := by
  refine ⟨h.len, ?_⟩
  rcases h.1.2 with ⟨rfl, h2⟩ | ⟨g, cap, cur, rfl, hg, hk, h1, h2, h3, h4⟩
  · exact ⟨none, 0, by rw [h2], fun hn => absurd (List.length_eq_zero_iff.1 h2) hn⟩
  · refine ⟨some ⟨g, 0, none⟩, cap, rfl, fun _ => ⟨g, 0, rfl, h.2 g rfl, fun j hj => ?_⟩⟩
    rw [Nat.zero_add]
    exact h.1.cellAt j (by omega)
theorem Own.made {e : TypeId} {w : World} {v : Value} {lo : Nat} {n : Nat} {cs : List Value} (h : w.ownsRow lo e 1 v n cs) : Own e w lo w.heap.size v cs := by
  have hl : cs.length = n := by have := h.1; omega
  subst hl
  exact ⟨h, fun k hk => (h.lt k hk).2⟩
theorem Own.hi {e : TypeId} {w : World} {lo hi : Nat} {v : Value} {cs : List Value} (h : Own e w lo hi v cs) : Own e w lo w.heap.size v cs := ⟨h.1, fun k hk => (h.1.lt k hk).2⟩
theorem Reads.below {w w' : World} {B B' : Nat} {v : Value} {cs : List Value} (h : Reads w B v cs) (hb : Below B' w w') (hB : B ≤ B') : Reads w' B v cs := by
  obtain ⟨h1, a, cap, h2, h3⟩ := h
  refine ⟨h1, a, cap, h2, fun hn => ?_⟩
  obtain ⟨b, off, ha, hlt, hc⟩ := h3 hn
  exact ⟨b, off, ha, hlt, fun j hj => (hb.cell (p := ⟨b, off + j, none⟩) (by show b < B'; omega)).trans (hc j hj)⟩
theorem Reads.mono {w : World} {B B' : Nat} {v : Value} {cs : List Value} (h : Reads w B v cs) (hB : B ≤ B') : Reads w B' v cs := by
  obtain ⟨h1, a, cap, h2, h3⟩ := h
  refine ⟨h1, a, cap, h2, fun hn => ?_⟩
  obtain ⟨b, off, ha, hlt, hc⟩ := h3 hn
  exact ⟨b, off, ha, by omega, hc⟩
theorem Reads.apart {w w' : World} {B l r : Nat} {v : Value} {cs : List Value} (h : Reads w B v cs) (hb : Apart l r w w') (hB : B ≤ l) (hs : B ≤ w.heap.size) : Reads w' B v cs :=
  h.below (hb.below hB hs) (Nat.le_refl _)

/-- A slice value's length is at most its capacity. -/
def CapOk (v : Value) : Prop := ∀ a n c, v = .slice a n c → n ≤ c
theorem Own.capOk {e : TypeId} {w : World} {lo hi : Nat} {v : Value} {cs : List Value} (h : Own e w lo hi v cs) : CapOk v := by
  intro a n c hv
  rcases h.1.2 with ⟨rfl, h2⟩ | ⟨g, cap, cur, rfl, hg, hk, h1, h2, h3, h4⟩
  · cases hv; omega
  · cases hv; omega

/-- A slice that came in, whose cells are known up to its capacity, can be read. -/
theorem reads_of {w : World} {a : Addr} {len cap : Nat} {cs : List Value} (hl : len ≤ cs.length) (hm : cs.length ≤ maxLen) (hc : ∀ i, i < cs.length → w.cell? (a.add i) = cs[i]?) :
    Reads w w.heap.size (.slice (some a) len cap) (cs.take len) := by
  have hlen : (cs.take len).length = len := by simp; omega
  refine ⟨by omega, some a, cap, by rw [hlen], fun hne => ?_⟩
  have h0 : 0 < len := by
    rcases Nat.eq_zero_or_pos len with h | h
    · exact absurd (List.length_eq_zero_iff.1 (hlen.trans h)) hne
    · exact h
  have h1 := hc 0 (by omega)
  rw [List.getElem?_eq_getElem (by omega)] at h1
  have hspot : a = ⟨a.block, a.off, none⟩ := by
    obtain ⟨b, o, sp⟩ := a
    cases sp with
    | none => rfl
    | some x =>
      simp only [Addr.add, if_pos, World.cell?] at h1
      split at h1
      · simp at h1
      · cases h1
  have hb : a.block < w.heap.size := by
    simp only [Addr.add, if_pos, World.cell?] at h1
    split at h1
    · rename_i h; exact (Array.getElem?_eq_some_iff.1 h).1
    · cases h1
  refine ⟨a.block, a.off, by rw [← hspot], hb, fun j hj => ?_⟩
  rw [hlen] at hj
  have h2 : a.add j = ⟨a.block, a.off + j, none⟩ := by
    rw [hspot]
    unfold Addr.add
    split
    · rename_i h; subst h; rfl
    · rfl
  rw [← h2, hc j (by omega), List.getElem?_take, if_pos hj]
theorem reads_nil (w : World) (B : Nat) : Reads w B (.slice none 0 0) [] := ⟨Nat.zero_le _, none, 0, rfl, fun h => absurd rfl h⟩

/-- Cells of ints. -/
abbrev ints (xs : List Int) : List Value := xs.map (Value.int .i64)
theorem ints_get (xs : List Int) (j : Nat) (hj : j < xs.length) : (ints xs)[j]? = some (.int .i64 (xs.getD j 0)) := by
  simp [ints, List.getD, List.getElem?_eq_getElem hj]
/-- The numbers from k on. -/
def seq (k n : Nat) : List Int := (List.range n).map fun i => ((k + i : Nat) : Int)
theorem seq_length (k n : Nat) : (seq k n).length = n := by simp [seq]
theorem seq_get (k n j : Nat) (hj : j < n) : (seq k n).getD j 0 = ((k + j : Nat) : Int) := by simp [seq, List.getD, hj]
theorem seq_set (k : Nat) (xs : List Int) (j : Nat) (hj : j < xs.length) : (ints (seq k j ++ xs.drop j)).set j (.int .i64 ((k + j : Nat) : Int)) = ints (seq k (j + 1) ++ xs.drop (j + 1)) := by
  apply List.ext_getElem?
  intro i
  rw [List.getElem?_set]
  simp only [ints, List.length_map, List.length_append, seq_length, List.length_drop, List.getElem?_map]
  by_cases h : j = i
  · subst h
    rw [if_pos rfl, if_pos (by omega), List.getElem?_append_left (by rw [seq_length]; omega)]
    simp [seq]
  · rw [if_neg h]
    by_cases h1 : i < j
    · rw [List.getElem?_append_left (by rw [seq_length]; omega), List.getElem?_append_left (by rw [seq_length]; omega)]
      simp [seq, h1, show i < j + 1 by omega]
    · rw [List.getElem?_append_right (by rw [seq_length]; omega), List.getElem?_append_right (by rw [seq_length]; omega)]
      simp only [seq_length, List.getElem?_drop]
      rw [show j + (i - j) = i by omega, show j + 1 + (i - (j + 1)) = i by omega]
end Go.Proofs.Ythodmmckekgkdaa.Mem
