/-
  Chapter 11 of the model: lists that say the same, a list without one of its rules, what follows from the other ones, what stays.
-/
import Derived.Test.YthodmmckekgkdaaInfP
import Derived.Test.YthodmmckekgkdaaAppR
import Derived.Test.YthodmmckekgkdaaMrg2
import Derived.Test.YthodmmckekgkdaaMrg3
import Derived.Test.YthodmmckekgkdaaMrg1
import Derived.Test.YthodmmckekgkdaaElems
import Derived.Test.YthodmmckekgkdaaBits
import Derived.Test.YthodmmckekgkdaaStemI
namespace Go.Proofs.Ythodmmckekgkdaa.Infer
open Go Go.RowKit Mem Sets Ctx Tab Rule Stem Lectic
set_option maxRecDepth 100000

theorem equiv_no1 {a b : List PInt} (h : allIn 8 a = false) : equiv a b = false := by rw [equiv, h]; rfl
theorem equiv_no2 {a b : List PInt} (h : allIn 8 b = false) : equiv a b = false := by rw [equiv, h]; cases allIn 8 a <;> rfl
theorem equiv_yes {a b : List PInt} (ha : allIn 8 a = true) (hb : allIn 8 b = true) : equiv a b = (allFollow a b && allFollow b a) := by rw [equiv, ha, hb]; rfl
theorem cut_own {w w3 w4 : World} {e : TypeId} {g1 g2 c1 c2 k : Nat} {l : List PInt} {ob : Obj} {m1 m2 : Nat}
    (o3 : w3.ownsRow w.heap.size e 2 (.slice (some ⟨g1, 0, none⟩) m1 c1) m1 ([] ++ prs (l.take k))) (o4 : w4.ownsRow w.heap.size e 2 (.slice (some ⟨g2, 0, none⟩) m2 c2) m2 ([] ++ prs (l.take k) ++ prs (l.drop (k + 1))))
    (gr3 : (w.alloc ob).drew.grownBy w3 (some w.heap.size)) (gr4 : w3.grownBy w4 (some g1)) :
    OwnP e w4 w.heap.size w4.heap.size (.slice (some ⟨g2, 0, none⟩) m2 c2) (without l k) ∧ Below w.heap.size w w4 := by
  have h3 := (((Below.refl w.heap.size w).alloc (Nat.le_refl _) ob).drew).grown gr3 (by show w.heap.size ≤ (w.alloc ob).heap.size; simp) (fun q hq => by cases hq; exact Nat.le_refl _)
  have h4 := h3.grown gr4 (by have := gr3.size; change (w.alloc ob).heap.size ≤ _ at this; simp at this; omega) (fun q hq => by cases hq; exact (o3.lt g1 rfl).1)
  refine ⟨OwnP.made (n := m2) ?_, h4⟩
  rw [without, prs_app]
  simpa using o4
theorem redundant_no {l : List PInt} {k : Int} (h : ¬ (0 ≤ k ∧ k ≤ (l.length : Int) - 1)) : redundant l k = false := by
  rw [redundant, isRed]
  by_cases h0 : 0 ≤ k
  · rw [decide_eq_false (show ¬ k.toNat < l.length by omega), Bool.false_and, Bool.and_false]
  · rw [decide_eq_false h0]; rfl
theorem redundant_nat (l : List PInt) (k : Nat) : redundant l (k : Int) = isRed l k := by
  rw [redundant, decide_eq_true (by omega), Int.toNat_natCast]; rfl
theorem isRed_at {l : List PInt} {k : Nat} (hk : k < l.length) : isRed l k = follows (without l k) (rl l k) := by rw [isRed, decide_eq_true hk]; rfl
theorem minimal_no {l : List PInt} (h : allIn 8 l = false) : minimal l = [] := by rw [minimal, if_neg (by rw [h]; decide)]
theorem minimal_yes {l : List PInt} (h : allIn 8 l = true) : minF (l.length - 0) l 0 = minimal l := by rw [minimal, if_pos h]; rfl
theorem minF_red {l : List PInt} {k : Nat} (hk : k < l.length) (h : isRed l k = true) : minF (l.length - k) l k = minF ((without l k).length - k) (without l k) k := by
  obtain ⟨d, hd⟩ : ∃ d, l.length - k = d + 1 := ⟨l.length - k - 1, by omega⟩
  rw [hd, minF, if_pos hk, if_pos h, without_len hk, show l.length - 1 - k = d by omega]
theorem minF_next {l : List PInt} {k : Nat} (hk : k < l.length) (h : isRed l k = false) : minF (l.length - k) l k = minF (l.length - (k + 1)) l (k + 1) := by
  obtain ⟨d, hd⟩ : ∃ d, l.length - k = d + 1 := ⟨l.length - k - 1, by omega⟩
  rw [hd, minF, if_pos hk, if_neg (by rw [h]; decide), show l.length - (k + 1) = d by omega]
theorem minF_end {l : List PInt} {k : Nat} (hk : l.length ≤ k) : minF (l.length - k) l k = l := by
  rw [show l.length - k = 0 by omega]; rfl
theorem capP {e : TypeId} {w : World} {lo hi n c : Nat} {a : Option Addr} {l : List PInt} (h : OwnP e w lo hi (.slice a n c) l) : n ≤ c := by
  rcases h.1.2 with ⟨hv, _⟩ | ⟨g, cap, cur, hv, _, _, hn, _⟩
  · injection hv with e1 e2 e3; omega
  · injection hv with e1 e2 e3; omega
/-- A call that returns a list of its own, in a world of the class. -/
theorem _root_.Go.Proofs.Ythodmmckekgkdaa.Mem.Past.ofB' {W : World} {P : Program} {f : FuncId} {args : Array Value} {l : List PInt} {t : TypeId} (p : Past W) (h : Calls P f args p.w fun e w' => ∃ u, e = .returned u ∧ OwnP t w' p.w.heap.size w'.heap.size u l ∧ Below p.w.heap.size p.w w') :
    Calls P f args p.w fun e w' => ∃ a c, e = .returned (.slice a l.length c) ∧ ∃ q : Past W, w' = q.w ∧ OwnP t q.w p.w.heap.size q.w.heap.size (.slice a l.length c) l :=
  h.mono fun _ w' ⟨u, he, ho, hb⟩ => by
    obtain ⟨a, c, rfl⟩ := ho.form
    exact ⟨a, c, he, ⟨w', p.h.trans (hb.mono p.h.size)⟩, rfl, ho⟩
def lenV : Value → Nat
  | .slice _ n _ => n
  | _ => 0
end Go.Proofs.Ythodmmckekgkdaa.Infer

namespace Go.Proofs.Ythodmmckekgkdaa.Infer
open Go Go.RowKit Mem Sets Ctx Tab Rule Stem Lectic
set_option maxRecDepth 100000

theorem areR_nn {n : Int} {l : List PInt} (h : areR n l = true) : 0 ≤ n ∧ n ≤ 6 ∧ l.length ≤ 40 := by
  unfold areR at h
  rw [Bool.and_eq_true, Bool.and_eq_true, decide_eq_true_eq, decide_eq_true_eq] at h
  omega
/-- The shortest list; none where the rules are no rules of n elements. -/
def shortRules (n : Int) (l : List PInt) : List PInt := if areR n l = true then shortOf n.toNat l else []
theorem short_nat {n : Nat} {l : List PInt} (hn : n ≤ 8) : asInts (shortN n l) = shortP n l := by
  unfold shortN asInts
  rw [List.map_map]
  refine (List.map_congr_left fun z hz => ?_).trans (List.map_id _)
  obtain ⟨x, -, rfl⟩ := (sortPs_mem hn).1 hz
  show ((((x : Nat) : Int).toNat : Nat) : Int) = id ((x : Nat) : Int)
  rw [Int.toNat_natCast]; rfl
theorem shortOf_plen (n : Nat) (l : List PInt) : (shortOf n l).length = (shortP n l).length := by rw [shortOf, List.length_map, shortN, List.length_map]
theorem short_get {n : Nat} {l : List PInt} (hn : n ≤ 8) {k : Nat} (hk : k < (shortP n l).length) : ∃ x : Nat, x < 2 ^ n ∧ (shortP n l).getD k 0 = (x : Int) ∧ (shortOf n l).take (k + 1) = (shortOf n l).take k ++ [((x : Int), ((clN n l x : Nat) : Int))] := by
  have hkN : k < (shortN n l).length := by rw [shortN, List.length_map]; exact hk
  have hkS : k < (shortOf n l).length := by rw [shortOf_plen]; exact hk
  have hm : (shortN n l)[k] ∈ shortN n l := List.getElem_mem hkN
  have h1 : (shortP n l).getD k 0 = (((shortN n l)[k] : Nat) : Int) := by
    rw [List.getD_eq_getElem?_getD, ← short_nat hn, List.getElem?_map, List.getElem?_eq_getElem hkN]; rfl
  have h2 : (shortOf n l)[k] = ruleOf (clN n l) (shortN n l)[k] := by simp [shortOf]
  refine ⟨(shortN n l)[k], (shortN_base hn).lt hm, h1, ?_⟩
  rw [List.take_add_one, List.getElem?_eq_getElem hkS, h2]; rfl
theorem shortP_len {n : Nat} {l : List PInt} (h : areR (n : Int) l = true) : (shortP n l).length ≤ 32 := by
  rw [← shortOf_plen]; exact shortOf_len h
end Go.Proofs.Ythodmmckekgkdaa.Infer

namespace Go.Proofs.Ythodmmckekgkdaa.Direct
open Go Go.RowKit Mem Sets Ctx Tab Rule Stem Lectic
set_option maxRecDepth 100000

theorem sub_and : ∀ x : Nat, x < 256 → ∀ y : Nat, y < 256 → x - (x &&& y) = x ^^^ (x &&& y) := by decide +kernel
theorem sub_and_bit {x y : Nat} (hx : x < 256) (hy : y < 256) (j : Nat) : (x - (x &&& y)).testBit j = (x.testBit j && !y.testBit j) := by
  rw [sub_and x hx y hy, Nat.testBit_xor, Nat.testBit_and]
  cases x.testBit j <;> cases y.testBit j <;> rfl
theorem sub_le_bit {x y : Nat} (hx : x < 256) (h : Le y x) (j : Nat) : (x - y).testBit j = (x.testBit j && !y.testBit j) := by
  have hy : y < 256 := Nat.lt_of_le_of_lt (le_num h) hx
  have := sub_and_bit hx hy j
  rwa [Nat.and_comm x y, and_le'.2 h] at this
theorem two_le {s e : Nat} (h : s.testBit e = true) : Le (2 ^ e) s := fun j hj => by
  rw [Nat.testBit_two_pow, decide_eq_true_eq] at hj
  rw [← hj]; exact h
/-- A set without one of its elements. -/
theorem drop_bit {s e : Nat} (hs : s < 256) (h : s.testBit e = true) (j : Nat) : (s - 2 ^ e).testBit j = (s.testBit j && !decide (e = j)) := by
  rw [sub_le_bit hs (two_le h), Nat.testBit_two_pow]
theorem drop_le {s e : Nat} (hs : s < 256) (h : s.testBit e = true) : Le (s - 2 ^ e) s := fun j hj => by
  rw [drop_bit hs h, Bool.and_eq_true] at hj; exact hj.1
theorem drop_lt {s e : Nat} (h : s.testBit e = true) : s - 2 ^ e < s := by
  have := le_num (two_le h)
  have := Nat.pow_pos (n := e) (show 0 < 2 by omega)
  omega
/-- What a set's closure adds that no set with one element less gives (elements below k). -/
def newTo (cl : Nat → Nat) (s : Nat) : Nat → Nat
  | 0 => cl s - s
  | k + 1 => if s.testBit k = true then newTo cl s k - (newTo cl s k &&& cl (s - 2 ^ k)) else newTo cl s k
theorem newTo_yes {cl : Nat → Nat} {s k : Nat} (h : s.testBit k = true) : newTo cl s (k + 1) = newTo cl s k - (newTo cl s k &&& cl (s - 2 ^ k)) := if_pos h
theorem newTo_no {cl : Nat → Nat} {s k : Nat} (h : s.testBit k = false) : newTo cl s (k + 1) = newTo cl s k := if_neg (by rw [h]; decide)
theorem clo_256 {cl : Nat → Nat} {n : Nat} (C : Clo n cl) (x : Nat) : cl x < 256 := Nat.lt_of_lt_of_le (C.lt x) (pow_le8 C.n8)
theorem newTo_256 {cl : Nat → Nat} {n : Nat} (C : Clo n cl) (s : Nat) : ∀ k, newTo cl s k < 256
  | 0 => by have := clo_256 C s; unfold newTo; omega
  | k + 1 => by
    have := newTo_256 C s k
    unfold newTo
    split
    · omega
    · exact this
theorem newTo_bit {cl : Nat → Nat} {n s : Nat} (C : Clo n cl) (hs : s < 2 ^ n) (j : Nat) : ∀ k, (newTo cl s k).testBit j = true ↔ (cl s).testBit j = true ∧ s.testBit j = false ∧ ∀ e, e < k → s.testBit e = true → (cl (s - 2 ^ e)).testBit j = false
  | 0 => by
    show (cl s - s).testBit j = true ↔ _
    rw [sub_le_bit (clo_256 C s) (C.ext s hs)]
    simp
  | k + 1 => by
    have ih := newTo_bit C hs j k
    have hstep : (∀ e, e < k + 1 → s.testBit e = true → (cl (s - 2 ^ e)).testBit j = false) ↔ (∀ e, e < k → s.testBit e = true → (cl (s - 2 ^ e)).testBit j = false) ∧ (s.testBit k = true → (cl (s - 2 ^ k)).testBit j = false) :=
      ⟨fun h => ⟨fun e he => h e (by omega), h k (by omega)⟩, fun h e he => by
        by_cases hk : e = k
        · subst hk; exact h.2
        · exact h.1 e (by omega)⟩
    rw [hstep]
    cases hb : s.testBit k with
    | true =>
      rw [newTo_yes hb, sub_and_bit (newTo_256 C s k) (clo_256 C _), Bool.and_eq_true, ih]
      simp [and_assoc]
    | false =>
      rw [newTo_no hb, ih]
      simp
theorem newTo_le {cl : Nat → Nat} {n s : Nat} (C : Clo n cl) (hs : s < 2 ^ n) (k : Nat) : Le (newTo cl s k) (cl s) := fun j hj => ((newTo_bit C hs j k).1 hj).1
theorem newTo_lt {cl : Nat → Nat} {n s : Nat} (C : Clo n cl) (hs : s < 2 ^ n) (k : Nat) : newTo cl s k < 2 ^ n := le_pow (newTo_le C hs k) (C.lt s)
/-- Each element of a closure comes from a set below that gives it, and no smaller one. -/
theorem has_new {cl : Nat → Nat} {n : Nat} (C : Clo n cl) (j : Nat) : ∀ t, t < 2 ^ n → (cl t).testBit j = true → t.testBit j = false → ∃ s, s < 2 ^ n ∧ Le s t ∧ (newTo cl s n).testBit j = true := by
  intro t
  induction t using Nat.strongRecOn with
  | ind t ih =>
    intro ht h1 h2
    by_cases h : ∀ e, e < n → t.testBit e = true → (cl (t - 2 ^ e)).testBit j = false
    · exact ⟨t, ht, Le.refl t, (newTo_bit C ht j n).2 ⟨h1, h2, h⟩⟩
    · have h256 : t < 256 := Nat.lt_of_lt_of_le ht (pow_le8 C.n8)
      obtain ⟨e, he, hte, hc⟩ : ∃ e, e < n ∧ t.testBit e = true ∧ (cl (t - 2 ^ e)).testBit j = true := by
        refine Classical.byContradiction fun hn => h fun e he hte => ?_
        cases hc : (cl (t - 2 ^ e)).testBit j with
        | false => rfl
        | true => exact absurd ⟨e, he, hte, hc⟩ hn
      obtain ⟨s, h3, h4, h5⟩ := ih _ (drop_lt hte) (Nat.lt_trans (drop_lt hte) ht) hc (by rw [drop_bit h256 hte, h2]; rfl)
      exact ⟨s, h3, h4.trans (drop_le h256 hte), h5⟩
/-- One step: the conclusions of the first k rules that fire, all at the same time. -/
def oneTo (l : List PInt) (s : Nat) : Nat → Nat
  | 0 => s
  | k + 1 => if (rl l k).1.toNat &&& s = (rl l k).1.toNat then oneTo l s k ||| (rl l k).2.toNat else oneTo l s k
def oneN (l : List PInt) (s : Nat) : Nat := oneTo l s l.length
theorem oneTo_yes {l : List PInt} {s k : Nat} (h : (rl l k).1.toNat &&& s = (rl l k).1.toNat) : oneTo l s (k + 1) = oneTo l s k ||| (rl l k).2.toNat := if_pos h
theorem oneTo_no {l : List PInt} {s k : Nat} (h : (rl l k).1.toNat &&& s ≠ (rl l k).1.toNat) : oneTo l s (k + 1) = oneTo l s k := if_neg h
theorem oneTo_bit (l : List PInt) (s j : Nat) : ∀ k, (oneTo l s k).testBit j = true ↔ s.testBit j = true ∨ ∃ i, i < k ∧ Le (rl l i).1.toNat s ∧ (rl l i).2.toNat.testBit j = true
  | 0 => by
    show s.testBit j = true ↔ _
    exact ⟨.inl, fun h => h.elim id fun ⟨i, hi, _⟩ => absurd hi (Nat.not_lt_zero i)⟩
  | k + 1 => by
    have ih := oneTo_bit l s j k
    have hstep : (∃ i, i < k + 1 ∧ Le (rl l i).1.toNat s ∧ (rl l i).2.toNat.testBit j = true) ↔ (∃ i, i < k ∧ Le (rl l i).1.toNat s ∧ (rl l i).2.toNat.testBit j = true) ∨ (Le (rl l k).1.toNat s ∧ (rl l k).2.toNat.testBit j = true) := by
      constructor
      · rintro ⟨i, hi, h⟩
        by_cases hk : i = k
        · subst hk; exact .inr h
        · exact .inl ⟨i, by omega, h⟩
      · rintro (⟨i, hi, h⟩ | h)
        · exact ⟨i, by omega, h⟩
        · exact ⟨k, by omega, h⟩
    rw [hstep]
    by_cases hb : (rl l k).1.toNat &&& s = (rl l k).1.toNat
    · have hle := and_le'.1 hb
      rw [oneTo_yes hb, Nat.testBit_or, Bool.or_eq_true, ih, or_assoc]
      simp only [hle, true_and]
    · have hle : ¬ Le (rl l k).1.toNat s := fun h => hb (and_le'.2 h)
      rw [oneTo_no hb, ih]
      simp only [hle, false_and, or_false]
theorem oneN_bit (l : List PInt) (s j : Nat) : (oneN l s).testBit j = true ↔ s.testBit j = true ∨ ∃ r, r ∈ l ∧ Le r.1.toNat s ∧ r.2.toNat.testBit j = true := by
  unfold oneN
  rw [oneTo_bit]
  constructor
  · rintro (h | ⟨i, hi, h⟩)
    · exact .inl h
    · exact .inr ⟨rl l i, rl_mem hi, h⟩
  · rintro (h | ⟨r, hr, h⟩)
    · exact .inl h
    · obtain ⟨k, hk, rfl⟩ := mem_rl hr
      exact .inr ⟨k, hk, h⟩
theorem oneTo_lt {l : List PInt} {s n : Nat} (hs : s < 2 ^ n) (hl : ∀ k, k < l.length → (rl l k).2.toNat < 2 ^ n) : ∀ k, k ≤ l.length → oneTo l s k < 2 ^ n
  | 0, _ => hs
  | k + 1, hk => by
    have ih := oneTo_lt hs hl k (by omega)
    by_cases hb : (rl l k).1.toNat &&& s = (rl l k).1.toNat
    · rw [oneTo_yes hb]; exact Nat.or_lt_two_pow ih (hl k (by omega))
    · rw [oneTo_no hb]; exact ih
theorem oneN_lt {l : List PInt} {s n : Nat} (hs : s < 2 ^ n) (hl : ∀ k, k < l.length → (rl l k).2.toNat < 2 ^ n) : oneN l s < 2 ^ n := oneTo_lt hs hl _ (Nat.le_refl _)
def oneStep (l : List PInt) (s : Int) : Int := if allIn 8 l = true ∧ isSet 8 s = true then ((oneN l s.toNat : Nat) : Int) else s
/-- Do one step and the closure agree on the sets below k? -/
def isDirect (n : Int) (l : List PInt) : Bool := areR n l && (List.range (2 ^ n.toNat)).all fun s => decide (oneN l s = Rule.cl l s)
/-- The proper premises below k, ascending. -/
def propTo (cl : Nat → Nat) (n : Nat) : Nat → List Nat
  | 0 => []
  | k + 1 => if newTo cl k n ≠ 0 then propTo cl n k ++ [k] else propTo cl n k
theorem propTo_yes {cl : Nat → Nat} {n k : Nat} (h : newTo cl k n ≠ 0) : propTo cl n (k + 1) = propTo cl n k ++ [k] := if_pos h
theorem propTo_no {cl : Nat → Nat} {n k : Nat} (h : newTo cl k n = 0) : propTo cl n (k + 1) = propTo cl n k := if_neg fun hn => hn h
theorem mem_propTo {cl : Nat → Nat} {n x : Nat} : ∀ {k : Nat}, x ∈ propTo cl n k ↔ x < k ∧ newTo cl x n ≠ 0
  | 0 => by simp [propTo]
  | k + 1 => by
    have ih := @mem_propTo cl n x k
    by_cases h : newTo cl k n = 0
    · rw [propTo_no h, ih]
      refine ⟨fun h1 => ⟨by omega, h1.2⟩, fun h1 => ⟨?_, h1.2⟩⟩
      by_cases hk : x = k
      · subst hk; exact absurd h h1.2
      · omega
    · rw [propTo_yes h, List.mem_append, ih, List.mem_singleton]
      constructor
      · rintro (h1 | rfl)
        · exact ⟨by omega, h1.2⟩
        · exact ⟨by omega, h⟩
      · intro h1
        by_cases hk : x = k
        · exact .inr hk
        · exact .inl ⟨by omega, h1.2⟩
theorem propTo_le (cl : Nat → Nat) (n : Nat) : ∀ k, (propTo cl n k).length ≤ k
  | 0 => Nat.le_refl _
  | k + 1 => by
    have := propTo_le cl n k
    unfold propTo
    split
    · simp; omega
    · omega
/-- A list that holds the proper premises. -/
structure Dir (cl : Nat → Nat) (n : Nat) (ps : List Nat) : Prop where
  mem : ∀ x, x ∈ ps ↔ x < 2 ^ n ∧ newTo cl x n ≠ 0
def dirRule (cl : Nat → Nat) (n s : Nat) : PInt := ((s : Int), ((newTo cl s n : Nat) : Int))
/-- The direct base gives every closure in one step. -/
theorem dir_one {cl : Nat → Nat} {n t : Nat} {ps : List Nat} (C : Clo n cl) (h : Dir cl n ps) (ht : t < 2 ^ n) : oneN (ps.map (dirRule cl n)) t = cl t := by
  refine nat_bits fun j => ?_
  rw [oneN_bit]
  constructor
  · rintro (hj | ⟨r, hr, h1, h2⟩)
    · exact C.ext t ht j hj
    · obtain ⟨s, hs, rfl⟩ := List.mem_map.1 hr
      have h1' : Le s t := h1
      have h2' : (newTo cl s n).testBit j = true := h2
      exact C.mono s t h1' j (newTo_le C ((h.mem s).1 hs).1 n j h2')
  · intro hj
    cases hb : t.testBit j with
    | true => exact .inl rfl
    | false =>
      obtain ⟨s, h1, h2, h3⟩ := has_new C j t ht hj hb
      have hne : newTo cl s n ≠ 0 := fun h0 => by rw [h0] at h3; simp at h3
      exact .inr ⟨dirRule cl n s, List.mem_map_of_mem ((h.mem s).2 ⟨h1, hne⟩), h2, h3⟩
/-- A direct base has at least as many rules as any list that stands for the pseudo-closed sets. -/
theorem dir_short {cl : Nat → Nat} {n : Nat} {ps qs : List Nat} (C : Clo n cl) (h : Dir cl n ps) (hq : Base cl n qs) : qs.length ≤ ps.length := by
  have := base_short (l := ps.map (dirRule cl n)) C hq (fun k hk => ?_) (fun p hp => ?_)
  · simpa using this
  · obtain ⟨s, hs, he⟩ := List.mem_map.1 (rl_mem hk)
    rw [← he]
    exact newTo_le C ((h.mem s).1 hs).1 n
  · cases hb : allR (ps.map (dirRule cl n)) p with
    | false => rfl
    | true =>
      exfalso
      have hlt := hq.lt hp
      refine ((ps_iff hlt).1 ((hq.mem p).1 hp)).1 ((dir_one C h hlt).symm.trans (nat_bits fun j => ?_))
      rw [oneN_bit]
      exact ⟨fun h1 => h1.elim id fun ⟨r, hr, h2, h3⟩ => allR_iff.1 hb r hr h2 j h3, .inl⟩
/-- The proper premises of a context. -/
def propN (a : Int) (rs : List Int) : List Nat := propTo (clo a rs) a.toNat (2 ^ a.toNat)
def prop (a : Int) (rs : List Int) : List Int := sortLectic (asInts (propN a rs))
def premN (a : Int) (rs : List Int) : List Nat := (prop a rs).map Int.toNat
theorem propN_lt {a : Int} {rs : List Int} {x : Nat} (h : x ∈ propN a rs) : x < 2 ^ a.toNat := (mem_propTo.1 h).1
theorem propN_256 {a : Int} {rs : List Int} (hc : isCtx a rs = true) {x : Nat} (h : x ∈ propN a rs) : x < 256 := Nat.lt_of_lt_of_le (propN_lt h) (pow_le8 (by have := isCtx_parts hc; omega))
theorem prop_eq {a : Int} {rs : List Int} (hc : isCtx a rs = true) : prop a rs = sortTo (asInts (propN a rs)) (asInts (propN a rs)).length := by
  rw [prop, sortLectic, if_pos (asInts_sets fun x hx => propN_256 hc hx)]
theorem prop_mem {a : Int} {rs : List Int} (hc : isCtx a rs = true) {z : Int} : z ∈ prop a rs ↔ ∃ x : Nat, x ∈ propN a rs ∧ z = (x : Int) := by
  rw [prop_eq hc, sortTo_mem _ _ (Nat.le_refl _), List.take_length, List.mem_map]
  exact ⟨fun ⟨x, h1, h2⟩ => ⟨x, h1, h2.symm⟩, fun ⟨x, h1, h2⟩ => ⟨x, h1, h2.symm⟩⟩
theorem prop_asc {a : Int} {rs : List Int} (hc : isCtx a rs = true) : Asc key (prop a rs) := by
  rw [prop_eq hc]
  refine asc_sortTo _ (fun x hx => ?_) _ (Nat.le_refl _)
  obtain ⟨y, hy, rfl⟩ := List.mem_map.1 hx
  have := propN_256 hc hy
  omega
theorem prem_nat {a : Int} {rs : List Int} (hc : isCtx a rs = true) : asInts (premN a rs) = prop a rs := by
  unfold premN asInts
  rw [List.map_map]
  conv => rhs; rw [← List.map_id (prop a rs)]
  apply List.map_congr_left
  intro z hz
  obtain ⟨x, -, rfl⟩ := (prop_mem hc).1 hz
  simp
theorem prem_mem {a : Int} {rs : List Int} (hc : isCtx a rs = true) {x : Nat} : x ∈ premN a rs ↔ x ∈ propN a rs := by
  unfold premN
  rw [List.mem_map]
  constructor
  · rintro ⟨z, hz, rfl⟩
    obtain ⟨y, hy, rfl⟩ := (prop_mem hc).1 hz
    rw [Int.toNat_natCast]; exact hy
  · intro hx
    exact ⟨(x : Int), (prop_mem hc).2 ⟨x, hx, rfl⟩, by simp⟩
theorem prem_dir {a : Int} {rs : List Int} (hc : isCtx a rs = true) : Dir (clo a rs) a.toNat (premN a rs) := ⟨fun x => by rw [prem_mem hc, propN, mem_propTo]⟩
theorem propN_len {a : Int} {rs : List Int} (hc : isCtx a rs = true) : (propN a rs).length ≤ 64 :=
  Nat.le_trans (propTo_le _ _ _) (show 2 ^ a.toNat ≤ 2 ^ 6 from Nat.pow_le_pow_right (by omega) (by have := isCtx_parts hc; omega))
theorem prop_len {a : Int} {rs : List Int} (hc : isCtx a rs = true) : (prop a rs).length ≤ 64 := by
  rw [prop_eq hc]
  have h1 := sortTo_le (asInts (propN a rs)) (asInts (propN a rs)).length
  have h2 := propN_len hc
  have h3 : (asInts (propN a rs)).length = (propN a rs).length := by simp [asInts]
  omega
def properPremises (a : Int) (rs : List Int) : List Int := if isCtx a rs = true then prop a rs else []
def dirOf (a : Int) (rs : List Int) : List PInt := (premN a rs).map (dirRule (clo a rs) a.toNat)
def directBase (a : Int) (rs : List Int) : List PInt := if isCtx a rs = true then dirOf a rs else []
theorem dirOf_len (a : Int) (rs : List Int) : (dirOf a rs).length = (prop a rs).length := by simp [dirOf, premN]
theorem base_prem_len (a : Int) (rs : List Int) : (directBase a rs).length = (properPremises a rs).length := by
  unfold directBase properPremises
  split
  · exact dirOf_len a rs
  · rfl
theorem prem_len (a : Int) (rs : List Int) : (properPremises a rs).length ≤ 64 := by
  unfold properPremises
  split
  · rename_i h; exact prop_len h
  · simp
theorem dir_stem {a : Int} {rs : List Int} (hc : isCtx a rs = true) : (stemOf a rs).length ≤ (dirOf a rs).length := by
  have := dir_short (clo_ok hc) (prem_dir hc) (pseudo_base hc)
  simpa [stemOf, dirOf] using this
theorem dir_in {a : Int} {rs : List Int} (hc : isCtx a rs = true) : allIn a (dirOf a rs) = true := List.all_eq_true.2 fun r hr => by
  obtain ⟨p, hp, rfl⟩ := List.mem_map.1 hr
  have h6 := isCtx_parts hc
  have hlt := propN_lt ((prem_mem hc).1 hp)
  have h1 : isSet a ((p : Nat) : Int) = true := isSet_of_nat h6.1 (by omega) hlt
  have h2 : isSet a ((newTo (clo a rs) p a.toNat : Nat) : Int) = true := isSet_of_nat h6.1 (by omega) (newTo_lt (clo_ok hc) hlt _)
  show (isSet a (p : Int) && isSet a ((newTo (clo a rs) p a.toNat : Nat) : Int)) = true
  rw [h1, h2]; rfl
theorem dir_clo {a : Int} {rs : List Int} (hc : isCtx a rs = true) {t : Nat} (ht : t < 2 ^ a.toNat) : oneN (dirOf a rs) t = clo a rs t := dir_one (clo_ok hc) (prem_dir hc) ht
end Go.Proofs.Ythodmmckekgkdaa.Direct

namespace Go.Proofs.Ythodmmckekgkdaa.Direct
open Go Go.RowKit Mem Sets Ctx Tab Rule Stem Lectic
set_option maxRecDepth 100000

theorem isDirect_yes {n : Int} {l : List PInt} (h1 : areR n l = true) (h2 : ∀ x, x < 2 ^ n.toNat → oneN l x = Rule.cl l x) : isDirect n l = true := by
  rw [isDirect, h1, Bool.true_and, List.all_eq_true]
  intro x hx
  exact decide_eq_true (h2 x (List.mem_range.1 hx))
theorem isDirect_no {n : Int} {l : List PInt} {x : Nat} (hx : x < 2 ^ n.toNat) (h : oneN l x ≠ Rule.cl l x) : isDirect n l = false := by
  have : ((List.range (2 ^ n.toNat)).all fun s => decide (oneN l s = Rule.cl l s)) = false := by
    rw [List.all_eq_false]
    exact ⟨x, List.mem_range.2 hx, by rw [decide_eq_false h]; decide⟩
  rw [isDirect, this, Bool.and_false]
set_option maxHeartbeats 3200000 in
theorem l12Step (v : Value) (l : List PInt) (s : Nat) (B : Nat) (w : World) (hr : ReadsP w B v l) (hB : B ≤ w.heap.size) (hl : allIn 8 l = true) (hs : s < 256) :
    Calls Try.prog 89 #[v, .int .i64 s] w fun e w' => e = .returned (.int .i64 (oneN l s : Nat)) ∧ Below w.heap.size w w' := by
  obtain ⟨a, c, rfl⟩ := hr.form
  have hlen := hr.1
  unfold maxLen at hlen
  have HR := Lib.hid hr
  obtain ⟨m, hm⟩ : ∃ m, l.length = m := ⟨_, rfl⟩
  have HM := Lib.hid hm
  have HIN := Lib.hid hl
  have HLT : Hid (∀ k, k ≤ l.length → oneTo l s k < 256) := Lib.hid fun k hk => oneTo_lt (n := 8) hs (fun k hk => allIn_lt hl hk) k hk
  rw [hm] at HR hlen ⊢
  clear hr hm hl
  go_enter Try.func89, Try.ntmps89
  go_wp2_with fail
  go_loopw [5, 6] (fun t i wr => ∃ k : Nat, k ≤ m ∧ i = .int .i64 k ∧ t = .int .i64 ((oneTo l s k : Nat) : Int) ∧ ∃ p : Past w, wr = p.w) (fun _ i _ => m - (intOf i).toNat)
  case atStart => exact ⟨0, Nat.zero_le _, rfl, rfl, Past.start w, rfl⟩
  case round =>
    obtain ⟨k, hk, rfl, rfl, p2, rfl⟩ := hrel
    by_cases hlt : k < m
    · have hkl : k < l.length := by rw [HM.out]; exact hlt
      obtain ⟨bk, o, rfl, hb, h0, h1⟩ := readsP_at HR.out hkl
      have c0 := fun q : Past w => Past.cell h0 (by show bk < _; omega) q
      have c1 := fun q : Past w => Past.cell h1 (by show bk < _; omega) q
      have hq := allIn_rl HIN.out hkl
      have hq1 := set8 hq.1
      have hq2 := set8 hq.2
      have HYS := Lib.hid fun h => oneTo_yes (l := l) (s := s) (k := k) h
      have HNO := Lib.hid fun h => oneTo_no (l := l) (s := s) (k := k) h
      have hy := HLT.out k (by omega)
      clear h0 h1 hq
      generalize oneTo l s k = y at HYS HNO hy
      generalize rl l k = r at c0 c1 HYS HNO hq1 hq2
      obtain ⟨r0, r1⟩ := r
      simp only at HYS HNO hq1 hq2 c0 c1
      have HB := Lib.hid (andL r0 s hq1 (by omega))
      simp only [Int.toNat_natCast] at HB
      obtain ⟨d, hd⟩ : ∃ d, (bits .and .i64 r0 (s : Int) == r0) = d := ⟨_, rfl⟩
      rw [hd] at HB
      have kp0 := c0 p2
      have kp1 := c1 p2
      cases d with
      | false =>
        have HE := Lib.hid (HNO.out (of_decide_eq_false HB.out.symm))
        go_wp2_with fail
        refine wp_region_pastIn p2 (by kernel_rfl) (by kernel_rfl) ?_
        repeat (go_big_quiet_step (fail))
        refine wpQuiet_nil ?_
        rintro _ ⟨p3, rfl⟩
        go_wp2_with fail
        go_roundw
        case rel => exact ⟨k + 1, by omega, by simp, by rw [HE.out], p3, rfl⟩
        case measure => simp [intOf]; omega
      | true =>
        have HE := Lib.hid (HYS.out (of_decide_eq_true HB.out.symm))
        have hor : bits .or .i64 (y : Int) r1 = ((y ||| r1.toNat : Nat) : Int) := by
          obtain ⟨z, rfl⟩ := Int.eq_ofNat_of_zero_le hq2.1
          rw [or_nat' y z hy (by omega), Int.toNat_natCast]
        go_wp2_with fail
        refine wp_region_pastIn p2 (by kernel_rfl) (by kernel_rfl) ?_
        repeat (go_big_quiet_step (fail))
        refine wpQuiet_nil ?_
        rintro _ ⟨p3, rfl⟩
        have kr1 := c1 p3
        go_wp2_with fail
        go_roundw
        case rel => exact ⟨k + 1, by omega, by simp, by rw [HE.out], p3, rfl⟩
        case measure => simp [intOf]; omega
    · have HK : Hid (oneTo l s k = oneN l s) := Lib.hid (by rw [show k = l.length by have := HM.out; omega]; rfl)
      have hbb := p2.h
      go_wp2_with fail
      go_ret
      exact ⟨by rw [HK.out]; rfl, hbb⟩
set_option maxHeartbeats 1600000 in
theorem spec_oneStep (v : Value) (l : List PInt) (s : Int) (B : Nat) (w : World) (hr : ReadsP w B v l) (hB : B ≤ w.heap.size) :
    Calls Try.prog 38 #[v, .int .i64 s] w fun e w' => e = .returned (.int .i64 (oneStep l s)) ∧ Below w.heap.size w w' := by
  have HL := Lib.hid ((Past.start w).of (l9Sets v l B w hr hB))
  have HR := Lib.hid hr
  cases hi : allIn 8 l with
  | false =>
    have HX : Hid (oneStep l s = s) := Lib.hid (by rw [oneStep, if_neg (by simp [hi])])
    rw [hi] at HL
    clear hi hr
    go_enter Try.func38, Try.ntmps38
    go_wp2_with fail
    refine HL.out.mono ?_
    rintro e _ ⟨rfl, p, rfl⟩
    have hbb := p.h
    go_wp2_with fail
    go_ret
    exact ⟨by rw [HX.out]; rfl, hbb⟩
  | true =>
    rw [hi] at HL
    have HS := Lib.hid fun w => spec_isSet 8 s w
    cases hs : isSet 8 s with
    | false =>
      have HX : Hid (oneStep l s = s) := Lib.hid (by rw [oneStep, if_neg (by simp [hs])])
      rw [hs] at HS
      clear hi hr hs
      go_enter Try.func38, Try.ntmps38
      go_wp2_with fail
      refine HL.out.mono ?_
      rintro e _ ⟨rfl, p, rfl⟩
      go_wp2_with fail
      refine (HS.out _).mono ?_
      rintro e w' ⟨rfl, hw⟩
      subst w'
      have hbb := p.h
      go_wp2_with fail
      go_ret
      exact ⟨by rw [HX.out]; rfl, hbb⟩
    | true =>
      obtain ⟨n, rfl⟩ := Int.eq_ofNat_of_zero_le (set8 hs).1
      have hn : n < 256 := by have := set8 hs; omega
      have HX : Hid (oneStep l n = ((oneN l n : Nat) : Int)) := Lib.hid (by rw [oneStep, if_pos ⟨hi, hs⟩, Int.toNat_natCast])
      have HC := Lib.hid fun p : Past w => p.of (l12Step v l n B p.w (HR.out.below p.h hB) (Nat.le_trans hB p.size) hi hn)
      rw [hs] at HS
      clear hi hr hs
      go_enter Try.func38, Try.ntmps38
      go_wp2_with fail
      refine HL.out.mono ?_
      rintro e _ ⟨rfl, p, rfl⟩
      go_wp2_with fail
      refine (HS.out _).mono ?_
      rintro e w' ⟨rfl, hw⟩
      subst w'
      go_wp2_with fail
      refine (HC.out p).mono ?_
      rintro e _ ⟨rfl, p2, rfl⟩
      have hbb := p2.h
      go_wp2_with fail
      go_ret
      exact ⟨by rw [HX.out]; rfl, hbb⟩
set_option maxHeartbeats 3200000 in
theorem spec_isDirect (n : Int) (v : Value) (l : List PInt) (B : Nat) (w : World) (hr : ReadsP w B v l) (hB : B ≤ w.heap.size) :
    Calls Try.prog 40 #[.int .i64 n, v] w fun e w' => e = .returned (.bool (isDirect n l)) ∧ Below w.heap.size w w' := by
  have HA := Lib.hid ((Past.start w).of (spec_areRules n v l B w hr hB))
  cases ha : areR n l with
  | false =>
    have HX : Hid (isDirect n l = false) := Lib.hid (by rw [isDirect, ha]; rfl)
    rw [ha] at HA
    clear ha hr
    go_enter Try.func40, Try.ntmps40
    go_wp2_with fail
    refine HA.out.mono ?_
    rintro e _ ⟨rfl, p, rfl⟩
    have hbb := p.h
    go_wp2_with fail
    go_ret
    exact ⟨by rw [HX.out]; rfl, hbb⟩
  | true =>
    have hnn := Infer.areR_nn ha
    have hN8 : 2 ^ n.toNat ≤ 256 := pow_le8 (by omega)
    have hN1 : 1 ≤ 2 ^ n.toNat := Nat.pow_pos (by omega)
    have HF := Lib.hid fun w => spec_full n w
    rw [full_nat hnn.1 (by omega)] at HF
    have h8 := allIn_to8 (areR_all ha)
    have H1 := Lib.hid fun (q : Past w) (x : Nat) (hx : x < 256) => q.of (l12Step v l x B q.w (hr.below q.h hB) (Nat.le_trans hB q.size) h8 hx)
    have H2 := Lib.hid fun (q : Past w) (x : Nat) (hx : x < 256) => q.of (Rule.l9Closed v l x B q.w (hr.below q.h hB) (Nat.le_trans hB q.size) h8 hx)
    have HY := Lib.hid fun h => isDirect_yes ha h
    have HN := Lib.hid fun x hx h => isDirect_no (n := n) (l := l) (x := x) hx h
    rw [ha] at HA
    generalize 2 ^ n.toNat = N at hN8 hN1 HF HY HN
    clear ha hr h8 hnn
    go_enter Try.func40, Try.ntmps40
    go_wp2_with fail
    refine HA.out.mono ?_
    rintro e _ ⟨rfl, p0, rfl⟩
    go_wp2_with fail
    go_loopw [5] (fun i wr => ∃ k : Nat, k ≤ N ∧ i = .int .i64 k ∧ Hid (∀ x, x < k → oneN l x = Rule.cl l x) ∧ ∃ p : Past w, wr = p.w) (fun i _ => N - (intOf i).toNat)
    case atStart => exact ⟨0, Nat.zero_le _, rfl, Lib.hid (fun x hx => absurd hx (Nat.not_lt_zero x)), p0, rfl⟩
    case round =>
      obtain ⟨k, hk, rfl, hall, p, rfl⟩ := hrel
      by_cases hlt : k < N
      · have dk : decide ((k : Int) ≤ ((N - 1 : Nat) : Int)) = true := by simp; omega
        have hk256 : k < 256 := by omega
        have HC1 := Lib.hid fun q : Past w => H1.out q k hk256
        have HC2 := Lib.hid fun q : Past w => H2.out q k hk256
        have HS : Hid (oneN l k = Rule.cl l k → ∀ x, x < k + 1 → oneN l x = Rule.cl l x) := Lib.hid fun h x hx => by
          by_cases he : x = k
          · rw [he]; exact h
          · exact hall.out x (by omega)
        have HNK := Lib.hid fun h => HN.out k hlt h
        generalize oneN l k = y at HC1 HNK HS
        generalize Rule.cl l k = z at HC2 HNK HS
        by_cases he : y = z
        · have hd : (((y : Nat) : Int) != ((z : Nat) : Int)) = false := by rw [he]; simp
          have HA := Lib.hid (HS.out he)
          clear he
          go_wp2_with fail
          refine (HF.out _).mono ?_
          rintro e w' ⟨rfl, hw⟩
          subst w'
          go_wp2_with fail
          refine (HC1.out p).mono ?_
          rintro e _ ⟨rfl, p1, rfl⟩
          go_wp2_with fail
          refine (HC2.out p1).mono ?_
          rintro e _ ⟨rfl, p2, rfl⟩
          go_wp2_with fail
          go_roundw
          case rel => exact ⟨k + 1, by omega, by simp, HA, p2, rfl⟩
          case measure => simp [intOf]; omega
        · have hd : (((y : Nat) : Int) != ((z : Nat) : Int)) = true := by simp; omega
          have HX := Lib.hid (HNK.out he)
          clear he
          go_wp2_with fail
          refine (HF.out _).mono ?_
          rintro e w' ⟨rfl, hw⟩
          subst w'
          go_wp2_with fail
          refine (HC1.out p).mono ?_
          rintro e _ ⟨rfl, p1, rfl⟩
          go_wp2_with fail
          refine (HC2.out p1).mono ?_
          rintro e _ ⟨rfl, p2, rfl⟩
          have hbb := p2.h
          go_wp2_with fail
          go_ret
          exact ⟨by rw [HX.out]; rfl, hbb⟩
      · have dk : decide ((k : Int) ≤ ((N - 1 : Nat) : Int)) = false := by simp; omega
        have HX : Hid (isDirect n l = true) := Lib.hid (HY.out fun x hx => hall.out x (by omega))
        have hbb := p.h
        go_wp2_with fail
        refine (HF.out _).mono ?_
        rintro e w' ⟨rfl, hw⟩
        subst w'
        go_wp2_with fail
        go_ret
        exact ⟨by rw [HX.out]; rfl, hbb⟩
theorem shl_sub : ∀ s : Nat, s < 256 → ∀ e : Nat, e < 8 → s.testBit e = true → 2 ^ e ≤ s := by decide +kernel
theorem sh64' (n : Nat) (h : n ≤ 8) : wrap64 (2 ^ n) = ((2 ^ n : Nat) : Int) := by
  have key : ∀ n : Nat, n < 9 → wrap64 (2 ^ n) = ((2 ^ n : Nat) : Int) := by decide +kernel
  exact key n (by omega)
theorem new_yes {cl : Nat → Nat} {s k x : Nat} (h : s.testBit k = true) (hx : cl (s - 2 ^ k) = x) : newTo cl s (k + 1) = newTo cl s k - (newTo cl s k &&& x) := by rw [newTo_yes h, hx]
set_option maxHeartbeats 6400000 in
theorem l12New (a : Int) (v : Value) (rs : List Int) (s : Nat) (B : Nat) (w : World) (hr : Reads w B v (ints rs)) (hB : B ≤ w.heap.size) (hc : isCtx a rs = true) (hs : s < 2 ^ a.toNat) :
    Calls Try.prog 83 #[ctx a v, .int .i64 s] w fun e w' => e = .returned (.int .i64 (newTo (clo a rs) s a.toNat : Nat)) ∧ Below w.heap.size w w' := by
  obtain ⟨aa, ca, rfl⟩ := reads_form hr
  have hW := (Below.refl w.heap.size w).alloc (Nat.le_refl _) (.cells #[.int .i64 a, .slice aa rs.length ca] 26)
  have HR1 := Lib.hid (hr.below hW hB)
  have q0 : (w.alloc (.cells #[.int .i64 a, .slice aa rs.length ca] 26)).cell? ⟨w.heap.size, 0, none⟩ = some (.int .i64 a) := by simp
  have q1 : (w.alloc (.cells #[.int .i64 a, .slice aa rs.length ca] 26)).cell? ⟨w.heap.size, 1, none⟩ = some (.slice aa rs.length ca) := by simp
  have hz : w.heap.size < (w.alloc (.cells #[.int .i64 a, .slice aa rs.length ca] 26)).heap.size := by simp
  have hp := isCtx_parts hc
  have C := clo_ok hc
  have hs256 : s < 256 := Nat.lt_of_lt_of_le hs (pow_le8 C.n8)
  have HCT := Lib.hid hc
  have HCLT : Hid (∀ x, clo a rs x < 256) := Lib.hid fun x => clo_256 C x
  have HNLT : Hid (∀ k, newTo (clo a rs) s k < 256) := Lib.hid fun k => newTo_256 C s k
  have h0le : s ≤ clo a rs s := le_num (C.ext s hs)
  have hs0 : IntKind.i64.wrap (((clo a rs s : Nat) : Int) - (s : Int)) = ((newTo (clo a rs) s 0 : Nat) : Int) := by
    have := HCLT.out s
    rw [IntKind.wrap_i64]
    show _ = ((clo a rs s - s : Nat) : Int)
    omega
  obtain ⟨n, rfl⟩ := Int.eq_ofNat_of_zero_le hp.1
  have hn6 : n ≤ 6 := by omega
  clear hr hc C hp hs h0le
  go_enter Try.func83, Try.ntmps83
  go_upto_region 1 with fail
  generalize w.alloc (.cells #[.int .i64 (n : Int), .slice aa rs.length ca] 26) = W at HR1 hW q0 q1 hz ⊢
  have hBW : B ≤ W.heap.size := by omega
  have k0 := fun p : Past W => Past.cell q0 (by show w.heap.size < _; omega) p
  have k1 := fun p : Past W => Past.cell q1 (by show w.heap.size < _; omega) p
  have HBW := Lib.hid hW
  have HC := Lib.hid fun (p : Past W) (x : Nat) (hx : x < 256) => p.of (l4Closure n (.slice aa rs.length ca) rs (x : Int) B p.w (Past.reads HR1.out hBW p) (Nat.le_trans hBW p.size) HCT.out (by omega))
  change Hid (∀ (p : Past W) (x : Nat) (hx : x < 256), Calls _ _ _ _ fun e w' => e = .returned (.int .i64 ((clo n rs x : Nat) : Int)) ∧ ∃ q : Past W, w' = q.w) at HC
  have HCS := Lib.hid fun p : Past W => HC.out p s hs256
  clear hW q0 q1
  have kw0 : W.cell? ⟨w.heap.size, 0, none⟩ = some (.int .i64 (n : Int)) := k0 (Past.start W)
  have kw1 : W.cell? ⟨w.heap.size, 1, none⟩ = some (.slice aa rs.length ca) := k1 (Past.start W)
  go_wp2_with fail
  refine (HCS.out (Past.start W)).mono ?_
  rintro e _ ⟨rfl, p1, rfl⟩
  clear HCS
  generalize clo (n : Int) rs s = c0 at hs0
  go_wp2_with fail
  go_loopw [5, 6] (fun ov ev wr => ∃ (e : Nat) (p : Past W), e ≤ n ∧ ev = .int .i64 e ∧ ov = .int .i64 ((newTo (clo n rs) s e : Nat) : Int) ∧ wr = p.w) (fun _ ev _ => n - (intOf ev).toNat)
  case atStart => exact ⟨0, p1, Nat.zero_le _, rfl, rfl, rfl⟩
  case round =>
    obtain ⟨e, p, he, rfl, rfl, rfl⟩ := hrel
    have kp0 := k0 p
    have kp1 := k1 p
    by_cases hlt : e < n
    · have hb := HNLT.out e
      have HB := Lib.hid (l2Has (s : Int) (e : Int) (by omega) (by omega))
      have HN0 := Lib.hid fun h => newTo_no (cl := clo n rs) (s := s) (k := e) h
      have HN1 := Lib.hid fun h x hx => new_yes (cl := clo n rs) (s := s) (k := e) (x := x) h hx
      generalize newTo (clo n rs) s e = y at hb HN0 HN1
      have hbit : bit (s : Int) (e : Int) = s.testBit e := by rw [bit, Int.toNat_natCast]; rfl
      rw [hbit] at HB
      cases htb : s.testBit e with
      | false =>
        have HE := Lib.hid (HN0.out htb)
        rw [htb] at HB
        go_wp2_with fail
        refine (HB.out _).mono ?_
        rintro e1 w' ⟨rfl, hw⟩
        subst w'
        go_wp2_with fail
        go_roundw
        case rel => exact ⟨e + 1, p, by omega, by simp, by rw [HE.out], rfl⟩
        case measure => simp [intOf]; omega
      | true =>
        have h2 := shl_sub s hs256 e (by omega) htb
        have hws : wrap64 ((s : Int) - wrap64 (2 ^ e)) = ((s - 2 ^ e : Nat) : Int) := by
          have h3 : wrap64 (2 ^ e) = ((2 ^ e : Nat) : Int) := sh64' e (by omega)
          rw [h3]
          generalize 2 ^ e = t at h2
          rw [wrap64]; omega
        have HE := Lib.hid (HN1.out htb _ rfl)
        have HCX := Lib.hid (HC.out p (s - 2 ^ e) (Nat.lt_of_le_of_lt (Nat.sub_le _ _) hs256))
        have hx := HCLT.out (s - 2 ^ e)
        rw [htb] at HB
        generalize clo (n : Int) rs (s - 2 ^ e) = x at HE HCX hx
        generalize s - 2 ^ e = s2 at HCX hws
        have hand : bits .and .i64 (y : Int) (x : Int) = ((y &&& x : Nat) : Int) := and_nat y x hb hx
        have hle : y &&& x ≤ y := Nat.and_le_left
        generalize y &&& x = z at HE hand hle
        go_wp2_with fail
        refine (HB.out _).mono ?_
        rintro e1 w' ⟨rfl, hw⟩
        subst w'
        go_wp2_with fail
        rw [hws]
        refine HCX.out.mono ?_
        rintro e1 _ ⟨rfl, p2, rfl⟩
        go_wp2_with fail
        go_roundw
        case rel => exact ⟨e + 1, p2, by omega, by simp, by rw [HE.out]; congr 1; omega, rfl⟩
        case measure => simp [intOf]; omega
    · have hen : e = n := by omega
      have hbb := HBW.out.trans (p.h.mono (by omega))
      subst hen
      go_wp2_with fail
      go_ret
      exact ⟨by rw [Int.toNat_natCast]; rfl, hbb⟩
end Go.Proofs.Ythodmmckekgkdaa.Direct

namespace Go.Proofs.Ythodmmckekgkdaa.Direct
open Go Go.RowKit Mem Sets Ctx Tab Rule Stem Lectic
set_option maxRecDepth 100000

theorem dir_get {a : Int} {rs : List Int} {k : Nat} (hk : k < (properPremises a rs).length) : ∃ x : Nat, isCtx a rs = true ∧ x < 2 ^ a.toNat ∧ (properPremises a rs).getD k 0 = (x : Int) ∧ (directBase a rs).take (k + 1) = (directBase a rs).take k ++ [((x : Int), ((newTo (clo a rs) x a.toNat : Nat) : Int))] := by
  cases hc : isCtx a rs with
  | false => rw [properPremises, if_neg (by rw [hc]; decide)] at hk; exact absurd hk (Nat.not_lt_zero k)
  | true =>
    have e1 : properPremises a rs = prop a rs := if_pos hc
    have e2 : directBase a rs = dirOf a rs := if_pos hc
    rw [e1] at hk ⊢
    rw [e2]
    have hkN : k < (premN a rs).length := by simpa [premN] using hk
    have hkS : k < (dirOf a rs).length := by rw [dirOf_len]; exact hk
    have hm : (premN a rs)[k] ∈ premN a rs := List.getElem_mem hkN
    have h1 : (prop a rs).getD k 0 = (((premN a rs)[k] : Nat) : Int) := by
      rw [List.getD_eq_getElem?_getD, ← prem_nat hc, List.getElem?_map, List.getElem?_eq_getElem hkN]; rfl
    have h2 : (dirOf a rs)[k] = dirRule (clo a rs) a.toNat (premN a rs)[k] := by simp [dirOf]
    exact ⟨(premN a rs)[k], rfl, propN_lt ((prem_mem hc).1 hm), h1, by rw [List.take_add_one, List.getElem?_eq_getElem hkS, h2]; rfl⟩
theorem dir_closure {a : Int} {rs : List Int} (hc : isCtx a rs = true) {t : Nat} (ht : t < 2 ^ a.toNat) : oneStep (directBase a rs) (t : Int) = closure a rs (t : Int) := by
  have h6 := isCtx_parts hc
  have e2 : directBase a rs = dirOf a rs := if_pos hc
  have h8 : t < 256 := Nat.lt_of_lt_of_le ht (pow_le8 (by omega))
  rw [e2, oneStep, if_pos ⟨allIn_to8 (dir_in hc), isSet8_true (by omega)⟩, Int.toNat_natCast, dir_clo hc ht, closure, if_pos ⟨hc, isSet_of_nat h6.1 (by omega) ht⟩]
  rfl
theorem dir_stem_le {a : Int} {rs : List Int} (hc : isCtx a rs = true) : (stemBase a rs).length ≤ (directBase a rs).length := by
  have e1 : stemBase a rs = stemOf a rs := if_pos hc
  have e2 : directBase a rs = dirOf a rs := if_pos hc
  rw [e1, e2]; exact dir_stem hc
set_option maxHeartbeats 6400000 in
theorem spec_prem (a : Int) (v : Value) (rs : List Int) (B : Nat) (w : World) (hr : Reads w B v (ints rs)) (hB : B ≤ w.heap.size) :
    Calls Try.prog 36 #[ctx a v] w fun e w' => ∃ u, e = .returned u ∧ Mem.Own 3 w' w.heap.size w'.heap.size u (ints (properPremises a rs)) ∧ Below w.heap.size w w' := by
  obtain ⟨i0, hi, hz0, hz1, hz2⟩ := info_parts Ints.info
  obtain ⟨aa, ca, rfl⟩ := reads_form hr
  have hW := (Below.refl w.heap.size w).alloc (Nat.le_refl _) (.cells #[.int .i64 a, .slice aa rs.length ca] 26)
  have HR1 := Lib.hid (hr.below hW hB)
  have q0 : (w.alloc (.cells #[.int .i64 a, .slice aa rs.length ca] 26)).cell? ⟨w.heap.size, 0, none⟩ = some (.int .i64 a) := by simp
  have q1 : (w.alloc (.cells #[.int .i64 a, .slice aa rs.length ca] 26)).cell? ⟨w.heap.size, 1, none⟩ = some (.slice aa rs.length ca) := by simp
  have hz : w.heap.size < (w.alloc (.cells #[.int .i64 a, .slice aa rs.length ca] 26)).heap.size := by simp
  clear hr
  go_enter Try.func36, Try.ntmps36
  go_upto_region 1 with fail
  generalize w.alloc (.cells #[.int .i64 a, .slice aa rs.length ca] 26) = W at HR1 hW q0 q1 hz ⊢
  have hBW : B ≤ W.heap.size := by omega
  have k0 := fun p : Past W => Past.cell q0 (by show w.heap.size < _; omega) p
  have k1 := fun p : Past W => Past.cell q1 (by show w.heap.size < _; omega) p
  have HBW := Lib.hid hW
  have O0 : Hid ((W.alloc (.cells #[] 3 (0, 0))).ownsRow W.heap.size 3 1 (.slice (some ⟨W.heap.size, 0, none⟩) 0 0) 0 (ints (asInts (propTo (clo a rs) a.toNat 0)))) := Lib.hid (World.ownsRow_lit W #[] 0 (Nat.le_refl _) (Nat.zero_le _) rfl)
  have ka0 := k0 ((Past.start W).alloc (.cells #[] 3 (0, 0)))
  have ka1 := k1 ((Past.start W).alloc (.cells #[] 3 (0, 0)))
  clear hW q0 q1
  go_wp2_with fail
  refine (((Past.start W).alloc (.cells #[] 3 (0, 0))).ofB (spec_isCtx a _ rs B _ (Past.reads HR1.out hBW ((Past.start W).alloc (.cells #[] 3 (0, 0)))) (Nat.le_trans hBW ((Past.start W).alloc (.cells #[] 3 (0, 0))).size))).mono ?_
  rintro e _ ⟨rfl, p0, rfl, b0⟩
  have HO0 := Lib.hid (rowP_same O0.out fun g hg => b0.block g (O0.out.lt g hg).2)
  have kp0 := k0 p0
  have kp1 := k1 p0
  have hbb0 := HBW.out.trans (p0.h.mono (by omega))
  have hpz0 := p0.size
  clear b0 ka0 ka1
  cases hic : isCtx a rs with
  | false =>
    have HX : Hid (properPremises a rs = []) := Lib.hid (by rw [properPremises, if_neg (by rw [hic]; decide)])
    have HO := Lib.hid (show Mem.Own 3 p0.w W.heap.size p0.w.heap.size _ (ints []) from Mem.Own.made HO0.out)
    clear hic
    go_wp2_with fail
    go_ret
    exact ⟨_, rfl, by rw [HX.out]; exact HO.out.mono (by omega) (Nat.le_refl _), hbb0⟩
  | true =>
    have HX : Hid (properPremises a rs = sortLectic (asInts (propN a rs))) := Lib.hid (by rw [properPremises, if_pos hic]; rfl)
    have hp := isCtx_parts hic
    have hN8 : 2 ^ a.toNat ≤ 256 := pow_le8 (by omega)
    have hN1 : 1 ≤ 2 ^ a.toNat := Nat.pow_pos (by omega)
    have HF := Lib.hid fun w => spec_full a w
    rw [full_nat hp.1 (by omega)] at HF
    have HPS : Hid (propN a rs = propTo (clo a rs) a.toNat (2 ^ a.toNat)) := Lib.hid rfl
    have hlen := propN_len hic
    have HC := Lib.hid fun (p : Past W) (x : Nat) (hx : x < 2 ^ a.toNat) => p.ofB (l12New a (.slice aa rs.length ca) rs x B p.w (Past.reads HR1.out hBW p) (Nat.le_trans hBW p.size) hic hx)
    generalize 2 ^ a.toNat = N at hN8 hN1 HF HPS HC
    clear hp hic
    go_wp2_with fail
    go_loopw [3, 4] (fun ov i wr => ∃ (k : Nat) (v0 : Value) (p : Past W), k ≤ N ∧ i = .int .i64 k ∧ ov = v0 ∧ Hid (p.w.ownsRow W.heap.size 3 1 v0 (propTo (clo a rs) a.toNat k).length (ints (asInts (propTo (clo a rs) a.toNat k)))) ∧ wr = p.w) (fun _ i _ => N - (intOf i).toNat)
    case atStart => exact ⟨0, _, p0, Nat.zero_le _, rfl, rfl, HO0, rfl⟩
    case round =>
      obtain ⟨k, v0, p, hk, rfl, rfl, hown, rfl⟩ := hrel
      have kp0 := k0 p
      have kp1 := k1 p
      by_cases hlt : k < N
      · have dk : decide ((k : Int) ≤ ((N - 1 : Nat) : Int)) = true := by simp; omega
        have hk256 : k < 256 := by omega
        have HCK := Lib.hid (HC.out p k hlt)
        have HY := Lib.hid fun h => propTo_yes (cl := clo a rs) (n := a.toNat) (k := k) h
        have HNO := Lib.hid fun h => propTo_no (cl := clo a rs) (n := a.toNat) (k := k) h
        have hl := propTo_le (clo a rs) a.toNat k
        generalize newTo (clo a rs) k a.toNat = y at HCK HY HNO
        go_wp2_with fail
        refine (HF.out _).mono ?_
        rintro e w' ⟨rfl, hw⟩
        subst w'
        go_wp2_with fail
        refine HCK.out.mono ?_
        rintro e _ ⟨rfl, p2, rfl, b2⟩
        have HO2 := Lib.hid (rowP_same hown.out fun g hg => b2.block g (hown.out.lt g hg).2)
        clear b2 hown HCK
        generalize propTo (clo a rs) a.toNat k = l at HO2 HY HNO hl
        by_cases he : y = 0
        · have hd : (((y : Nat) : Int) != 0) = false := by rw [he]; rfl
          have HP := Lib.hid (HNO.out he)
          clear he
          go_wp2_with fail
          go_roundw
          case rel => exact ⟨k + 1, _, p2, by omega, by simp, rfl, by rw [HP.out]; exact HO2, rfl⟩
          case measure => simp [intOf]; omega
        · have hd : (((y : Nat) : Int) != 0) = true := by simp; omega
          have HP := Lib.hid (HY.out he)
          have hz2' := p2.size
          obtain ⟨av, cv, hov⟩ := rowP_form HO2.out
          subst hov
          clear he
          go_wp2_with (at_builtin; refine wpList_append_own _ rfl _ _ 24 rfl W.heap.size 3 i0 (.int .i64 0) 1 8 Try.underlying24 hi hz0 hz1 hz2 rfl (by decide) _ _ _ rfl (HO2.out.alloc _) ⟨p2.w.heap.size, 0, none⟩ 1 1 [.int .i64 (k : Int)] rfl rfl ?c1 ?c2 ?c3 ?c4 ?c5 ?_)
          case c1 =>
            intro j u hj
            match j, hj with
            | 0, hj => simp at hj; subst hj; simp [Addr.add]
          case c2 => intro u hu; simp at hu; subst hu; rfl
          case c3 => unfold maxLen; omega
          case c4 => omega
          case c5 => simp; omega
          intro v2 w2 hown' hgrow _
          have hown2 := Lib.hid hown'
          have hgrow2 := Lib.hid hgrow
          clear hown' hgrow
          go_wp2_with fail
          go_roundw
          case rel =>
            refine ⟨k + 1, _, ⟨w2, (p2.h.alloc p2.size _).grown hgrow2.out (by simp; omega) (fun j hj => (HO2.out.lt j hj).1)⟩, by omega, by simp, rfl, ?_, rfl⟩
            rw [HP.out, asInts_snoc, List.length_append]
            exact Lib.hid (by have := hown2.out; simpa [ints, asInts] using this)
          case measure => simp [intOf]; omega
      · have dk : decide ((k : Int) ≤ ((N - 1 : Nat) : Int)) = false := by simp; omega
        have HKN : Hid (propTo (clo a rs) a.toNat k = propN a rs) := Lib.hid (by rw [HPS.out, show k = N by omega])
        have hrow := hown.out
        rw [HKN.out] at hrow
        have ho := Mem.Own.made hrow
        have HJ := Lib.hid (SortL.spec_sort _ (asInts (propN a rs)) p.w.heap.size p.w ho.reads (Nat.le_refl _) (by simp; omega))
        rw [show (propN a rs).length = (asInts (propN a rs)).length by simp] at hrow
        have hpz := p.size
        have hbp := HBW.out.trans (p.h.mono (by omega))
        clear hrow ho hlen hown
        go_wp2_with fail
        refine (HF.out _).mono ?_
        rintro e w' ⟨rfl, hw⟩
        subst w'
        go_wp2_with fail
        refine HJ.out.mono ?_
        rintro e w2 ⟨u, rfl, o2, b2⟩
        have hbb := hbp.trans (b2.mono (by omega))
        go_wp2_with fail
        go_ret
        exact ⟨_, rfl, by rw [HX.out]; exact o2.mono (by omega) (Nat.le_refl _), hbb⟩
set_option maxHeartbeats 6400000 in
theorem spec_direct (a : Int) (v : Value) (rs : List Int) (B : Nat) (w : World) (hr : Reads w B v (ints rs)) (hB : B ≤ w.heap.size) :
    Calls Try.prog 35 #[ctx a v] w fun e w' => ∃ u, e = .returned u ∧ OwnP 43 w' w.heap.size w'.heap.size u (directBase a rs) ∧ Below w.heap.size w w' := by
  obtain ⟨i0, hinf, hz0, hz1, hz2⟩ := info_parts PRule.infoT
  obtain ⟨aa, ca, rfl⟩ := reads_form hr
  have hW := (Below.refl w.heap.size w).alloc (Nat.le_refl _) (.cells #[.int .i64 a, .slice aa rs.length ca] 26)
  have HR1 := Lib.hid (hr.below hW hB)
  have q0 : (w.alloc (.cells #[.int .i64 a, .slice aa rs.length ca] 26)).cell? ⟨w.heap.size, 0, none⟩ = some (.int .i64 a) := by simp
  have q1 : (w.alloc (.cells #[.int .i64 a, .slice aa rs.length ca] 26)).cell? ⟨w.heap.size, 1, none⟩ = some (.slice aa rs.length ca) := by simp
  have hz : w.heap.size < (w.alloc (.cells #[.int .i64 a, .slice aa rs.length ca] 26)).heap.size := by simp
  clear hr
  go_enter Try.func35, Try.ntmps35
  go_upto_region 1 with fail
  generalize w.alloc (.cells #[.int .i64 a, .slice aa rs.length ca] 26) = W at HR1 hW q0 q1 hz ⊢
  have hBW : B ≤ W.heap.size := by omega
  have k0 := fun p : Past W => Past.cell q0 (by show w.heap.size < _; omega) p
  have k1 := fun p : Past W => Past.cell q1 (by show w.heap.size < _; omega) p
  have HBW := Lib.hid hW
  have HC := Lib.hid fun (p : Past W) (x : Nat) (hc : isCtx a rs = true) (hx : x < 2 ^ a.toNat) => p.ofB (l12New a (.slice aa rs.length ca) rs x B p.w (Past.reads HR1.out hBW p) (Nat.le_trans hBW p.size) hc hx)
  have O0 : Hid ((W.alloc (.cells #[] 43 (0, 0))).ownsRow W.heap.size 43 2 (.slice (some ⟨W.heap.size, 0, none⟩) 0 0) 0 (prs [])) := Lib.hid (World.ownsRow_lit W #[] 0 (Nat.le_refl _) (Nat.zero_le _) rfl)
  have HP := Lib.hid (spec_prem a (.slice aa rs.length ca) rs B (W.alloc (.cells #[] 43 (0, 0))) (Past.reads HR1.out hBW ((Past.start W).alloc _)) (Nat.le_trans hBW ((Past.start W).alloc (.cells #[] 43 (0, 0))).size))
  have ka0 := k0 ((Past.start W).alloc (.cells #[] 43 (0, 0)))
  have ka1 := k1 ((Past.start W).alloc (.cells #[] 43 (0, 0)))
  clear hW
  go_wp2_with fail
  refine HP.out.mono ?_
  rintro e w1 ⟨u, rfl, o1, b1⟩
  have hz1w : W.heap.size + 1 ≤ w1.heap.size := by have := b1.size; simpa using this
  have HP1 : Hid (∃ p1 : Past W, p1.w = w1) := Lib.hid ⟨⟨w1, ((Past.start W).alloc (.cells #[] 43 (0, 0))).h.trans (b1.mono (by simp))⟩, rfl⟩
  have HO1 := Lib.hid (rowP_same O0.out fun g hg => b1.block g (O0.out.lt g hg).2)
  have HG := Lib.hid fun (k : Nat) (hk : k < (properPremises a rs).length) => dir_get (a := a) (rs := rs) hk
  have hlen := prem_len a rs
  have HTL := Lib.hid (show (directBase a rs).length = (properPremises a rs).length from base_prem_len a rs)
  obtain ⟨n, hn⟩ : ∃ n, (properPremises a rs).length = n := ⟨_, rfl⟩
  obtain ⟨al, cl, rfl, bl, ol, hal, hbl, hbl2, hcl⟩ : ∃ al cl, u = .slice al n cl ∧ ∃ bl ol, (0 < n → al = some ⟨bl, ol, none⟩) ∧ W.heap.size < bl ∧ (0 < n → bl < w1.heap.size) ∧ ∀ j, j < n → w1.cell? ⟨bl, ol + j, none⟩ = some (.int .i64 ((properPremises a rs).getD j 0)) := by
    obtain ⟨al, cl, rfl⟩ := own_form o1
    have hrd := o1.reads
    refine ⟨al, cl, by rw [hn], ?_⟩
    by_cases h0 : 0 < n
    · obtain ⟨_, a', c', hv, hcells⟩ := hrd
      injection hv with e1 e2 e3
      subst e1
      obtain ⟨b, o, rfl, h2, h3⟩ := hcells (by intro h; rw [List.map_eq_nil_iff] at h; rw [h] at hn; simp at hn; omega)
      have hob := (o1.1.lt b rfl).1
      refine ⟨b, o, fun _ => rfl, by simp at hob; omega, fun _ => h2, fun j hj => ?_⟩
      rw [h3 j (by simp [ints]; omega)]
      exact ints_get _ j (by omega)
    · exact ⟨W.heap.size + 1, 0, fun h => absurd h h0, by omega, fun h => absurd h h0, fun j hj => by omega⟩
  rw [hn] at HG hlen HTL
  have HCL := Lib.hid hcl
  obtain ⟨p1, rfl⟩ := HP1.out
  clear HP O0 o1 b1 hcl HP1 hn ka0 ka1
  go_wp2_with fail
  go_loopw [3, 5] (fun ov i wr => ∃ (k : Nat) (v0 : Value) (p : Past W), k ≤ n ∧ i = .int .i64 k ∧ ov = v0 ∧ Hid (p.w.ownsRow W.heap.size 43 2 v0 k (prs ((directBase a rs).take k))) ∧ Hid (∀ g, v0.ownBlock = some g → g ≠ bl) ∧ (0 < n → bl < p.w.heap.size) ∧ Hid (∀ j, j < n → p.w.cell? ⟨bl, ol + j, none⟩ = some (.int .i64 ((properPremises a rs).getD j 0))) ∧ wr = p.w) (fun _ i _ => n - (intOf i).toNat)
  case atStart => exact ⟨0, _, p1, Nat.zero_le _, rfl, rfl, HO1, Lib.hid (fun g hg => by cases hg; show W.heap.size ≠ bl; omega), hbl2, HCL, rfl⟩
  case round =>
    obtain ⟨k, v0, p, hk, rfl, rfl, hown, hne, hblp, hcel, rfl⟩ := hrel
    by_cases hlt : k < n
    · obtain ⟨x, hcx, hx, hgx, htk⟩ := HG.out k hlt
      obtain rfl := hal (by omega)
      have hblz := hblp (by omega)
      have cx := hcel.out k hlt
      rw [hgx] at cx
      have HTK := Lib.hid htk
      have HCX := Lib.hid (HC.out p.drew x hcx hx)
      clear htk hgx hcx
      generalize newTo (clo a rs) x a.toNat = y at HTK HCX
      have HK1 : Hid (k + 1 ≤ maxLen) := Lib.hid (by unfold maxLen; omega)
      have HK2 : Hid ((k + 1) * 16 ≤ 140737488355328) := Lib.hid (by omega)
      have hpz := p.size
      have kp0 := k0 p
      have kp1 := k1 p
      obtain ⟨av, cv, hov⟩ := rowP_form hown.out
      subst hov
      have kd0 := k0 p.drew
      have kd1 := k1 p.drew
      have cxd : p.w.drew.cell? ⟨bl, ol + k, none⟩ = some (.int .i64 (x : Int)) := cx
      go_wp2_with fail
      go_region_held3 (fun wx => wx.cell? ⟨w.heap.size, 0, none⟩ = some (.int .i64 a) ∧ wx.cell? ⟨w.heap.size, 1, none⟩ = some (.slice aa rs.length ca) ∧ wx.cell? ⟨bl, ol + k, none⟩ = some (.int .i64 (x : Int)))
        (first | with_reducible exact ⟨kd0, kd1, cxd⟩ | with_reducible exact ⟨k0 p2, k1 p2, F.2.1⟩ | with_reducible exact ⟨k0 (p2.alloc _), k1 (p2.alloc _), F.2.2.1⟩ | with_reducible exact ⟨k0 p3, k1 p3, F3⟩ | fail)
        (first
          | (go_at_call 83; (with_reducible refine HCX.out.mono ?_); rintro e _ ⟨rfl, p2, rfl, b2⟩; have F := stem_step hown.out b2 cx hblz (.cells #[.int .i64 (x : Int), .int .i64 ((y : Nat) : Int)] 43))
          | (refine step_append_lies _ (by rfl) _ _ _ (by rfl) W.heap.size 43 i0 (.agg #[.int .i64 0, .int .i64 0]) 2 16 Try.underlying28 hinf hz0 hz1 hz2 rfl (by decide) _ k _ (by rfl) (F.1.alloc _) ⟨p2.w.heap.size, 0, none⟩ 1 1 (prs [((x : Int), ((y : Nat) : Int))]) (by rfl) (by rfl) (newsQ _ _ _ _) (oneQ _) Nat.one_pos HK1.out HK2.out (p2.alloc _).size _ rfl ?_; intro g cap w3 hown3 hgrow hat hlt3; obtain ⟨p3, rfl, F3⟩ := stem_grow p2 hgrow F hne.out (Nat.le_refl _)))
      have hsz3 : (p2.w.alloc (.cells #[.int .i64 (x : Int), .int .i64 ((y : Nat) : Int)] 43)).heap.size ≤ p3.w.heap.size := hgrow.size
      have hbl3 := F.2.2.2.1
      have HO4 := Lib.hid hown3
      have HN4 : Hid (∀ g', Value.ownBlock (.slice (some ⟨g, 0, none⟩) (k + 1) cap) = some g' → g' ≠ bl) := Lib.hid fun g' hg' => by
        cases hg'
        rcases hat with h | h
        · exact hne.out _ h
        · show g ≠ bl; omega
      have HC4 : Hid (∀ j, j < n → p3.w.cell? ⟨bl, ol + j, none⟩ = some (.int .i64 ((properPremises a rs).getD j 0))) := Lib.hid fun j hj => by
        obtain ⟨_, h1, h2⟩ := stem_grow p2 hgrow (stem_step hown.out b2 (hcel.out j hj) hblz _) hne.out (Nat.le_refl _)
        rw [h1] at h2; exact h2
      clear hown3 hgrow hat F F3 b2 kd0 kd1 cxd cx
      go_wp2_with fail
      go_roundw
      case rel => exact ⟨k + 1, _, p3, by omega, by simp, rfl, Lib.hid (by rw [HTK.out, prs_app]; exact HO4.out), HN4, fun _ => by omega, HC4, rfl⟩
      case measure => simp [intOf]; omega
    · have hrow := hown.out
      rw [show k = (directBase a rs).length by have := HTL.out; omega, List.take_length] at hrow
      have HO := Lib.hid (OwnP.made hrow)
      have hkl := HTL.out
      have hbb := HBW.out.trans (p.h.mono (by omega))
      clear hrow hkl
      go_wp2_with fail
      go_ret
      exact ⟨_, rfl, by have h := HO.out.mono (lo' := w.heap.size) (by omega) (Nat.le_refl _); exact h, hbb⟩
end Go.Proofs.Ythodmmckekgkdaa.Direct

namespace Go.Proofs.Ythodmmckekgkdaa.Direct
open Go Go.RowKit Mem Sets Ctx Tab Rule Stem Lectic
set_option maxRecDepth 100000

/-- The elements that are in one of the first k sets. -/
def joinTo (xs : List Nat) : Nat → Nat
  | 0 => 0
  | k + 1 => joinTo xs k ||| xs.getD k 0
def join (xs : List Nat) : Nat := joinTo xs xs.length
theorem joinTo_app (xs ys : List Nat) : ∀ k, k ≤ xs.length → joinTo (xs ++ ys) k = joinTo xs k
  | 0, _ => rfl
  | k + 1, h => by
    show joinTo (xs ++ ys) k ||| (xs ++ ys).getD k 0 = joinTo xs k ||| xs.getD k 0
    rw [joinTo_app xs ys k (by omega), List.getD_eq_getElem?_getD, List.getD_eq_getElem?_getD, List.getElem?_append_left (by omega)]
theorem join_snoc (xs : List Nat) (y : Nat) : join (xs ++ [y]) = join xs ||| y := by
  have e : (xs ++ [y]).getD xs.length 0 = y := by simp
  unfold join
  rw [List.length_append]
  show joinTo (xs ++ [y]) xs.length ||| (xs ++ [y]).getD xs.length 0 = _
  rw [joinTo_app xs [y] _ (Nat.le_refl _), e]
theorem join_one (x : Nat) : join [x] = x := by show 0 ||| x = x; exact Nat.zero_or x
theorem join_two (x y : Nat) : join [x, y] = x ||| y := by show (0 ||| x) ||| y = x ||| y; rw [Nat.zero_or]
theorem joinTo_lt {xs : List Nat} (h : ∀ x ∈ xs, x < 256) : ∀ k, joinTo xs k < 256
  | 0 => by show 0 < 256; omega
  | k + 1 => by
    have ih := joinTo_lt h k
    have hx : xs.getD k 0 < 256 := by
      by_cases hk : k < xs.length
      · rw [List.getD_eq_getElem?_getD, List.getElem?_eq_getElem hk]; exact h _ (List.getElem_mem hk)
      · rw [List.getD_eq_getElem?_getD, List.getElem?_eq_none (by omega)]; show 0 < 256; omega
    exact Nat.or_lt_two_pow (n := 8) ih hx
/-- The parts that the first k rules add. -/
def partsTo (l : List PInt) (s : Nat) : Nat → List Nat
  | 0 => [s]
  | k + 1 => if (rl l k).1.toNat &&& s = (rl l k).1.toNat then partsTo l s k ++ [(rl l k).2.toNat] else partsTo l s k
theorem parts_yes {l : List PInt} {s k : Nat} (h : (rl l k).1.toNat &&& s = (rl l k).1.toNat) : partsTo l s (k + 1) = partsTo l s k ++ [(rl l k).2.toNat] := if_pos h
theorem parts_no {l : List PInt} {s k : Nat} (h : (rl l k).1.toNat &&& s ≠ (rl l k).1.toNat) : partsTo l s (k + 1) = partsTo l s k := if_neg h
theorem parts_len (l : List PInt) (s : Nat) : ∀ k, (partsTo l s k).length ≤ k + 1
  | 0 => Nat.le_refl _
  | k + 1 => by
    have := parts_len l s k
    unfold partsTo
    split
    · rw [List.length_append]; simp; omega
    · omega
theorem parts_join (l : List PInt) (s : Nat) : ∀ k, join (partsTo l s k) = oneTo l s k
  | 0 => join_one s
  | k + 1 => by
    have ih := parts_join l s k
    by_cases h : (rl l k).1.toNat &&& s = (rl l k).1.toNat
    · rw [parts_yes h, oneTo_yes h, join_snoc, ih]
    · rw [parts_no h, oneTo_no h, ih]
theorem parts_lt {l : List PInt} {s : Nat} (hs : s < 256) (hl : allIn 8 l = true) : ∀ k, k ≤ l.length → ∀ x ∈ partsTo l s k, x < 256
  | 0, _, x, hx => by rw [List.mem_singleton.1 hx]; exact hs
  | k + 1, hk, x, hx => by
    by_cases h : (rl l k).1.toNat &&& s = (rl l k).1.toNat
    · rw [parts_yes h] at hx
      rcases List.mem_append.1 hx with hx | hx
      · exact parts_lt hs hl k (by omega) x hx
      · rw [List.mem_singleton.1 hx]; exact allIn_lt hl (k := k) (by omega)
    · rw [parts_no h] at hx
      exact parts_lt hs hl k (by omega) x hx
/-- The elements of a set. -/
def elsN (x k : Nat) : List Nat := (List.range k).filter x.testBit
theorem elems_nat : ∀ x : Nat, x < 256 → Elems.elems (x : Int) = (elsN x 8).map fun e : Nat => (e : Int) := by decide +kernel
theorem els_mem {x e : Nat} : e ∈ elsN x 8 ↔ e < 8 ∧ x.testBit e = true := by rw [elsN, List.mem_filter, List.mem_range]
theorem els_len (x : Nat) : (elsN x 8).length ≤ 8 := by
  have := List.length_filter_le x.testBit (List.range 8)
  rw [List.length_range] at this; exact this
theorem andNot_drop : ∀ s : Nat, s < 256 → ∀ e : Nat, e < 8 → s.testBit e = true → bits .andNot .i64 (s : Int) (IntKind.i64.wrap (2 ^ e)) = ((s - 2 ^ e : Nat) : Int) := by decide +kernel
/-- What is known with one of the first k elements missing, and the set itself. -/
def knownTo (cl : Nat → Nat) (s : Nat) (es : List Nat) : Nat → Nat
  | 0 => s
  | k + 1 => knownTo cl s es k ||| cl (s - 2 ^ es.getD k 0)
theorem known_succ (cl : Nat → Nat) (s : Nat) (es : List Nat) (k : Nat) : knownTo cl s es (k + 1) = knownTo cl s es k ||| cl (s - 2 ^ es.getD k 0) := rfl
theorem known_lt {cl : Nat → Nat} {s : Nat} {es : List Nat} (hs : s < 256) (hc : ∀ x, cl x < 256) : ∀ k, knownTo cl s es k < 256
  | 0 => hs
  | k + 1 => Nat.or_lt_two_pow (n := 8) (known_lt hs hc k) (hc _)
theorem known_bit {cl : Nat → Nat} {s : Nat} {es : List Nat} (j : Nat) : ∀ k, k ≤ es.length → ((knownTo cl s es k).testBit j = true ↔ s.testBit j = true ∨ ∃ e ∈ es.take k, (cl (s - 2 ^ e)).testBit j = true)
  | 0, _ => by show s.testBit j = true ↔ _; simp
  | k + 1, hk => by
    have ih := known_bit (cl := cl) (s := s) (es := es) j k (by omega)
    have ht : es.take (k + 1) = es.take k ++ [es.getD k 0] := by
      rw [List.take_add_one, List.getElem?_eq_getElem (by omega), List.getD_eq_getElem?_getD, List.getElem?_eq_getElem (by omega)]; rfl
    rw [known_succ, Nat.testBit_or, Bool.or_eq_true, ih, ht, or_assoc]
    refine or_congr Iff.rfl ⟨?_, ?_⟩
    · rintro (⟨e, he, h⟩ | h)
      · exact ⟨e, List.mem_append.2 (.inl he), h⟩
      · exact ⟨_, List.mem_append.2 (.inr (List.mem_singleton.2 rfl)), h⟩
    · rintro ⟨e, he, h⟩
      rcases List.mem_append.1 he with he | he
      · exact .inl ⟨e, he, h⟩
      · rw [List.mem_singleton.1 he] at h; exact .inr h
/-- Without that, the closure is what no smaller premise gives. -/
theorem own_new {cl : Nat → Nat} {n s : Nat} (C : Clo n cl) (hs : s < 2 ^ n) : minus (cl s) (knownTo cl s (elsN s 8) (elsN s 8).length) = newTo cl s n := nat_bits fun j => by
  have hk := known_bit (cl := cl) (s := s) (es := elsN s 8) j (elsN s 8).length (Nat.le_refl _)
  rw [List.take_length] at hk
  rw [minus_bit, newTo_bit C hs j n, Bool.and_eq_true]
  refine and_congr Iff.rfl ⟨fun h => ?_, fun h => ?_⟩
  · have hn : ¬ (s.testBit j = true ∨ ∃ e ∈ elsN s 8, (cl (s - 2 ^ e)).testBit j = true) := fun h1 => by rw [hk.2 h1] at h; exact absurd h (by decide)
    refine ⟨?_, fun e he hb => ?_⟩
    · cases hb : s.testBit j with
      | false => rfl
      | true => exact absurd (.inl hb) hn
    · cases hb2 : (cl (s - 2 ^ e)).testBit j with
      | false => rfl
      | true => exact absurd (.inr ⟨e, els_mem.2 ⟨by have := C.n8; omega, hb⟩, hb2⟩) hn
  · cases hb : (knownTo cl s (elsN s 8) (elsN s 8).length).testBit j with
    | false => rfl
    | true =>
      rcases hk.1 hb with h1 | ⟨e, he, h1⟩
      · rw [h.1] at h1; cases h1
      · obtain ⟨-, h3⟩ := els_mem.1 he
        rw [h.2 e (bit_lt hs h3) h3] at h1; cases h1
/-- The rules found among the first k sets of a list. -/
def foundTo (cl : Nat → Nat) (n : Nat) (l : List Nat) : Nat → List PInt
  | 0 => []
  | k + 1 => if newTo cl (l.getD k 0) n ≠ 0 then foundTo cl n l k ++ [(((l.getD k 0 : Nat) : Int), ((newTo cl (l.getD k 0) n : Nat) : Int))] else foundTo cl n l k
theorem found_succ (cl : Nat → Nat) (n : Nat) (l : List Nat) (k : Nat) : foundTo cl n l (k + 1) = if newTo cl (l.getD k 0) n ≠ 0 then foundTo cl n l k ++ [(((l.getD k 0 : Nat) : Int), ((newTo cl (l.getD k 0) n : Nat) : Int))] else foundTo cl n l k := rfl
theorem found_len (cl : Nat → Nat) (n : Nat) (l : List Nat) : ∀ k, (foundTo cl n l k).length ≤ k
  | 0 => Nat.le_refl _
  | k + 1 => by
    have := found_len cl n l k
    rw [found_succ]
    split
    · rw [List.length_append]; simp; omega
    · omega
theorem found_eq (cl : Nat → Nat) (n : Nat) (l : List Nat) : ∀ k, k ≤ l.length → foundTo cl n l k = ((l.take k).filter fun x => decide (newTo cl x n ≠ 0)).map (dirRule cl n)
  | 0, _ => by simp [foundTo]
  | k + 1, hk => by
    have ih := found_eq cl n l k (by omega)
    have ht : l.take (k + 1) = l.take k ++ [l.getD k 0] := by
      rw [List.take_add_one, List.getElem?_eq_getElem (by omega), List.getD_eq_getElem?_getD, List.getElem?_eq_getElem (by omega)]; rfl
    rw [found_succ, ht, List.filter_append, List.map_append, ih]
    by_cases h : newTo cl (l.getD k 0) n ≠ 0
    · rw [if_pos h]
      simp only [List.filter_cons, List.filter_nil]
      rw [if_pos (decide_eq_true h)]; rfl
    · rw [if_neg h]
      simp only [List.filter_cons, List.filter_nil]
      rw [if_neg (fun h1 => h (of_decide_eq_true h1))]; simp
theorem prem_lec {a : Int} {rs : List Int} (hc : isCtx a rs = true) : premN a rs = (lecN a.toNat).filter fun x => decide (newTo (clo a rs) x a.toNat ≠ 0) := by
  have h6 := isCtx_parts hc
  have hn : a.toNat ≤ 6 := by omega
  refine up_unique _ _ ?_ (List.Pairwise.sublist List.filter_sublist (lecN_up hn)) fun x => ?_
  · have h1 := prop_asc hc
    unfold Up premN
    rw [List.pairwise_map]
    refine List.Pairwise.imp_of_mem (fun {x y} hx hy h => ?_) h1
    obtain ⟨u, hu, rfl⟩ := (prop_mem hc).1 hx
    obtain ⟨v, hv, rfl⟩ := (prop_mem hc).1 hy
    have := propN_256 hc hu
    have := propN_256 hc hv
    unfold key at h
    rw [Int.toNat_natCast, Int.toNat_natCast] at h ⊢
    rw [mirror_mir u (by omega), mirror_mir v (by omega)] at h
    exact h
  · rw [(prem_dir hc).mem, List.mem_filter, lecN_mem hn, decide_eq_true_eq]
/-- Gone through to the end they are the direct base. -/
theorem found_all {a : Int} {rs : List Int} (hc : isCtx a rs = true) : foundTo (clo a rs) a.toNat (lecN a.toNat) (2 ^ a.toNat) = dirOf a rs := by
  rw [found_eq _ _ _ _ (by rw [lecN_len]; exact Nat.le_refl _), List.take_of_length_le (by rw [lecN_len]; exact Nat.le_refl _), ← prem_lec hc]; rfl
/-- The premises are those of the direct base. -/
theorem direct_fst (a : Int) (rs : List Int) : (directBase a rs).map Prod.fst = properPremises a rs := by
  unfold directBase properPremises
  split
  · rename_i h
    rw [← prem_nat h]
    unfold dirOf asInts
    rw [List.map_map]; rfl
  · rfl
end Go.Proofs.Ythodmmckekgkdaa.Direct

namespace Go.Proofs.Ythodmmckekgkdaa.Direct
open Go Go.RowKit Mem Sets Ctx Tab Rule Stem Lectic
set_option maxRecDepth 100000

/-- The cells of a list of numbers. -/
theorem reads_cells {v : Value} {xs : List Nat} {B : Nat} {w : World} (hr : Reads w B v (ints (asInts xs))) : ∃ al cl, v = .slice al xs.length cl ∧ xs.length ≤ 9223372036854775807 ∧ ∃ bl ol, (0 < xs.length → al = some ⟨bl, ol, none⟩ ∧ bl < B) ∧ ∀ j, j < xs.length → w.cell? ⟨bl, ol + j, none⟩ = some (.int .i64 ((xs.getD j 0 : Nat) : Int)) := by
  have hle : (ints (asInts xs)).length = xs.length := by simp [ints, asInts]
  obtain ⟨hl, al, cl, rfl, hrd⟩ := hr
  rw [hle] at hl
  refine ⟨al, cl, by rw [hle], by unfold maxLen at hl; omega, ?_⟩
  by_cases h0 : 0 < xs.length
  · obtain ⟨b, o, rfl, h2, h3⟩ := hrd (by intro h; rw [← List.length_eq_zero_iff, hle] at h; omega)
    exact ⟨b, o, fun _ => ⟨rfl, h2⟩, fun j hj => (h3 j (by omega)).trans (asInts_get xs j (by omega))⟩
  · exact ⟨0, 0, fun h => absurd h h0, fun j hj => by omega⟩
theorem impl_joined (v : Value) (xs : List Nat) (B : Nat) (w : World) (hr : Reads w B v (ints (asInts xs))) (h8 : ∀ x ∈ xs, x < 256) :
    Calls Try.prog 88 #[v] w fun e w' => e = .returned (.int .i64 ((join xs : Nat) : Int)) ∧ w' = w := by
  obtain ⟨al, cl, rfl, hmx, bl, ol, hal, hcell⟩ := reads_cells hr
  obtain ⟨m, hm⟩ : ∃ m, xs.length = m := ⟨_, rfl⟩
  have HX : Hid (join xs = joinTo xs m) := Lib.hid (by rw [← hm]; rfl)
  have HLT := Lib.hid fun k => joinTo_lt h8 k
  have HE := Lib.hid fun k (hk : k < m) => h8 (xs.getD k 0) (by rw [List.getD_eq_getElem?_getD, List.getElem?_eq_getElem (by omega)]; exact List.getElem_mem (by omega))
  have HS : Hid (∀ k, joinTo xs (k + 1) = joinTo xs k ||| xs.getD k 0) := Lib.hid fun k => rfl
  rw [hm] at hal hcell hmx ⊢
  have HCE := Lib.hid hcell
  clear hr h8 hm hcell
  go_enter Try.func88, Try.ntmps88
  go_wp2_with fail
  go_loopw [3, 8] (fun ov i wr => ∃ k : Nat, k ≤ m ∧ i = .int .i64 k ∧ ov = .int .i64 ((joinTo xs k : Nat) : Int) ∧ wr = w) (fun _ i _ => m - (intOf i).toNat)
  case atStart => exact ⟨0, Nat.zero_le _, rfl, rfl, rfl⟩
  case round =>
    obtain ⟨k, hk, rfl, rfl, rfl⟩ := hrel
    by_cases hlt : k < m
    · obtain ⟨rfl, -⟩ := hal (by omega)
      have ce := HCE.out k hlt
      have hy := HLT.out k
      have hx := HE.out k hlt
      have HST := Lib.hid (HS.out k)
      generalize xs.getD k 0 = x at ce hx HST
      generalize joinTo xs k = y at hy HST
      have hor := or_nat' y x hy hx
      go_wp2_with fail
      go_roundw
      case rel => exact ⟨k + 1, by omega, by simp, by rw [HST.out], by trivial⟩
      case measure => simp [intOf]; omega
    · have HK := Lib.hid (show k = m by omega)
      go_wp2_with fail
      go_ret
      exact ⟨by rw [HX.out, ← HK.out]; rfl, by trivial⟩
theorem joined_two (x y : Nat) (t : TypeId) (w : World) (hx : x < 256) (hy : y < 256) :
    Calls Try.prog 88 #[.slice (some ⟨w.heap.size, 0, none⟩) 2 2] (w.alloc (.cells #[.int .i64 (x : Int), .int .i64 (y : Int)] t)) fun e w' => e = .returned (.int .i64 ((x ||| y : Nat) : Int)) ∧ w' = w.alloc (.cells #[.int .i64 (x : Int), .int .i64 (y : Int)] t) := by
  have h := impl_joined (.slice (some ⟨w.heap.size, 0, none⟩) 2 2) [x, y] (w.heap.size + 1) (w.alloc (.cells #[.int .i64 (x : Int), .int .i64 (y : Int)] t))
    ⟨by show 2 ≤ maxLen; unfold maxLen; omega, _, _, rfl, fun _ => ⟨_, _, rfl, by omega, fun j hj => by
      match j, hj with
      | 0, _ => simp [ints, asInts]
      | 1, _ => simp [ints, asInts]⟩⟩
    (fun z hz => by simp at hz; rcases hz with rfl | rfl <;> assumption)
  rw [join_two] at h
  exact h
theorem parts_nat (l : List PInt) (k : Nat) (h : 0 ≤ (rl l k).2) : [Value.int .i64 (rl l k).2] = ints (asInts [(rl l k).2.toNat]) := by
  obtain ⟨z, hz⟩ := Int.eq_ofNat_of_zero_le h
  rw [hz]; rfl
set_option maxHeartbeats 3200000 in
theorem impl_oneStep (v : Value) (l : List PInt) (s : Int) (B : Nat) (w : World) (hr : ReadsP w B v l) (hB : B ≤ w.heap.size) (hlen : l.length ≤ 1048576) :
    Calls Try.prog 37 #[v, .int .i64 s] w fun e w' => e = .returned (.int .i64 (oneStep l s)) ∧ Below w.heap.size w w' := by
  obtain ⟨i0, hinf, hz0, hz1, hz2⟩ := info_parts Ints.info
  have HS := Lib.hid fun w => impl_any s w
  cases hs : isSet 8 s with
  | false =>
    have HX : Hid (oneStep l s = s) := Lib.hid (by rw [oneStep, if_neg (by simp [hs])])
    rw [hs] at HS
    clear hs hr
    go_enter Try.func37, Try.ntmps37
    go_wp2_with fail
    refine (HS.out _).mono ?_
    rintro e w' ⟨rfl, hw⟩
    subst w'
    go_wp2_with fail
    go_ret
    exact ⟨by rw [HX.out]; rfl, Below.refl _ _⟩
  | true =>
    have HL := Lib.hid ((Past.start w).of (areRulesOf 8 v l B w hr hB))
    cases hi : allIn 8 l with
    | false =>
      have HX : Hid (oneStep l s = s) := Lib.hid (by rw [oneStep, if_neg (by simp [hi])])
      rw [hi] at HL
      rw [hs] at HS
      clear hs hi hr
      go_enter Try.func37, Try.ntmps37
      go_wp2_with fail
      refine (HS.out _).mono ?_
      rintro e w' ⟨rfl, hw⟩
      subst w'
      go_wp2_with fail
      refine HL.out.mono ?_
      rintro e _ ⟨rfl, p, rfl⟩
      have hbb := p.h
      go_wp2_with fail
      go_ret
      exact ⟨by rw [HX.out]; rfl, hbb⟩
    | true =>
      obtain ⟨s0, rfl⟩ := Int.eq_ofNat_of_zero_le (set8 hs).1
      have hs2 : s0 < 256 := by have := set8 hs; omega
      have HX : Hid (oneStep l s0 = ((oneN l s0 : Nat) : Int)) := Lib.hid (by rw [oneStep, if_pos ⟨hi, hs⟩, Int.toNat_natCast])
      rw [hi] at HL
      rw [hs] at HS
      obtain ⟨a, c, rfl⟩ := hr.form
      have HR := Lib.hid hr
      have HPJ := Lib.hid (parts_join l s0 l.length)
      have HPL := Lib.hid (parts_lt hs2 hi l.length (Nat.le_refl _))
      obtain ⟨m, hm⟩ : ∃ m, l.length = m := ⟨_, rfl⟩
      have HM := Lib.hid hm
      have HIN := Lib.hid hi
      have HPN := Lib.hid fun k => parts_len l s0 k
      rw [hm] at HR HL hlen HPJ HPL ⊢
      clear hr hm hi hs
      go_enter Try.func37, Try.ntmps37
      go_wp2_with fail
      refine (HS.out _).mono ?_
      rintro e w' ⟨rfl, hw⟩
      subst w'
      go_wp2_with fail
      refine HL.out.mono ?_
      rintro e _ ⟨rfl, p, rfl⟩
      have O0 : Hid ((p.w.alloc (.cells #[.int .i64 (s0 : Int)] 3 (0, 0))).ownsRow w.heap.size 3 1 (.slice (some ⟨p.w.heap.size, 0, none⟩) 1 1) (partsTo l s0 0).length (ints (asInts (partsTo l s0 0)))) := Lib.hid (World.ownsRow_lit p.w #[.int .i64 (s0 : Int)] 1 p.size (by decide) rfl)
      go_wp2_with fail
      go_loopw [5, 21] (fun ov i wr => ∃ (k : Nat) (u0 : Value) (q : Past w), k ≤ m ∧ i = .int .i64 k ∧ ov = u0 ∧ Hid (q.w.ownsRow w.heap.size 3 1 u0 (partsTo l s0 k).length (ints (asInts (partsTo l s0 k)))) ∧ wr = q.w) (fun _ i _ => m - (intOf i).toNat)
      case atStart => exact ⟨0, _, p.alloc _, Nat.zero_le _, rfl, rfl, O0, rfl⟩
      case round =>
        obtain ⟨k, u0, q, hk, rfl, rfl, hown, rfl⟩ := hrel
        have hqz := q.size
        by_cases hlt : k < m
        · have hkl : k < l.length := by rw [HM.out]; exact hlt
          obtain ⟨b, o, rfl, hb, h0, h1⟩ := readsP_at HR.out (k := k) hkl
          have c0 := Past.cell h0 (by show b < _; omega) q
          have c1 := Past.cell h1 (by show b < _; omega) q
          have hrr := allIn_rl HIN.out hkl
          have hq1 := set8 hrr.1
          have hq2 := set8 hrr.2
          have HYS := Lib.hid fun h => parts_yes (l := l) (s := s0) (k := k) h
          have HNO := Lib.hid fun h => parts_no (l := l) (s := s0) (k := k) h
          have hpl := HPN.out k
          have HNA := Lib.hid (parts_nat l k hq2.1)
          clear h0 h1 hrr
          generalize partsTo l s0 k = ps at HYS HNO hpl hown
          generalize rl l k = r at c0 c1 HYS HNO hq1 hq2 HNA
          obtain ⟨r0, r1⟩ := r
          simp only at HYS HNO hq1 hq2 c0 c1 HNA
          have HB : Hid (sub r0 (s0 : Int) = decide (r0.toNat &&& s0 = r0.toNat)) := Lib.hid (by rw [sub_le hq1 ⟨by omega, by omega⟩, Int.toNat_natCast])
          have HSUB := Lib.hid fun w => impl_sub r0 (s0 : Int) w
          obtain ⟨M, hM⟩ : ∃ M, ps.length = M := ⟨_, rfl⟩
          have HMM := Lib.hid hM
          rw [hM] at hown hpl
          clear hM
          obtain ⟨av, cv, hov⟩ := rowP_form hown.out
          subst hov
          cases hd : sub r0 (s0 : Int) with
          | false =>
            rw [hd] at HSUB
            have HE := Lib.hid (HNO.out (of_decide_eq_false (HB.out.symm.trans hd)))
            clear hd
            go_wp2_with fail
            refine (HSUB.out _).mono ?_
            rintro e w' ⟨rfl, hw⟩
            subst w'
            have HO2 := Lib.hid (hown.out.alloc (.cells #[.int .i64 r0, .int .i64 r1] 43))
            go_wp2_with fail
            go_roundw
            case rel => exact ⟨k + 1, _, q.alloc _, by omega, by simp, rfl, by rw [HE.out, HMM.out]; exact HO2, rfl⟩
            case measure => simp [intOf]; omega
          | true =>
            rw [hd] at HSUB
            have HE := Lib.hid (HYS.out (of_decide_eq_true (HB.out.symm.trans hd)))
            clear hd
            have HK1 : Hid (M + 1 ≤ maxLen) := Lib.hid (by unfold maxLen; omega)
            have HK2 : Hid ((M + 1) * 8 ≤ 140737488355328) := Lib.hid (by omega)
            go_wp2_with fail
            refine (HSUB.out _).mono ?_
            rintro e w' ⟨rfl, hw⟩
            subst w'
            go_wp2_with (at_builtin; refine wpList_append_lies _ rfl _ _ _ rfl w.heap.size 3 i0 (.int .i64 0) 1 8 Try.underlying24 hinf hz0 hz1 hz2 rfl (by decide) _ M _ rfl ((hown.out.alloc _).alloc _) ⟨q.w.heap.size + 1, 0, none⟩ 1 1 [.int .i64 r1] rfl rfl (news2' _ _ _ _ (by simp)) (one1' _) Nat.one_pos HK1.out HK2.out (by simp; omega) _ rfl ?_)
            intro g cap w4 hown4 hgrow hat hlt4
            have HP4 : Hid (∃ q4 : Past w, q4.w = w4) := Lib.hid ⟨⟨w4, ((q.h.alloc q.size _).alloc (q.alloc _).size _).grown hgrow ((q.alloc _).alloc _).size (fun j hj => (hown.out.lt j hj).1)⟩, rfl⟩
            obtain ⟨q4, rfl⟩ := HP4.out
            have HO4 : Hid (q4.w.ownsRow w.heap.size 3 1 (.slice (some ⟨g, 0, none⟩) (M + 1) cap) (M + 1) (ints (asInts (ps ++ [r1.toNat])))) := Lib.hid (by
              have h := hown4
              rw [HNA.out] at h
              simpa [ints, asInts] using h)
            clear hown4 hgrow hat HP4
            go_wp2_with fail
            go_roundw
            case rel => exact ⟨k + 1, _, q4, by omega, by simp, rfl, by rw [HE.out, List.length_append, HMM.out]; exact HO4, rfl⟩
            case measure => simp [intOf]; omega
        · have HK := Lib.hid (show k = m by omega)
          have hrow := hown.out
          have HKK := HK.out
          subst HKK
          obtain ⟨av, cv, hov⟩ := rowP_form hown.out
          subst hov
          have HJ := Lib.hid (impl_joined _ _ q.w.heap.size q.w (Mem.Own.made hrow).reads HPL.out)
          rw [HPJ.out] at HJ
          have HON : Hid (oneTo l s0 k = oneN l s0) := Lib.hid (by rw [← HM.out]; rfl)
          have hbb := q.h
          clear hrow
          go_wp2_with fail
          refine HJ.out.mono ?_
          rintro e w' ⟨rfl, hw⟩
          subst w'
          go_wp2_with fail
          go_ret
          exact ⟨by rw [HX.out, ← HON.out]; rfl, hbb⟩
set_option maxHeartbeats 3200000 in
theorem impl_isDirect (n : Int) (v : Value) (l : List PInt) (B : Nat) (w : World) (hr : ReadsP w B v l) (hB : B ≤ w.heap.size) :
    Calls Try.prog 39 #[.int .i64 n, v] w fun e w' => e = .returned (.bool (isDirect n l)) ∧ Below w.heap.size w w' := by
  have HA := Lib.hid ((Past.start w).of (impl_areRules n v l B w hr hB))
  cases ha : areR n l with
  | false =>
    have HX : Hid (isDirect n l = false) := Lib.hid (by rw [isDirect, ha]; rfl)
    rw [ha] at HA
    clear ha hr
    go_enter Try.func39, Try.ntmps39
    go_wp2_with fail
    refine HA.out.mono ?_
    rintro e _ ⟨rfl, p, rfl⟩
    have hbb := p.h
    go_wp2_with fail
    go_ret
    exact ⟨by rw [HX.out]; rfl, hbb⟩
  | true =>
    have hnn := Infer.areR_nn ha
    obtain ⟨n, rfl⟩ := Int.eq_ofNat_of_zero_le hnn.1
    have hn8 : n ≤ 8 := by omega
    have hN8 : 2 ^ n ≤ 256 := pow_le8 hn8
    have h8 := allIn_to8 (areR_all ha)
    have hl40 := (Infer.areR_nn ha).2.2
    have H1 := Lib.hid fun (q : Past w) (x : Nat) (hx : x < 256) => q.of (impl_oneStep v l x B q.w (hr.below q.h hB) (Nat.le_trans hB q.size) (by omega))
    have H2 := Lib.hid fun (q : Past w) (x : Nat) (hx : x < 256) => q.of (impl_closedBy v l x B q.w (hr.below q.h hB) (Nat.le_trans hB q.size))
    have e1 : ∀ x : Nat, x < 256 → oneStep l (x : Int) = ((oneN l x : Nat) : Int) := fun x hx => by rw [oneStep, if_pos ⟨h8, isSet8_true (by omega)⟩, Int.toNat_natCast]
    have e2 : ∀ x : Nat, x < 256 → closedBy l (x : Int) = ((Rule.cl l x : Nat) : Int) := fun x hx => by rw [closedBy, if_pos ⟨h8, isSet8_true (by omega)⟩, Int.toNat_natCast]
    have HY := Lib.hid fun h => isDirect_yes ha h
    have HN := Lib.hid fun x hx h => isDirect_no (n := n) (l := l) (x := x) hx h
    have hsh : wrap64 (2 ^ n) = ((2 ^ n : Nat) : Int) := sh64' n hn8
    have HE1 := Lib.hid e1
    have HE2 := Lib.hid e2
    rw [ha] at HA
    rw [Int.toNat_natCast] at HY HN
    have HPN := Lib.hid hsh
    clear ha hr h8 hnn e1 e2 hl40 hsh
    go_enter Try.func39, Try.ntmps39
    go_wp2_with fail
    refine HA.out.mono ?_
    rintro e _ ⟨rfl, p0, rfl⟩
    go_wp2_with fail
    simp only [HPN.out]
    clear HPN
    generalize 2 ^ n = N at hN8 HY HN ⊢
    go_loopw [12] (fun i wr => ∃ k : Nat, k ≤ N ∧ i = .int .i64 k ∧ Hid (∀ x, x < k → oneN l x = Rule.cl l x) ∧ ∃ p : Past w, wr = p.w) (fun i _ => N - (intOf i).toNat)
    case atStart => exact ⟨0, Nat.zero_le _, rfl, Lib.hid (fun x hx => absurd hx (Nat.not_lt_zero x)), p0, rfl⟩
    case round =>
      obtain ⟨k, hk, rfl, hall, p, rfl⟩ := hrel
      by_cases hlt : k < N
      · have hk256 : k < 256 := by omega
        have HC1 := Lib.hid fun q : Past w => H1.out q k hk256
        have HC2 := Lib.hid fun q : Past w => H2.out q k hk256
        rw [HE1.out k hk256] at HC1
        rw [HE2.out k hk256] at HC2
        have HS : Hid (oneN l k = Rule.cl l k → ∀ x, x < k + 1 → oneN l x = Rule.cl l x) := Lib.hid fun h x hx => by
          by_cases he : x = k
          · rw [he]; exact h
          · exact hall.out x (by omega)
        have HNK := Lib.hid fun h => HN.out k hlt h
        generalize oneN l k = y at HC1 HNK HS
        generalize Rule.cl l k = z at HC2 HNK HS
        by_cases he : y = z
        · have hd : (((y : Nat) : Int) != ((z : Nat) : Int)) = false := by rw [he]; simp
          have HA := Lib.hid (HS.out he)
          clear he
          go_wp2_with fail
          refine (HC1.out p).mono ?_
          rintro e _ ⟨rfl, p1, rfl⟩
          go_wp2_with fail
          refine (HC2.out p1).mono ?_
          rintro e _ ⟨rfl, p2, rfl⟩
          go_wp2_with fail
          go_roundw
          case rel => exact ⟨k + 1, by omega, by simp, HA, p2, rfl⟩
          case measure => simp [intOf]; omega
        · have hd : (((y : Nat) : Int) != ((z : Nat) : Int)) = true := by simp; omega
          have HX := Lib.hid (HNK.out he)
          clear he
          go_wp2_with fail
          refine (HC1.out p).mono ?_
          rintro e _ ⟨rfl, p1, rfl⟩
          go_wp2_with fail
          refine (HC2.out p1).mono ?_
          rintro e _ ⟨rfl, p2, rfl⟩
          have hbb := p2.h
          go_wp2_with fail
          go_ret
          exact ⟨by rw [HX.out]; rfl, hbb⟩
      · have HX : Hid (isDirect n l = true) := Lib.hid (HY.out fun x hx => hall.out x (by omega))
        have hbb := p.h
        go_wp2_with fail
        go_ret
        exact ⟨by rw [HX.out]; rfl, hbb⟩
set_option maxHeartbeats 6400000 in
theorem impl_own (a : Int) (v : Value) (rs : List Int) (s : Nat) (B : Nat) (w : World) (hr : Reads w B v (ints rs)) (hB : B ≤ w.heap.size) (hc : isCtx a rs = true) (hs : s < 2 ^ a.toNat) :
    Calls Try.prog 78 #[ctx a v, .int .i64 s] w fun e w' => e = .returned (.int .i64 (newTo (clo a rs) s a.toNat : Nat)) ∧ Below w.heap.size w w' := by
  obtain ⟨aa, ca, rfl⟩ := reads_form hr
  have hW := (Below.refl w.heap.size w).alloc (Nat.le_refl _) (.cells #[.int .i64 a, .slice aa rs.length ca] 26)
  have HR1 := Lib.hid (hr.below hW hB)
  have q0 : (w.alloc (.cells #[.int .i64 a, .slice aa rs.length ca] 26)).cell? ⟨w.heap.size, 0, none⟩ = some (.int .i64 a) := by simp
  have q1 : (w.alloc (.cells #[.int .i64 a, .slice aa rs.length ca] 26)).cell? ⟨w.heap.size, 1, none⟩ = some (.slice aa rs.length ca) := by simp
  have hz : w.heap.size < (w.alloc (.cells #[.int .i64 a, .slice aa rs.length ca] 26)).heap.size := by simp
  have hp := isCtx_parts hc
  have C := clo_ok hc
  have hs256 : s < 256 := Nat.lt_of_lt_of_le hs (pow_le8 C.n8)
  have HCLT : Hid (∀ x, clo a rs x < 256) := Lib.hid fun x => clo_256 C x
  have HNEW := Lib.hid (own_new C hs)
  have HCN : Hid (∀ x : Nat, x < 2 ^ a.toNat → closure a rs (x : Int) = ((clo a rs x : Nat) : Int)) := Lib.hid (by
    obtain ⟨n, rfl⟩ := Int.eq_ofNat_of_zero_le hp.1
    intro x hx
    exact closure_nat hc (by simpa using hx))
  clear hr hc C hp
  go_enter Try.func78, Try.ntmps78
  go_upto_region 1 with fail
  generalize w.alloc (.cells #[.int .i64 a, .slice aa rs.length ca] 26) = W at HR1 hW q0 q1 hz ⊢
  have hBW : B ≤ W.heap.size := by omega
  have k0 := fun p : Past W => Past.cell q0 (by show w.heap.size < _; omega) p
  have k1 := fun p : Past W => Past.cell q1 (by show w.heap.size < _; omega) p
  have HBW := Lib.hid hW
  have HC := Lib.hid fun (p : Past W) (x : Nat) => p.ofB (impl_closure a (.slice aa rs.length ca) rs (x : Int) B p.w (Past.reads HR1.out hBW p) (Nat.le_trans hBW p.size))
  have HEL := Lib.hid (Elems.impl_elems (s : Int) W)
  rw [elems_nat s hs256] at HEL
  have hel := els_len s
  have HEM := Lib.hid fun e (h : e ∈ elsN s 8) => els_mem.1 h
  clear hW q0 q1
  generalize elsN s 8 = es at HEL HNEW hel HEM
  go_wp2_with fail
  refine HEL.out.mono ?_
  rintro e V ⟨u, rfl, o1, b1⟩
  obtain ⟨al, cl, rfl, -, bl, ol, hal, hcell⟩ := reads_cells o1.reads
  have HKL := Lib.hid fun k => known_lt (cl := clo a rs) (s := s) (es := es) hs256 HCLT.out k
  have HKS := Lib.hid fun k => known_succ (clo a rs) s es k
  obtain ⟨m, hm⟩ : ∃ m, es.length = m := ⟨_, rfl⟩
  have HEM2 := Lib.hid fun j (hj : j < m) => HEM.out (es.getD j 0) (by rw [List.getD_eq_getElem?_getD, List.getElem?_eq_getElem (by omega)]; exact List.getElem_mem (by omega))
  rw [hm] at HNEW hel hal hcell ⊢
  have HB1 := Lib.hid b1
  have hVz : W.heap.size ≤ V.heap.size := b1.size
  have j0 : ∀ p : Past V, p.w.cell? ⟨w.heap.size, 0, none⟩ = some (.int .i64 a) := fun p => k0 ⟨p.w, b1.trans (p.h.mono hVz)⟩
  have j1 : ∀ p : Past V, p.w.cell? ⟨w.heap.size, 1, none⟩ = some (.slice aa rs.length ca) := fun p => k1 ⟨p.w, b1.trans (p.h.mono hVz)⟩
  have HCV := Lib.hid fun (p : Past V) (x : Nat) (hx : x < 2 ^ a.toNat) => p.ofB ((HC.out ⟨p.w, b1.trans (p.h.mono hVz)⟩ x).mono (fun _ _ ⟨h1, q, h2, h3⟩ => ⟨h1.trans (by rw [HCN.out x hx]), h2 ▸ h3⟩))
  have HCE := Lib.hid hcell
  clear o1 b1 hcell HEL hm HEM HC HR1 k0 k1
  go_wp2_with fail
  go_loopw [5, 12] (fun kv i wr => ∃ (k : Nat) (p : Past V), k ≤ m ∧ i = .int .i64 k ∧ kv = .int .i64 ((knownTo (clo a rs) s es k : Nat) : Int) ∧ wr = p.w) (fun _ i _ => m - (intOf i).toNat)
  case atStart => exact ⟨0, Past.start V, Nat.zero_le _, rfl, rfl, rfl⟩
  case round =>
    obtain ⟨k, p, hk, rfl, rfl, rfl⟩ := hrel
    have kp0 := j0 p
    have kp1 := j1 p
    by_cases hlt : k < m
    · obtain ⟨rfl, hbl⟩ := hal (by omega)
      have ce := Past.cell (HCE.out k hlt) hbl p
      have he := HEM2.out k hlt
      have hy := HKL.out k
      have HST := Lib.hid (HKS.out k)
      generalize es.getD k 0 = e at ce he HST
      generalize knownTo (clo a rs) s es k = y at hy HST
      have HAND := Lib.hid (andNot_drop s hs256 e he.1 he.2)
      have HCX := Lib.hid (HCV.out p.drew (s - 2 ^ e) (Nat.lt_of_le_of_lt (Nat.sub_le _ _) hs))
      have hx := HCLT.out (s - 2 ^ e)
      rw [← HAND.out] at HCX
      generalize clo a rs (s - 2 ^ e) = x at HCX hx HST
      have HJ := Lib.hid fun p : Past V => joined_two y x 3 p.w hy hx
      have he8 := he.1
      have d0 := j0 p.drew
      have d1 := j1 p.drew
      clear he hy hx HAND
      go_wp2_with fail
      go_region_held3 (fun wx => wx.cell? ⟨w.heap.size, 0, none⟩ = some (.int .i64 a) ∧ wx.cell? ⟨w.heap.size, 1, none⟩ = some (.slice aa rs.length ca))
        (first | with_reducible exact ⟨d0, d1⟩ | with_reducible exact ⟨j0 p2, j1 p2⟩ | with_reducible exact ⟨j0 (p2.alloc _), j1 (p2.alloc _)⟩ | fail)
        (first
          | (go_at_call 58; (with_reducible refine HCX.out.mono ?_); rintro e _ ⟨rfl, p2, rfl, b2⟩)
          | (go_at_call 88; (with_reducible refine (HJ.out p2).mono ?_); rintro e w3 ⟨rfl, hw3⟩; subst w3))
      go_wp2_with fail
      go_roundw
      case rel => exact ⟨k + 1, p2.alloc _, by omega, by simp, by rw [HST.out], rfl⟩
      case measure => simp [intOf]; omega
    · have HK := Lib.hid (show k = m by omega)
      have hy := HKL.out k
      have HN := HNEW.out
      rw [← HK.out] at HN
      have HCS := Lib.hid (HCV.out p s hs)
      have hc0 := HCLT.out s
      generalize knownTo (clo a rs) s es k = y at hy HN
      generalize clo a rs s = c0 at HCS hc0 HN
      have hand := andNot_minus c0 y hc0
      have HNN := Lib.hid HN
      clear HN
      go_wp2_with fail
      refine HCS.out.mono ?_
      rintro e _ ⟨rfl, p2, rfl, b2⟩
      have hbb := HBW.out.trans ((HB1.out.trans (p2.h.mono hVz)).mono (by omega))
      go_wp2_with fail
      go_ret
      exact ⟨by rw [← HNN.out]; rfl, hbb⟩
set_option maxHeartbeats 6400000 in
theorem impl_direct (a : Int) (v : Value) (rs : List Int) (B : Nat) (w : World) (hr : Reads w B v (ints rs)) (hB : B ≤ w.heap.size) :
    Calls Try.prog 31 #[ctx a v] w fun e w' => ∃ u, e = .returned u ∧ OwnP 43 w' w.heap.size w'.heap.size u (directBase a rs) ∧ Below w.heap.size w w' := by
  obtain ⟨i0, hinf, hz0, hz1, hz2⟩ := info_parts PRule.infoT
  obtain ⟨aa, ca, rfl⟩ := reads_form hr
  have hW := (Below.refl w.heap.size w).alloc (Nat.le_refl _) (.cells #[.int .i64 a, .slice aa rs.length ca] 26)
  have HR1 := Lib.hid (hr.below hW hB)
  have q0 : (w.alloc (.cells #[.int .i64 a, .slice aa rs.length ca] 26)).cell? ⟨w.heap.size, 0, none⟩ = some (.int .i64 a) := by simp
  have q1 : (w.alloc (.cells #[.int .i64 a, .slice aa rs.length ca] 26)).cell? ⟨w.heap.size, 1, none⟩ = some (.slice aa rs.length ca) := by simp
  have hz : w.heap.size < (w.alloc (.cells #[.int .i64 a, .slice aa rs.length ca] 26)).heap.size := by simp
  clear hr
  go_enter Try.func31, Try.ntmps31
  go_wp2_with fail
  generalize w.alloc (.cells #[.int .i64 a, .slice aa rs.length ca] 26) = W at HR1 hW q0 q1 hz ⊢
  have hBW : B ≤ W.heap.size := by omega
  have k0 := fun p : Past W => Past.cell q0 (by show w.heap.size < _; omega) p
  have k1 := fun p : Past W => Past.cell q1 (by show w.heap.size < _; omega) p
  have HBW := Lib.hid hW
  clear q0 q1 hW
  refine ((Past.start W).of (impl_isCtx a _ rs B W HR1.out hBW)).mono ?_
  rintro e _ ⟨rfl, p, rfl⟩
  have kp0 := k0 p
  have kp1 := k1 p
  have hpz := p.size
  cases hic : isCtx a rs with
  | false =>
    have HX : Hid (directBase a rs = []) := Lib.hid (by rw [directBase, if_neg (by rw [hic]; decide)])
    have HO := Lib.hid (ownP_nil 43 p.w w.heap.size)
    have hbb := HBW.out.trans (p.h.mono (by omega))
    clear hic
    go_wp2_with fail
    go_ret
    exact ⟨_, rfl, by rw [HX.out]; exact HO.out, hbb⟩
  | true =>
    have h6 := isCtx_parts hic
    obtain ⟨n, rfl⟩ := Int.eq_ofNat_of_zero_le h6.1
    have hn6 : n ≤ 6 := by omega
    have hN64 := pow6 hn6
    have HALL := Lib.hid (found_all hic)
    have HX : Hid (directBase (n : Int) rs = dirOf (n : Int) rs) := Lib.hid (by rw [directBase, if_pos hic])
    have HLX := Lib.hid (impl_lectic n p.w hn6)
    have HLT : Hid (∀ k, k < 2 ^ n → (lecN n).getD k 0 < 2 ^ n) := Lib.hid fun k hk => by rw [lecN_get hk]; exact layTo_lt (Nat.le_refl _)
    have HLE := Lib.hid fun k => found_len (clo (n : Int) rs) n (lecN n) k
    have HST := Lib.hid fun k => found_succ (clo (n : Int) rs) n (lecN n) k
    have HOWN := Lib.hid fun (q : Past W) (x : Nat) (hx : x < 2 ^ n) => q.ofB (impl_own (n : Int) (.slice aa rs.length ca) rs x B q.w (Past.reads HR1.out hBW q) (Nat.le_trans hBW q.size) hic (by rw [Int.toNat_natCast]; exact hx))
    rw [Int.toNat_natCast] at HALL HOWN
    clear hic h6 HR1
    generalize 2 ^ n = N at hN64 HLX HLT HALL HOWN
    go_wp2_with fail
    refine HLX.out.mono ?_
    rintro e V ⟨gl, ccl, rfl, hgl, hgl2, hcl, b2⟩
    have hVz : p.w.heap.size ≤ V.heap.size := b2.size
    have hWV : W.heap.size ≤ V.heap.size := by omega
    have HVW := Lib.hid (p.h.trans (b2.mono hpz))
    have V2 := Lib.hid fun (q : Past V) (k : Nat) (hk : k < N) => Past.cell (hcl k hk) (by show gl < _; omega) q
    have j0 : ∀ q : Past V, q.w.cell? ⟨w.heap.size, 0, none⟩ = some (.int .i64 (n : Int)) := fun q => k0 ⟨q.w, HVW.out.trans (q.h.mono hWV)⟩
    have j1 : ∀ q : Past V, q.w.cell? ⟨w.heap.size, 1, none⟩ = some (.slice aa rs.length ca) := fun q => k1 ⟨q.w, HVW.out.trans (q.h.mono hWV)⟩
    have HCV := Lib.hid fun (q : Past V) (x : Nat) (hx : x < N) => q.ofB ((HOWN.out ⟨q.w, HVW.out.trans (q.h.mono hWV)⟩ x hx).mono (fun _ _ ⟨h1, q', h2, h3⟩ => ⟨h1, h2 ▸ h3⟩))
    clear b2 hcl HLX HOWN kp0 kp1 k0 k1
    go_wp2_with fail
    go_loopw [3, 14] (fun ov i wr => ∃ (k : Nat) (u0 : Value) (q : Past V), k ≤ N ∧ i = .int .i64 k ∧ ov = u0 ∧ Hid (q.w.ownsRow V.heap.size 43 2 u0 (foundTo (clo (n : Int) rs) n (lecN n) k).length (prs (foundTo (clo (n : Int) rs) n (lecN n) k))) ∧ wr = q.w) (fun _ i _ => N - (intOf i).toNat)
    case atStart => exact ⟨0, _, Past.start V, Nat.zero_le _, rfl, rfl, Lib.hid (World.ownsRow_nil _ _ _ _), rfl⟩
    case round =>
      obtain ⟨k, u0, q, hk, rfl, rfl, hown, rfl⟩ := hrel
      have hqz := q.size
      have kq0 := j0 q
      have kq1 := j1 q
      by_cases hlt : k < N
      · have hx := HLT.out k hlt
        have cx := V2.out q k hlt
        have HSTP := Lib.hid (HST.out k)
        have hlen := HLE.out k
        obtain ⟨l, hl⟩ : ∃ l, foundTo (clo (n : Int) rs) n (lecN n) k = l := ⟨_, rfl⟩
        rw [hl] at HSTP hown hlen
        obtain ⟨m, hm⟩ : ∃ m, l.length = m := ⟨_, rfl⟩
        have HM := Lib.hid hm
        rw [hm] at hown hlen
        generalize (lecN n).getD k 0 = x at hx cx HSTP
        have HCL := Lib.hid (HCV.out q x hx)
        obtain ⟨av, cv, hov⟩ := rowP_form hown.out
        subst hov
        clear hl hm
        generalize newTo (clo (n : Int) rs) x n = y at HCL HSTP
        go_wp2_with fail
        refine HCL.out.mono ?_
        rintro e _ ⟨rfl, q2, rfl, b2⟩
        have hown2 := Lib.hid (rowP_same hown.out fun g hg => b2.block g (hown.out.lt g hg).2)
        clear b2 HCL
        by_cases hy0 : y = 0
        · have hd : (((y : Nat) : Int) != 0) = false := by rw [hy0]; rfl
          have HE : Hid (foundTo (clo (n : Int) rs) n (lecN n) (k + 1) = l) := Lib.hid (by rw [HSTP.out, if_neg (fun h => h hy0)])
          clear hy0
          go_wp2_with fail
          go_roundw
          case rel => exact ⟨k + 1, _, q2, by omega, by simp, rfl, Lib.hid (by rw [HE.out, HM.out]; exact hown2.out), rfl⟩
          case measure => simp [intOf]; omega
        · have hd : (((y : Nat) : Int) != 0) = true := by simp; omega
          have HE : Hid (foundTo (clo (n : Int) rs) n (lecN n) (k + 1) = l ++ [((x : Int), (y : Int))]) := Lib.hid (by rw [HSTP.out, if_pos hy0])
          clear hy0
          have hq2 := q2.size
          have HK1 : Hid (m + 1 ≤ maxLen) := Lib.hid (by unfold maxLen; omega)
          have HK2 : Hid ((m + 1) * 16 ≤ 140737488355328) := Lib.hid (by omega)
          go_wp2_with (at_builtin; refine wpList_append_lies _ rfl _ _ _ rfl V.heap.size 43 i0 (.agg #[.int .i64 0, .int .i64 0]) 2 16 Try.underlying28 hinf hz0 hz1 hz2 rfl (by decide) _ m _ rfl (hown2.out.alloc _) ⟨q2.w.heap.size, 0, none⟩ 1 1 (prs [((x : Int), (y : Int))]) rfl rfl (newsQ _ _ _ _) (oneQ _) Nat.one_pos HK1.out HK2.out (by simp; omega) _ rfl ?_)
          intro g2 cap w4 hown4 hgrow hat hlt4
          have HP4 : Hid (∃ q4 : Past V, q4.w = w4) := Lib.hid ⟨⟨w4, (q2.h.alloc q2.size _).grown hgrow (q2.alloc _).size (fun j hj => (hown2.out.lt j hj).1)⟩, rfl⟩
          obtain ⟨q4, rfl⟩ := HP4.out
          have HO4 := Lib.hid hown4
          clear hown4 hgrow hat HP4
          go_wp2_with fail
          go_roundw
          case rel => exact ⟨k + 1, _, q4, by omega, by simp, rfl, Lib.hid (by rw [HE.out, prs_app, List.length_append, HM.out]; exact HO4.out), rfl⟩
          case measure => simp [intOf]; omega
      · have HK := Lib.hid (show k = N by omega)
        have hrow := hown.out
        rw [HK.out, HALL.out, ← HX.out] at hrow
        have HO := Lib.hid (OwnP.made hrow)
        have hbb := HBW.out.trans ((HVW.out.trans (q.h.mono hWV)).mono (by omega))
        obtain ⟨av, cv, hov⟩ := rowP_form hown.out
        subst hov
        clear hrow
        go_wp2_with fail
        go_ret
        exact ⟨_, rfl, HO.out.mono (by omega) (Nat.le_refl _), hbb⟩
theorem impl_prem (a : Int) (v : Value) (rs : List Int) (B : Nat) (w : World) (hr : Reads w B v (ints rs)) (hB : B ≤ w.heap.size) :
    Calls Try.prog 32 #[ctx a v] w fun e w' => ∃ u, e = .returned u ∧ Mem.Own 3 w' w.heap.size w'.heap.size u (ints (properPremises a rs)) ∧ Below w.heap.size w w' := by
  obtain ⟨aa, ca, rfl⟩ := reads_form hr
  have hW := (Below.refl w.heap.size w).alloc (Nat.le_refl _) (.cells #[.int .i64 a, .slice aa rs.length ca] 26)
  have HR1 := Lib.hid (hr.below hW hB)
  have q0 : (w.alloc (.cells #[.int .i64 a, .slice aa rs.length ca] 26)).cell? ⟨w.heap.size, 0, none⟩ = some (.int .i64 a) := by simp
  have q1 : (w.alloc (.cells #[.int .i64 a, .slice aa rs.length ca] 26)).cell? ⟨w.heap.size, 1, none⟩ = some (.slice aa rs.length ca) := by simp
  have hz : w.heap.size < (w.alloc (.cells #[.int .i64 a, .slice aa rs.length ca] 26)).heap.size := by simp
  clear hr
  go_enter Try.func32, Try.ntmps32
  go_wp2_with fail
  generalize w.alloc (.cells #[.int .i64 a, .slice aa rs.length ca] 26) = W at HR1 hW q0 q1 hz ⊢
  have hBW : B ≤ W.heap.size := by omega
  have HBW := Lib.hid hW
  clear q0 q1 hW
  refine (impl_direct a _ rs B W HR1.out hBW).mono ?_
  rintro e V ⟨u, rfl, o1, b1⟩
  have hVz := b1.size
  have HBV := Lib.hid (HBW.out.trans (b1.mono (by omega)))
  have HP := Lib.hid (impl_premises u (directBase a rs) V.heap.size V o1.reads (Nat.le_refl _) (by have := prem_len a rs; have := base_prem_len a rs; omega))
  rw [direct_fst] at HP
  clear b1 o1
  go_wp2_with fail
  refine HP.out.mono ?_
  rintro e w2 ⟨u2, rfl, o2, b2⟩
  have hbb := HBV.out.trans (b2.mono (by omega))
  go_wp2_with fail
  go_ret
  exact ⟨_, rfl, o2.mono (by omega) (Nat.le_refl _), hbb⟩
end Go.Proofs.Ythodmmckekgkdaa.Direct
