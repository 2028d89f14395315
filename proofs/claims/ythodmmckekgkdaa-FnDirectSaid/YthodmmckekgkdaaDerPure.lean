/-
  Chapter 4's functions as functions of numbers: the attributes common to a set of objects, the objects that have a set of attributes, and the two ways of counting the latter.
-/
import Derived.Test.YthodmmckekgkdaaCtx
namespace Go.Proofs.Ythodmmckekgkdaa.Ctx
open Go Go.RowKit Mem Sets
set_option maxRecDepth 100000

theorem nat_bits {x y : Nat} (h : ∀ j, x.testBit j = true ↔ y.testBit j = true) : x = y := by
  apply Nat.eq_of_testBit_eq
  intro j
  rw [Bool.eq_iff_iff]
  exact h j
theorem bit_lt {x n j : Nat} (hx : x < 2 ^ n) (h : x.testBit j = true) : j < n := by
  apply Classical.byContradiction
  intro hn
  rw [Nat.testBit_lt_two_pow (Nat.lt_of_lt_of_le hx (Nat.pow_le_pow_right (by omega) (by omega)))] at h
  simp at h
theorem col_bit (rs : List Int) (m : Int) (k g : Nat) : (colTo rs m k).testBit g = (decide (g < k) && bit (rs.getD g 0) m) := by
  induction k with
  | zero => simp [colTo]
  | succ k ih =>
    unfold colTo
    by_cases hb : bit (rs.getD k 0) m = true
    · rw [if_pos hb, Nat.testBit_or, ih, Nat.testBit_two_pow]
      by_cases hg : k = g
      · subst hg; simp at hb ⊢; exact hb
      · have : decide (g < k + 1) = decide (g < k) := by rw [decide_eq_decide]; omega
        simp [hg, this]
    · rw [if_neg hb, ih]
      by_cases hg : k = g
      · subst hg; simp at hb ⊢; exact hb
      · have : decide (g < k + 1) = decide (g < k) := by rw [decide_eq_decide]; omega
        rw [this]
theorem isSet_of_nat {a : Int} {x : Nat} (h0 : 0 ≤ a) (ha : a ≤ 8) (hx : x < 2 ^ a.toNat) : isSet a (x : Int) = true := by
  simp only [isSet, decide_eq_true_eq]
  refine ⟨⟨h0, ha⟩, by omega, ?_⟩
  have e : ((2 : Int) ^ a.toNat) = ((2 ^ a.toNat : Nat) : Int) := by simp
  rw [e]
  omega
theorem isSet_to_nat {a x : Int} (h : isSet a x = true) : ∃ n : Nat, x = n ∧ n < 2 ^ a.toNat ∧ 0 ≤ a ∧ a ≤ 8 := by
  simp only [isSet, decide_eq_true_eq] at h
  obtain ⟨⟨h0, h1⟩, h2, h3⟩ := h
  obtain ⟨n, rfl⟩ := Int.eq_ofNat_of_zero_le h2
  have e : ((2 : Int) ^ a.toNat) = ((2 ^ a.toNat : Nat) : Int) := by simp
  rw [e] at h3
  have := Nat.pow_pos (n := a.toNat) (show 0 < 2 by omega)
  exact ⟨n, rfl, by omega, h0, h1⟩
theorem full_nat {a : Int} (h0 : 0 ≤ a) (h8 : a ≤ 8) : full a = ((2 ^ a.toNat - 1 : Nat) : Int) := by
  rw [full, if_pos ⟨h0, h8⟩]
  rcases cases9 ⟨h0, h8⟩ with rfl | rfl | rfl | rfl | rfl | rfl | rfl | rfl | rfl <;> rfl
theorem pow_le8 {n : Nat} (h : n ≤ 8) : 2 ^ n ≤ 256 := Nat.pow_le_pow_right (n := 2) (by omega) h

/-- The attributes common to the first k objects as far as they are in s. -/
def intTo (a : Int) (rs : List Int) (s : Int) : Nat → Nat
  | 0 => 2 ^ a.toNat - 1
  | k + 1 => if bit s k then intTo a rs s k &&& (rs.getD k 0).toNat else intTo a rs s k
theorem intTo_lt (a : Int) (rs : List Int) (s : Int) (k : Nat) : intTo a rs s k < 2 ^ a.toNat := by
  induction k with
  | zero => have := Nat.pow_pos (n := a.toNat) (show 0 < 2 by omega); simp only [intTo]; omega
  | succ k ih =>
    unfold intTo
    split
    · exact Nat.lt_of_le_of_lt Nat.and_le_left ih
    · exact ih
theorem intTo_bit (a : Int) (rs : List Int) (s : Int) (k j : Nat) : (intTo a rs s k).testBit j = (decide (j < a.toNat) && decide (∀ g, g < k → bit s g = true → bit (rs.getD g 0) j = true)) := by
  induction k with
  | zero => simp [intTo, Nat.testBit_two_pow_sub_one]
  | succ k ih =>
    unfold intTo
    by_cases hb : bit s k = true
    · rw [if_pos hb, Nat.testBit_and, ih, Bool.and_assoc]
      congr 1
      have hx : (rs.getD k 0).toNat.testBit j = bit (rs.getD k 0) j := rfl
      rw [hx]
      by_cases hr : bit (rs.getD k 0) j = true
      · rw [hr, Bool.and_true, decide_eq_decide]
        refine ⟨fun h g hg hs => ?_, fun h g hg hs => h g (by omega) hs⟩
        rcases Nat.lt_or_eq_of_le (Nat.le_of_lt_succ hg) with h' | rfl
        · exact h g h' hs
        · exact hr
      · rw [show bit (rs.getD k 0) j = false by simpa using hr, Bool.and_false]
        symm
        rw [decide_eq_false_iff_not]
        exact fun h => hr (h k (by omega) hb)
    · rw [if_neg hb, ih]
      congr 1
      rw [decide_eq_decide]
      refine ⟨fun h g hg hs => ?_, fun h g hg hs => h g (by omega) hs⟩
      rcases Nat.lt_or_eq_of_le (Nat.le_of_lt_succ hg) with h' | rfl
      · exact h g h' hs
      · exact absurd hs hb

/-- The objects among the first k whose rows hold s. -/
def extTo (rs : List Int) (s : Int) : Nat → Nat
  | 0 => 0
  | k + 1 => if (rs.getD k 0).toNat &&& s.toNat = s.toNat then extTo rs s k ||| 2 ^ k else extTo rs s k
theorem extTo_lt (rs : List Int) (s : Int) (k : Nat) : extTo rs s k < 2 ^ k := by
  induction k with
  | zero => simp [extTo]
  | succ k ih =>
    have h1 : 2 ^ k < 2 ^ (k + 1) := Nat.pow_lt_pow_right (by omega) (by omega)
    unfold extTo
    split
    · exact Nat.or_lt_two_pow (by omega) h1
    · omega
theorem extTo_bit (rs : List Int) (s : Int) (k g : Nat) : (extTo rs s k).testBit g = (decide (g < k) && decide ((rs.getD g 0).toNat &&& s.toNat = s.toNat)) := by
  induction k with
  | zero => simp [extTo]
  | succ k ih =>
    unfold extTo
    by_cases hb : (rs.getD k 0).toNat &&& s.toNat = s.toNat
    · rw [if_pos hb, Nat.testBit_or, ih, Nat.testBit_two_pow]
      by_cases hg : k = g
      · subst hg; rw [decide_eq_true hb]; simp
      · have : decide (g < k + 1) = decide (g < k) := by rw [decide_eq_decide]; omega
        simp [hg, this]
    · rw [if_neg hb, ih]
      by_cases hg : k = g
      · subst hg; rw [decide_eq_false hb]; simp
      · have : decide (g < k + 1) = decide (g < k) := by rw [decide_eq_decide]; omega
        rw [this]
/-- The same objects, by the columns of the first m attributes as far as they are in s. -/
def exTo (rs : List Int) (s : Int) : Nat → Nat
  | 0 => 2 ^ rs.length - 1
  | m + 1 => if bit s m then exTo rs s m &&& colTo rs m rs.length else exTo rs s m
theorem exTo_lt (rs : List Int) (s : Int) (k : Nat) : exTo rs s k < 2 ^ rs.length := by
  induction k with
  | zero => have := Nat.pow_pos (n := rs.length) (show 0 < 2 by omega); simp only [exTo]; omega
  | succ k ih =>
    unfold exTo
    split
    · exact Nat.lt_of_le_of_lt Nat.and_le_left ih
    · exact ih
theorem exTo_bit (rs : List Int) (s : Int) (k g : Nat) : (exTo rs s k).testBit g = (decide (g < rs.length) && decide (∀ j, j < k → bit s j = true → bit (rs.getD g 0) j = true)) := by
  induction k with
  | zero => simp [exTo, Nat.testBit_two_pow_sub_one]
  | succ k ih =>
    unfold exTo
    by_cases hb : bit s k = true
    · rw [if_pos hb, Nat.testBit_and, ih, Bool.and_assoc, col_bit]
      by_cases hl : g < rs.length
      · rw [decide_eq_true hl, Bool.true_and, Bool.true_and, Bool.true_and]
        by_cases hr : bit (rs.getD g 0) k = true
        · rw [hr, Bool.and_true, decide_eq_decide]
          refine ⟨fun h j hj hs => ?_, fun h j hj hs => h j (by omega) hs⟩
          rcases Nat.lt_or_eq_of_le (Nat.le_of_lt_succ hj) with h' | rfl
          · exact h j h' hs
          · exact hr
        · rw [show bit (rs.getD g 0) k = false by simpa using hr, Bool.and_false]
          symm
          rw [decide_eq_false_iff_not]
          exact fun h => hr (h k (by omega) hb)
      · rw [decide_eq_false hl, Bool.false_and, Bool.false_and]
    · rw [if_neg hb, ih]
      congr 1
      rw [decide_eq_decide]
      refine ⟨fun h g hg hs => ?_, fun h g hg hs => h g (by omega) hs⟩
      rcases Nat.lt_or_eq_of_le (Nat.le_of_lt_succ hg) with h' | rfl
      · exact h g h' hs
      · exact absurd hs hb
theorem and_all {r s a : Nat} (hs : s < 2 ^ a) : r &&& s = s ↔ ∀ j, j < a → s.testBit j = true → r.testBit j = true := by
  constructor
  · intro h j _ hj
    rw [← h, Nat.testBit_and] at hj
    simp at hj
    exact hj.1
  · intro h
    apply Nat.eq_of_testBit_eq
    intro j
    rw [Nat.testBit_and]
    by_cases hj : s.testBit j = true
    · have : j < a := by
        apply Classical.byContradiction
        intro hn
        rw [Nat.testBit_lt_two_pow (Nat.lt_of_lt_of_le hs (Nat.pow_le_pow_right (by omega) (by omega)))] at hj
        simp at hj
      rw [hj, h j this hj]; rfl
    · simp [show s.testBit j = false by simpa using hj]
theorem exTo_ext {a : Int} (rs : List Int) {s : Int} (h : isSet a s = true) : exTo rs s a.toNat = extTo rs s rs.length := by
  obtain ⟨n, rfl, hn, -, -⟩ := isSet_to_nat h
  apply Nat.eq_of_testBit_eq
  intro g
  rw [exTo_bit, extTo_bit]
  congr 1
  rw [decide_eq_decide, Int.toNat_natCast, and_all hn]
  exact Iff.rfl

def intent (a : Int) (rs : List Int) (s : Int) : Int := if isCtx a rs = true ∧ isSet rs.length s = true then (intTo a rs s rs.length : Nat) else 0
def extent (a : Int) (rs : List Int) (s : Int) : Int := if isCtx a rs = true ∧ isSet a s = true then (extTo rs s rs.length : Nat) else 0
def closure (a : Int) (rs : List Int) (s : Int) : Int := if isCtx a rs = true ∧ isSet a s = true then (intTo a rs (extTo rs s rs.length : Nat) rs.length : Nat) else 0
def objClosure (a : Int) (rs : List Int) (s : Int) : Int := if isCtx a rs = true ∧ isSet rs.length s = true then (extTo rs (intTo a rs s rs.length : Nat) rs.length : Nat) else 0
def closed (a : Int) (rs : List Int) (s : Int) : Bool := isCtx a rs && isSet a s && (((intTo a rs (extTo rs s rs.length : Nat) rs.length : Nat) : Int) == s)
theorem extTo_isSet {a : Int} {rs : List Int} (hc : isCtx a rs = true) (s : Int) : isSet rs.length (extTo rs s rs.length : Nat) = true :=
  isSet_of_nat (by omega) (by have := (isCtx_parts hc).2.2.1; omega) (by rw [Int.toNat_natCast]; exact extTo_lt rs s _)
theorem intTo_isSet {a : Int} {rs : List Int} (hc : isCtx a rs = true) (s : Int) (k : Nat) : isSet a (intTo a rs s k : Nat) = true :=
  isSet_of_nat (isCtx_parts hc).1 (by have := (isCtx_parts hc).2.1; omega) (intTo_lt a rs s k)
theorem intTo_256 {a : Int} {rs : List Int} (hc : isCtx a rs = true) (s : Int) (k : Nat) : intTo a rs s k < 256 :=
  Nat.lt_of_lt_of_le (intTo_lt a rs s k) (pow_le8 (by have := isCtx_parts hc; omega))
theorem extTo_256 {a : Int} {rs : List Int} (hc : isCtx a rs = true) (s : Int) : extTo rs s rs.length < 256 :=
  Nat.lt_of_lt_of_le (extTo_lt rs s _) (pow_le8 (isCtx_parts hc).2.2.1)
theorem intent_extent {a : Int} {rs : List Int} {s : Int} (hc : isCtx a rs = true) (hs : isSet a s = true) : intent a rs (extent a rs s) = closure a rs s := by
  rw [extent, if_pos ⟨hc, hs⟩, intent, if_pos ⟨hc, extTo_isSet hc s⟩, closure, if_pos ⟨hc, hs⟩]
theorem extent_intent {a : Int} {rs : List Int} {s : Int} (hc : isCtx a rs = true) (hs : isSet rs.length s = true) : extent a rs (intent a rs s) = objClosure a rs s := by
  rw [intent, if_pos ⟨hc, hs⟩, extent, if_pos ⟨hc, intTo_isSet hc s _⟩, objClosure, if_pos ⟨hc, hs⟩]
end Go.Proofs.Ythodmmckekgkdaa.Ctx
namespace Go.Proofs.Ythodmmckekgkdaa.Tab
open Go Go.RowKit Mem Sets Ctx
/-- One set of bits lies in another one. -/
def Le (x y : Nat) : Prop := ∀ j, x.testBit j = true → y.testBit j = true
theorem Le.refl (x : Nat) : Le x x := fun _ h => h
theorem Le.trans {x y z : Nat} (h : Le x y) (k : Le y z) : Le x z := fun j hj => k j (h j hj)
theorem Le.antisymm {x y : Nat} (h : Le x y) (k : Le y x) : x = y := nat_bits fun j => ⟨h j, k j⟩
theorem le_or {x y z : Nat} : Le (x ||| y) z ↔ Le x z ∧ Le y z := by
  constructor
  · intro h
    exact ⟨fun j hj => h j (by simp [hj]), fun j hj => h j (by simp [hj])⟩
  · rintro ⟨h, k⟩ j hj
    rw [Nat.testBit_or, Bool.or_eq_true] at hj
    exact hj.elim (h j) (k j)
theorem le_and {x y z : Nat} : Le z (x &&& y) ↔ Le z x ∧ Le z y := by
  constructor
  · intro h
    refine ⟨fun j hj => ?_, fun j hj => ?_⟩ <;> (have := h j hj; rw [Nat.testBit_and, Bool.and_eq_true] at this; simp [this])
  · rintro ⟨h, k⟩ j hj
    rw [Nat.testBit_and, h j hj, k j hj]; rfl
theorem le_num {x y : Nat} (h : Le x y) : x ≤ y := by
  have : x &&& y = x := nat_bits fun j => by
    rw [Nat.testBit_and, Bool.and_eq_true]
    exact ⟨fun h => h.1, fun hx => ⟨hx, h j hx⟩⟩
  rw [← this]; exact Nat.and_le_right
theorem and_le {x y : Nat} : y &&& x = x ↔ Le x y := by
  constructor
  · intro h j hj
    rw [← h, Nat.testBit_and, Bool.and_eq_true] at hj
    exact hj.1
  · intro h
    exact nat_bits fun j => by
      rw [Nat.testBit_and, Bool.and_eq_true]
      exact ⟨fun h => h.2, fun hx => ⟨h j hx, hx⟩⟩
theorem mem_getD {xs : List Int} {y : Int} (h : y ∈ xs) : ∃ i, i < xs.length ∧ xs.getD i 0 = y := by
  obtain ⟨i, hi, rfl⟩ := List.getElem_of_mem h
  exact ⟨i, hi, by rw [List.getD_eq_getElem?_getD, List.getElem?_eq_getElem hi]; rfl⟩
theorem full_bit {n j : Nat} : (2 ^ n - 1).testBit j = true ↔ j < n := by rw [Nat.testBit_two_pow_sub_one]; simp
end Go.Proofs.Ythodmmckekgkdaa.Tab
