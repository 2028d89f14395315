/-
  Rules of sets of attributes (pure): what respects them, what is closed by them, what follows.
-/
import Derived.Test.YthodmmckekgkdaaDerPure
import Derived.Test.YthodmmckekgkdaaPairs
namespace Go.Proofs.Ythodmmckekgkdaa.Rule
open Go Go.RowKit Mem Sets Ctx Tab
set_option maxRecDepth 100000

/-- Is a pair of numbers a rule of n attributes? -/
def isR (n : Int) (p : PInt) : Bool := isSet n p.1 && isSet n p.2
def allIn (n : Int) (l : List PInt) : Bool := l.all (isR n)
def areR (n : Int) (l : List PInt) : Bool := allIn n l && decide (0 ≤ n ∧ n ≤ 6) && decide (l.length ≤ 40)
/-- Does a set of bits respect a rule? -/
def RB (p : PInt) (s : Nat) : Bool := decide (p.1.toNat &&& s ≠ p.1.toNat) || decide (p.2.toNat &&& s = p.2.toNat)
theorem and_le' {x y : Nat} : x &&& y = x ↔ Le x y := by rw [Nat.and_comm]; exact and_le
theorem RB_iff {p : PInt} {s : Nat} : RB p s = true ↔ (Le p.1.toNat s → Le p.2.toNat s) := by
  unfold RB
  rw [Bool.or_eq_true, decide_eq_true_eq, decide_eq_true_eq, and_le', ← and_le' (x := p.1.toNat)]
  constructor
  · rintro (h | h) h1
    · exact absurd h1 h
    · exact h
  · intro h
    by_cases h1 : p.1.toNat &&& s = p.1.toNat
    · exact .inr (h h1)
    · exact .inl h1
def resp (p : PInt) (s : Int) : Bool := isR 8 p && isSet 8 s && RB p s.toNat
/-- Does a set of bits respect all rules of a list? -/
def allR (l : List PInt) (s : Nat) : Bool := l.all fun p => RB p s
theorem allR_iff {l : List PInt} {s : Nat} : allR l s = true ↔ ∀ p ∈ l, Le p.1.toNat s → Le p.2.toNat s := by
  unfold allR
  rw [List.all_eq_true]
  exact ⟨fun h p hp => RB_iff.1 (h p hp), fun h p hp => RB_iff.2 (h p hp)⟩
abbrev rl (l : List PInt) (k : Nat) : PInt := l.getD k (0, 0)
theorem rl_mem {l : List PInt} {k : Nat} (h : k < l.length) : rl l k ∈ l := by
  rw [rl, List.getD_eq_getElem?_getD, List.getElem?_eq_getElem h]; exact List.getElem_mem h
theorem mem_rl {l : List PInt} {p : PInt} (h : p ∈ l) : ∃ k, k < l.length ∧ rl l k = p := by
  obtain ⟨k, hk, rfl⟩ := List.getElem_of_mem h
  exact ⟨k, hk, by rw [rl, List.getD_eq_getElem?_getD, List.getElem?_eq_getElem hk]; rfl⟩
/-- Does a rule change a set? -/
def fires (p : PInt) (s : Nat) : Bool := decide (p.1.toNat &&& s = p.1.toNat) && decide (p.2.toNat &&& s ≠ p.2.toNat)
theorem fires_no {p : PInt} {s : Nat} : fires p s = false ↔ RB p s = true := by
  unfold fires RB
  by_cases h1 : p.1.toNat &&& s = p.1.toNat <;> by_cases h2 : p.2.toNat &&& s = p.2.toNat <;> simp [h1, h2]
/-- A pass over the first k rules. -/
def passTo (l : List PInt) (s : Nat) : Nat → Nat
  | 0 => s
  | k + 1 => if fires (rl l k) (passTo l s k) = true then passTo l s k ||| (rl l k).2.toNat else passTo l s k
theorem pass_yes {l : List PInt} {s k : Nat} (h : fires (rl l k) (passTo l s k) = true) : passTo l s (k + 1) = passTo l s k ||| (rl l k).2.toNat := if_pos h
theorem pass_no {l : List PInt} {s k : Nat} (h : fires (rl l k) (passTo l s k) = false) : passTo l s (k + 1) = passTo l s k := if_neg (by rw [h]; decide)
theorem le_orl {x y : Nat} : Le x (x ||| y) := fun j h => by simp [h]
theorem pass_step (l : List PInt) (s k : Nat) : Le (passTo l s k) (passTo l s (k + 1)) := by
  cases h : fires (rl l k) (passTo l s k) with
  | true => rw [pass_yes h]; exact le_orl
  | false => rw [pass_no h]; exact Le.refl _
theorem le_pass (l : List PInt) (s k : Nat) : Le s (passTo l s k) := by
  induction k with
  | zero => exact Le.refl s
  | succ k ih =>
    unfold passTo
    split
    · exact ih.trans le_orl
    · exact ih
theorem pass_le {l : List PInt} {s t : Nat} (ht : allR l t = true) (h : Le s t) {k : Nat} (hk : k ≤ l.length) : Le (passTo l s k) t := by
  induction k with
  | zero => exact h
  | succ k ih =>
    have ih := ih (by omega)
    unfold passTo
    split
    · rename_i hf
      unfold fires at hf
      rw [Bool.and_eq_true, decide_eq_true_eq, decide_eq_true_eq] at hf
      exact le_or.2 ⟨ih, allR_iff.1 ht _ (rl_mem (by omega)) ((and_le'.1 hf.1).trans ih)⟩
    · exact ih
theorem pass_lt {l : List PInt} {s n : Nat} (hs : s < 2 ^ n) (hl : ∀ k, k < l.length → (rl l k).2.toNat < 2 ^ n) {k : Nat} (hk : k ≤ l.length) : passTo l s k < 2 ^ n := by
  induction k with
  | zero => exact hs
  | succ k ih =>
    have ih := ih (by omega)
    unfold passTo
    split
    · exact Nat.or_lt_two_pow ih (hl k (by omega))
    · exact ih
theorem le_ne_lt {x y : Nat} (h : Le x y) (hn : y ≠ x) : x < y := by have := le_num h; omega
/-- Where a rule fires the set grows. -/
theorem fires_grows {p : PInt} {s : Nat} (h : fires p s = true) : s ||| p.2.toNat ≠ s := by
  unfold fires at h
  rw [Bool.and_eq_true, decide_eq_true_eq, decide_eq_true_eq] at h
  intro he
  refine h.2 (and_le'.2 fun j hj => ?_)
  rw [← he, Nat.testBit_or, hj, Bool.or_true]
/-- A pass that changes nothing: the set respects all rules. -/
theorem pass_same {l : List PInt} {s : Nat} (h : passTo l s l.length = s) : allR l s = true := by
  have key : ∀ k, k ≤ l.length → passTo l s k = s := fun k hk => by
    have h2 : ∀ d, k + d ≤ l.length → Le (passTo l s k) (passTo l s (k + d)) := by
      intro d
      induction d with
      | zero => intro _; exact Le.refl _
      | succ d ih =>
        intro hd
        exact (ih (by omega)).trans (pass_step l s (k + d))
    have h3 := h2 (l.length - k) (by omega)
    rw [show k + (l.length - k) = l.length by omega, h] at h3
    exact h3.antisymm (le_pass l s k)
  unfold allR
  rw [List.all_eq_true]
  intro p hp
  obtain ⟨k, hk, rfl⟩ := mem_rl hp
  rw [← fires_no]
  cases hf : fires (rl l k) s with
  | false => rfl
  | true =>
    have h1 := key k (by omega)
    have h2 := key (k + 1) (by omega)
    have h3 := pass_yes (l := l) (s := s) (k := k) (by rw [h1]; exact hf)
    rw [h1, h2] at h3
    exact absurd h3.symm (fires_grows hf)
theorem same_pass {l : List PInt} {s : Nat} (h : allR l s = true) : passTo l s l.length = s := (pass_le h (Le.refl s) (Nat.le_refl _)).antisymm (le_pass l s _)
/-- Passes until nothing changes. -/
def clF (l : List PInt) : Nat → Nat → Nat
  | 0, s => s
  | n + 1, s => if passTo l s l.length = s then s else clF l n (passTo l s l.length)
/-- The closure of a set under rules. -/
def cl (l : List PInt) (s : Nat) : Nat := clF l 256 s
/-- t is the least set that holds s and respects all rules. -/
structure Cl (l : List PInt) (s t : Nat) : Prop where
  le : Le s t
  all : allR l t = true
  least : ∀ u, allR l u = true → Le s u → Le t u
theorem Cl.eq {l : List PInt} {s t u : Nat} (h : Cl l s t) (k : Cl l s u) : t = u := (h.least u k.all k.le).antisymm (k.least t h.all h.le)
theorem clF_spec {l : List PInt} (hl : ∀ k, k < l.length → (rl l k).2.toNat < 2 ^ 8) : ∀ (n s : Nat), s < 2 ^ 8 → 2 ^ 8 - s ≤ n → Cl l s (clF l n s)
  | 0, s, hs, hn => by omega
  | n + 1, s, hs, hn => by
    unfold clF
    split
    · rename_i h
      exact ⟨Le.refl s, pass_same h, fun u _ h => h⟩
    · rename_i h
      have h1 := le_ne_lt (le_pass l s l.length) h
      have ih := clF_spec hl n (passTo l s l.length) (pass_lt hs hl (Nat.le_refl _)) (by omega)
      exact ⟨(le_pass l s _).trans ih.le, ih.all, fun u hu hs => ih.least u hu (pass_le hu hs (Nat.le_refl _))⟩
theorem cl_spec {l : List PInt} (hl : ∀ k, k < l.length → (rl l k).2.toNat < 2 ^ 8) {s : Nat} (hs : s < 2 ^ 8) : Cl l s (cl l s) := clF_spec hl 256 s hs (by omega)
theorem allIn_rl {n : Int} {l : List PInt} (h : allIn n l = true) {k : Nat} (hk : k < l.length) : isSet n (rl l k).1 = true ∧ isSet n (rl l k).2 = true := by
  have := List.all_eq_true.1 h _ (rl_mem hk)
  unfold isR at this
  rwa [Bool.and_eq_true] at this
theorem allIn_lt {l : List PInt} (h : allIn 8 l = true) {k : Nat} (hk : k < l.length) : (rl l k).2.toNat < 2 ^ 8 := by
  obtain ⟨m, hm, hlt, -, -⟩ := isSet_to_nat (allIn_rl h hk).2
  rw [hm, Int.toNat_natCast]; exact hlt
theorem cl_lt {l : List PInt} {n : Nat} (hn : n ≤ 8) (hl : ∀ k, k < l.length → (rl l k).2.toNat < 2 ^ n) {s : Nat} (hs : s < 2 ^ n) : cl l s < 2 ^ n := by
  have h8 : 2 ^ n ≤ 2 ^ 8 := Nat.pow_le_pow_right (by omega) hn
  have h := cl_spec (l := l) (fun k hk => Nat.lt_of_lt_of_le (hl k hk) h8) (Nat.lt_of_lt_of_le hs h8)
  have hle : ∀ {x : Nat}, x < 2 ^ n → Le x (2 ^ n - 1) := fun {x} hx j hj => full_bit.2 (bit_lt hx hj)
  have h2 := h.least (2 ^ n - 1) (allR_iff.2 fun p hp _ => by
    obtain ⟨k, hk, rfl⟩ := mem_rl hp
    exact hle (hl k hk)) (hle hs)
  have := le_num h2
  have := Nat.pow_pos (n := n) (show 0 < 2 by omega)
  omega
/-- The closure of a set, as the program answers it: what is no set stays. -/
def closedBy (l : List PInt) (s : Int) : Int := if allIn 8 l = true ∧ isSet 8 s = true then ((cl l s.toNat : Nat) : Int) else s
def follows (l : List PInt) (p : PInt) : Bool := allIn 8 l && isR 8 p && decide (p.2.toNat &&& cl l p.1.toNat = p.2.toNat)
/-- A rule follows just if all sets that respect the others respect it. -/
theorem follows_iff {l : List PInt} {p : PInt} (hl : allIn 6 l = true) (hp : isR 6 p = true) : decide (p.2.toNat &&& cl l p.1.toNat = p.2.toNat) = true ↔ ∀ m, m < 64 → cl l m = m → RB p m = true := by
  have h6 : ∀ k, k < l.length → (rl l k).2.toNat < 2 ^ 6 := fun k hk => by
    obtain ⟨m, hm, hlt, -, -⟩ := isSet_to_nat (allIn_rl hl hk).2
    rw [hm, Int.toNat_natCast]; exact hlt
  have h8 : ∀ k, k < l.length → (rl l k).2.toNat < 2 ^ 8 := fun k hk => Nat.lt_of_lt_of_le (h6 k hk) (by decide)
  unfold isR at hp
  rw [Bool.and_eq_true] at hp
  obtain ⟨m1, hm1, hlt1, -, -⟩ := isSet_to_nat hp.1
  have hp1 : p.1.toNat < 2 ^ 6 := by rw [hm1, Int.toNat_natCast]; exact hlt1
  rw [decide_eq_true_eq, and_le']
  have hc := cl_spec h8 (s := p.1.toNat) (by omega)
  constructor
  · intro h m hm hcm
    have hm' := cl_spec h8 (s := m) (by omega)
    rw [hcm] at hm'
    exact RB_iff.2 fun h1 => h.trans (hc.least m hm'.all h1)
  · intro h
    have hlt := cl_lt (by omega) h6 hp1
    have hcc := cl_spec h8 (s := cl l p.1.toNat) (by omega)
    have he : cl l (cl l p.1.toNat) = cl l p.1.toNat := hcc.eq ⟨Le.refl _, hc.all, fun u _ h => h⟩
    exact RB_iff.1 (h _ hlt he) hc.le
/-- Does a rule hold in a context? -/
def holds (a : Int) (rs : List Int) (p : PInt) : Bool := isCtx a rs && isR a p && decide (p.2.toNat &&& intTo a rs ((extTo rs p.1 rs.length : Nat) : Int) rs.length = p.2.toNat)
theorem intB (a : Int) (rs : List Int) (s j : Nat) : (intTo a rs (s : Int) rs.length).testBit j = true ↔ j < a.toNat ∧ ∀ g, g < rs.length → s.testBit g = true → bit (rs.getD g 0) j = true := by
  rw [intTo_bit, Bool.and_eq_true, decide_eq_true_eq, decide_eq_true_eq]; exact Iff.rfl
theorem extB (rs : List Int) (t g : Nat) : (extTo rs (t : Int) rs.length).testBit g = true ↔ g < rs.length ∧ ∀ j, t.testBit j = true → bit (rs.getD g 0) j = true := by
  rw [extTo_bit, Bool.and_eq_true, decide_eq_true_eq, decide_eq_true_eq, Int.toNat_natCast]
  refine and_congr Iff.rfl ?_
  rw [and_all (a := t + 1) (Nat.lt_of_lt_of_le (Nat.lt_two_pow_self) (Nat.pow_le_pow_right (by omega) (by omega)))]
  constructor
  · intro h j hj
    exact h j (bit_lt (Nat.lt_of_lt_of_le (Nat.lt_two_pow_self) (Nat.pow_le_pow_right (by omega) (by omega))) hj) hj
  · intro h j _ hj; exact h j hj
theorem holds_rows {a : Int} {rs : List Int} {p : PInt} (hp : isR a p = true) : decide (p.2.toNat &&& intTo a rs ((extTo rs p.1 rs.length : Nat) : Int) rs.length = p.2.toNat) = true ↔ ∀ k, k < rs.length → RB p (rs.getD k 0).toNat = true := by
  unfold isR at hp
  rw [Bool.and_eq_true] at hp
  obtain ⟨m1, hm1, hlt1, -, -⟩ := isSet_to_nat hp.1
  obtain ⟨m2, hm2, hlt2, -, -⟩ := isSet_to_nat hp.2
  rw [decide_eq_true_eq, and_le']
  have he : ∀ g, (extTo rs p.1 rs.length).testBit g = true ↔ g < rs.length ∧ Le p.1.toNat (rs.getD g 0).toNat := fun g => by
    rw [hm1, extB, Int.toNat_natCast]
    exact Iff.rfl
  constructor
  · intro h k hk
    refine RB_iff.2 fun h1 j hj => ?_
    exact ((intB a rs _ j).1 (h j hj)).2 k hk ((he k).2 ⟨hk, h1⟩)
  · intro h j hj
    refine (intB a rs _ j).2 ⟨?_, fun g hg hb => ?_⟩
    · rw [hm2, Int.toNat_natCast] at hj
      exact bit_lt hlt2 hj
    · exact RB_iff.1 (h g hg) ((he g).1 hb).2 j hj
end Go.Proofs.Ythodmmckekgkdaa.Rule
