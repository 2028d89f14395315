/-
  Bits of common parts and of columns; arrows as functions of lists of numbers (pure).
-/
import Derived.Test.YthodmmckekgkdaaRedP
namespace Go.Proofs.Ythodmmckekgkdaa.Tab
open Go Go.RowKit Mem Sets Ctx
set_option maxRecDepth 100000

theorem cpTo_bit (f : Nat) (x : Int) (xs : List Int) (k j : Nat) : (cpTo f x xs k).testBit j = true ↔ f.testBit j = true ∧ ∀ i, i < k → xs.getD i 0 ≠ x → Le x.toNat (xs.getD i 0).toNat → (xs.getD i 0).toNat.testBit j = true := by
  induction k with
  | zero => simp [cpTo]
  | succ k ih =>
    by_cases h : xs.getD k 0 ≠ x ∧ (xs.getD k 0).toNat &&& x.toNat = x.toNat
    · rw [cpTo_yes h, Nat.testBit_and, Bool.and_eq_true, ih]
      constructor
      · rintro ⟨⟨h1, h2⟩, h3⟩
        refine ⟨h1, fun i hi => ?_⟩
        rcases Nat.lt_or_eq_of_le (Nat.le_of_lt_succ hi) with h' | rfl
        · exact h2 i h'
        · exact fun _ _ => h3
      · rintro ⟨h1, h2⟩
        exact ⟨⟨h1, fun i hi => h2 i (by omega)⟩, h2 k (by omega) h.1 (and_le.1 h.2)⟩
    · rw [cpTo_no h, ih]
      refine and_congr Iff.rfl ⟨fun h2 i hi hn hl => ?_, fun h2 i hi => h2 i (by omega)⟩
      rcases Nat.lt_or_eq_of_le (Nat.le_of_lt_succ hi) with h' | rfl
      · exact h2 i h' hn hl
      · exact absurd ⟨hn, and_le.2 hl⟩ h
theorem col_mem {a : Int} {rs : List Int} {c : Int} : c ∈ cols a rs ↔ ∃ m : Nat, m < a.toNat ∧ c = ((colTo rs m rs.length : Nat) : Int) := by
  simp only [cols, dualTo, List.mem_map, List.mem_range]
  exact ⟨fun ⟨m, h, e⟩ => ⟨m, h, e.symm⟩, fun ⟨m, h, e⟩ => ⟨m, h, e.symm⟩⟩
theorem colbit (rs : List Int) (m g : Nat) : (colTo rs (m : Int) rs.length).testBit g = true ↔ g < rs.length ∧ bit (rs.getD g 0) m = true := by
  rw [col_bit, Bool.and_eq_true, decide_eq_true_eq]
/-- The attributes that object g has not, but every object with more than g's. -/
def downN (a : Int) (rs : List Int) (g : Nat) : Nat := cpTo (fullA a - (rs.getD g 0).toNat) (rs.getD g 0) rs rs.length
/-- Is an attribute in the up arrows of object g: g has it not, but has every attribute whose column holds its column and more. -/
def upB (a : Int) (rs : List Int) (g m : Nat) : Bool := !bit (rs.getD g 0) m && (List.range a.toNat).all fun n => decide (colTo rs n rs.length = colTo rs m rs.length) || !decide (colTo rs n rs.length &&& colTo rs m rs.length = colTo rs m rs.length) || bit (rs.getD g 0) n
def upTo (a : Int) (rs : List Int) (g : Nat) : Nat → Nat
  | 0 => 0
  | m + 1 => if upB a rs g m = true then upTo a rs g m ||| 2 ^ m else upTo a rs g m
theorem upTo_yes {a : Int} {rs : List Int} {g m : Nat} (h : upB a rs g m = true) : upTo a rs g (m + 1) = upTo a rs g m ||| 2 ^ m := if_pos h
theorem upTo_no {a : Int} {rs : List Int} {g m : Nat} (h : upB a rs g m = false) : upTo a rs g (m + 1) = upTo a rs g m := if_neg (by simp [h])
theorem upTo_lt (a : Int) (rs : List Int) (g k : Nat) : upTo a rs g k < 2 ^ k := by
  induction k with
  | zero => simp [upTo]
  | succ k ih =>
    have h1 : 2 ^ k < 2 ^ (k + 1) := Nat.pow_lt_pow_right (by omega) (by omega)
    unfold upTo
    split
    · exact Nat.or_lt_two_pow (by omega) h1
    · omega
theorem upTo_bit (a : Int) (rs : List Int) (g k j : Nat) : (upTo a rs g k).testBit j = (decide (j < k) && upB a rs g j) := by
  induction k with
  | zero => simp [upTo]
  | succ k ih =>
    cases h : upB a rs g k with
    | true =>
      rw [upTo_yes h, Nat.testBit_or, ih, Nat.testBit_two_pow]
      by_cases hj : k = j
      · subst hj; rw [h]; simp
      · have : decide (j < k + 1) = decide (j < k) := by rw [decide_eq_decide]; omega
        rw [this]; simp [hj]
    | false =>
      rw [upTo_no h, ih]
      by_cases hj : k = j
      · subst hj; rw [h]; simp
      · have : decide (j < k + 1) = decide (j < k) := by rw [decide_eq_decide]; omega
        rw [this]
abbrev upN (a : Int) (rs : List Int) (g : Nat) : Nat := upTo a rs g a.toNat
def downOf (a : Int) (rs : List Int) (g : Int) : Nat := if isCtx a rs = true ∧ 0 ≤ g ∧ g < rs.length then downN a rs g.toNat else 0
def upOf (a : Int) (rs : List Int) (g : Int) : Nat := if isCtx a rs = true ∧ 0 ≤ g ∧ g < rs.length then upN a rs g.toNat else 0
def irrO (a : Int) (rs : List Int) (g : Int) : Bool := isCtx a rs && decide (0 ≤ g ∧ g < rs.length) && !redO a rs g
def irrA (a : Int) (rs : List Int) (m : Int) : Bool := isCtx a rs && decide (0 ≤ m ∧ m < a) && !redA a rs m
theorem up_iff {a : Int} {rs : List Int} {g m : Nat} : upB a rs g m = true ↔ bit (rs.getD g 0) m = false ∧ ∀ n, n < a.toNat → colTo rs n rs.length ≠ colTo rs m rs.length → Le (colTo rs m rs.length) (colTo rs n rs.length) → bit (rs.getD g 0) n = true := by
  unfold upB
  rw [Bool.and_eq_true, Bool.not_eq_true', List.all_eq_true]
  refine and_congr_right fun _ => ⟨fun h n hn hne hl => ?_, fun h n hn => ?_⟩
  · have := h n (List.mem_range.2 hn)
    rw [decide_eq_false hne, decide_eq_true (and_le.2 hl)] at this
    simpa using this
  · by_cases hne : colTo rs n rs.length = colTo rs m rs.length
    · simp [hne]
    · by_cases hl : colTo rs n rs.length &&& colTo rs m rs.length = colTo rs m rs.length
      · rw [h n (List.mem_range.1 hn) hne (and_le.1 hl), Bool.or_true]
      · simp [hl]
/-- One set of bits without another one. -/
def minus (c x : Nat) : Nat := c ^^^ (c &&& x)
theorem minus_bit (c x j : Nat) : (minus c x).testBit j = (c.testBit j && !x.testBit j) := by
  rw [minus, Nat.testBit_xor, Nat.testBit_and]
  cases c.testBit j <;> cases x.testBit j <;> rfl
theorem minus_le (c x : Nat) : minus c x ≤ c := le_num fun j h => by
  rw [minus_bit, Bool.and_eq_true] at h
  exact h.1
theorem andNot_minus (c x : Nat) (hc : c < 256) : bits .andNot .i64 (c : Int) (x : Int) = ((minus c x : Nat) : Int) := by
  have e : bits .andNot .i64 (c : Int) (x : Int) = IntKind.i64.wrap ((BitVec.ofNat 64 c &&& ~~~ BitVec.ofNat 64 x).toNat : Nat) := by
    simp only [bits, BitVec.ofInt_natCast]; rfl
  have e2 : BitVec.ofNat 64 c &&& ~~~ BitVec.ofNat 64 x = BitVec.ofNat 64 (minus c x) := by
    apply BitVec.eq_of_getLsbD_eq
    intro i hi
    simp only [BitVec.getLsbD_and, BitVec.getLsbD_not, BitVec.getLsbD_ofNat, minus_bit, hi, decide_true, Bool.true_and]
  have := minus_le c x
  rw [e, e2, BitVec.toNat_ofNat, Nat.mod_eq_of_lt (by omega), IntKind.wrap_i64]
  omega
/-- What a start and those of a list that hold the number at a place, and more, have in common beyond it. -/
def bey (f : Nat) (xs : List Int) (k : Nat) : Nat := minus (cpTo f (xs.getD k 0) xs xs.length) (xs.getD k 0).toNat
theorem cpTo_holds {f : Nat} {x : Int} (xs : List Int) (h : f &&& x.toNat = x.toNat) (k : Nat) : cpTo f x xs k &&& x.toNat = x.toNat := by
  induction k with
  | zero => exact h
  | succ k ih =>
    unfold cpTo
    split
    · rename_i hy
      rw [Nat.and_assoc, hy.2, ih]
    · exact ih
theorem minus_zero {c x : Nat} (h : c &&& x = x) : (minus c x = 0) ↔ c = x := by
  rw [minus, h]
  constructor
  · intro h'
    refine nat_bits fun j => ?_
    have := congrArg (fun n => n.testBit j) h'
    simp only [Nat.testBit_xor, Nat.zero_testBit] at this
    revert this
    cases c.testBit j <;> cases x.testBit j <;> simp
  · rintro rfl
    exact Nat.xor_self c
theorem bey_cp {f : Nat} {xs : List Int} {k : Nat} (h0 : 0 ≤ xs.getD k 0) (h : f &&& (xs.getD k 0).toNat = (xs.getD k 0).toNat) : (((bey f xs k : Nat) : Int) == 0) = isCp f xs k := by
  rw [bey, isCp, Bool.eq_iff_iff]
  simp only [beq_iff_eq]
  have := minus_zero (cpTo_holds xs h xs.length)
  omega
theorem full_holds {n : Nat} {x : Int} (h0 : 0 ≤ x) (h : x < 2 ^ n) : (2 ^ n - 1) &&& x.toNat = x.toNat := by
  obtain ⟨m, rfl⟩ := Int.eq_ofNat_of_zero_le h0
  have h' : m < 2 ^ n := by exact_mod_cast h
  rw [Int.toNat_natCast, Nat.and_comm, Nat.and_two_pow_sub_one_eq_mod, Nat.mod_eq_of_lt h']
theorem bey_lt {f n : Nat} (h : f < n) (xs : List Int) (k : Nat) : bey f xs k < n := Nat.lt_of_le_of_lt (minus_le _ _) (cpTo_lt h _ _ _)
theorem minus_and (c y x : Nat) : minus (c &&& y) x = minus c x &&& y := nat_bits fun j => by
  rw [minus_bit, Nat.testBit_and, Nat.testBit_and, minus_bit]
  cases c.testBit j <;> cases y.testBit j <;> cases x.testBit j <;> simp
theorem bey_to (f : Nat) (x : Int) (xs : List Int) (k : Nat) : minus (cpTo f x xs k) x.toNat = cpTo (minus f x.toNat) x xs k := by
  induction k with
  | zero => rfl
  | succ k ih =>
    by_cases h : xs.getD k 0 ≠ x ∧ (xs.getD k 0).toNat &&& x.toNat = x.toNat
    · rw [cpTo_yes h, cpTo_yes h, minus_and, ih]
    · rw [cpTo_no h, cpTo_no h, ih]
theorem minus_full {n x : Nat} (h : x < 2 ^ n) : minus (2 ^ n - 1) x = 2 ^ n - 1 - x := nat_bits fun j => by
  rw [minus_bit, show 2 ^ n - 1 - x = 2 ^ n - (x + 1) by omega, Nat.testBit_two_pow_sub_succ h, Nat.testBit_two_pow_sub_one]
theorem row_holds {a : Int} {rs : List Int} (hc : isCtx a rs = true) {g : Nat} (hg : g < rs.length) : 0 ≤ rs.getD g 0 ∧ rs.getD g 0 < 2 ^ a.toNat := by
  obtain ⟨n, hn, hlt, -, -⟩ := isSet_to_nat (isCtx_mem hc (getD_mem hg))
  rw [hn]
  exact ⟨by omega, by exact_mod_cast hlt⟩
theorem col_holds {a : Int} {rs : List Int} {m : Nat} (hm : m < a.toNat) : 0 ≤ (cols a rs).getD m 0 ∧ (cols a rs).getD m 0 < 2 ^ rs.length := by
  rw [cols_get hm]
  exact ⟨by omega, by exact_mod_cast colTo_lt rs m rs.length⟩
theorem bey_down {a : Int} {rs : List Int} (hc : isCtx a rs = true) {g : Nat} (hg : g < rs.length) : bey (fullA a) rs g = downN a rs g := by
  obtain ⟨n, hn, hlt, -, -⟩ := isSet_to_nat (isCtx_mem hc (getD_mem hg))
  rw [bey, bey_to, downN]
  congr 1
  rw [hn, Int.toNat_natCast]
  exact minus_full hlt
theorem bey_up {a : Int} {rs : List Int} {g m : Nat} (hg : g < rs.length) (hm : m < a.toNat) : bit ((bey (fullO rs) (cols a rs) m : Nat) : Int) g = upB a rs g m := by
  have hlen : (cols a rs).length = a.toNat := dualTo_length _ _
  show (((bey (fullO rs) (cols a rs) m : Nat) : Int)).toNat.testBit g = _
  have hcb : (colTo rs m rs.length).testBit g = bit (rs.getD g 0) m := by
    rw [Bool.eq_iff_iff, colbit]; simp [hg]
  rw [Int.toNat_natCast, bey, minus_bit, cols_get hm, Int.toNat_natCast, hcb, Bool.eq_iff_iff, up_iff, Bool.and_eq_true, cpTo_bit, full_bit, Bool.not_eq_true', hlen]
  constructor
  · rintro ⟨⟨-, h1⟩, h2⟩
    refine ⟨h2, fun n hn hne hl => ?_⟩
    have := h1 n hn (by rw [cols_get hn]; intro e; exact hne (by omega)) (by rw [cols_get hn, Int.toNat_natCast, Int.toNat_natCast]; exact hl)
    rw [cols_get hn, Int.toNat_natCast] at this
    exact ((colbit rs n g).1 this).2
  · rintro ⟨h2, h1⟩
    refine ⟨⟨hg, fun n hn hne hl => ?_⟩, h2⟩
    rw [cols_get hn] at hne hl ⊢
    rw [Int.toNat_natCast] at hl ⊢
    rw [Int.toNat_natCast] at hl
    exact (colbit rs n g).2 ⟨hg, h1 n hn (by intro e; exact hne (by rw [e])) hl⟩
/-- x is what a start and the greater ones of a list have in common. -/
def Cp (f : Nat) (xs : List Int) (x : Int) : Prop := ∀ j, f.testBit j = true → (∀ y ∈ xs, y ≠ x → Le x.toNat y.toNat → y.toNat.testBit j = true) → x.toNat.testBit j = true
theorem Cp.more {f : Nat} {l xs : List Int} {x : Int} (h : Cp f l x) (hs : ∀ y ∈ l, y ∈ xs) : Cp f xs x := fun j hj hy => h j hj fun y hl => hy y (hs y hl)
theorem isCp_iff {f : Nat} {xs : List Int} {k : Nat} (h0 : 0 ≤ xs.getD k 0) (hf : Le (xs.getD k 0).toNat f) : isCp f xs k = true ↔ Cp f xs (xs.getD k 0) := by
  unfold isCp
  generalize xs.getD k 0 = x at h0 hf
  rw [beq_iff_eq]
  have e : ((cpTo f x xs xs.length : Nat) : Int) = x ↔ cpTo f x xs xs.length = x.toNat := by omega
  rw [e]
  constructor
  · intro h j hj hy
    rw [← h, cpTo_bit]
    exact ⟨hj, fun i hi hn hl => hy _ (getD_mem hi) hn hl⟩
  · intro h
    refine Le.antisymm (fun j hj => ?_) (fun j hj => ?_)
    · rw [cpTo_bit] at hj
      refine h j hj.1 fun y hy hn hl => ?_
      obtain ⟨i, hi, rfl⟩ := mem_getD hy
      exact hj.2 i hi hn hl
    · rw [cpTo_bit]
      exact ⟨hf j hj, fun i _ _ hl => hl j hj⟩
theorem row_fullA {a : Int} {rs : List Int} (hc : isCtx a rs = true) {x : Int} (hx : x ∈ rs) : 0 ≤ x ∧ Le x.toNat (fullA a) := by
  obtain ⟨n, rfl, hn, -, -⟩ := isSet_to_nat (isCtx_mem hc hx)
  exact ⟨by omega, fun j hj => full_bit.2 (bit_lt hn hj)⟩
theorem col_fullO (rs : List Int) (m : Nat) : Le (colTo rs (m : Int) rs.length) (fullO rs) := fun g hg => full_bit.2 ((colbit rs m g).1 hg).1
theorem isCp_row {a : Int} {rs : List Int} (hc : isCtx a rs = true) {g : Nat} (hg : g < rs.length) : isCp (fullA a) rs g = true ↔ Cp (fullA a) rs (rs.getD g 0) :=
  isCp_iff (row_fullA hc (getD_mem hg)).1 (row_fullA hc (getD_mem hg)).2
theorem isCp_col {a : Int} {rs : List Int} {m : Nat} (hm : m < a.toNat) : isCp (fullO rs) (cols a rs) m = true ↔ Cp (fullO rs) (cols a rs) ((colTo rs m rs.length : Nat) : Int) := by
  rw [isCp_iff (by rw [cols_get hm]; omega) (by rw [cols_get hm, Int.toNat_natCast]; exact col_fullO rs m), cols_get hm]
end Go.Proofs.Ythodmmckekgkdaa.Tab
