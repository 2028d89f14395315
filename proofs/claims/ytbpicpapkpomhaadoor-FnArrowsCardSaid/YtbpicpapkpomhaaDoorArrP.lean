/-
  Arrows (pure): what they are, whom they tell.
-/
import Derived.Test.YtbpicpapkpomhaaDoorBits
namespace Go.Proofs.YtbpicpapkpomhaaDoor.Tab
open Go Go.RowKit Mem Sets Ctx
set_option maxRecDepth 100000

theorem rest_bit {n x j : Nat} (hx : x < 2 ^ n) : (2 ^ n - 1 - x).testBit j = true ↔ j < n ∧ x.testBit j = false := by
  rw [show 2 ^ n - 1 - x = 2 ^ n - (x + 1) by omega, Nat.testBit_two_pow_sub_succ hx]; simp
theorem down_bit {a : Int} {rs : List Int} (hc : isCtx a rs = true) {g : Nat} (hg : g < rs.length) (j : Nat) : (downN a rs g).testBit j = true ↔ j < a.toNat ∧ bit (rs.getD g 0) j = false ∧ ∀ y ∈ rs, y ≠ rs.getD g 0 → Le (rs.getD g 0).toNat y.toNat → y.toNat.testBit j = true := by
  obtain ⟨n, hn, hlt, -, -⟩ := isSet_to_nat (isCtx_mem hc (getD_mem hg))
  have hr : (fullA a - (rs.getD g 0).toNat).testBit j = true ↔ j < a.toNat ∧ bit (rs.getD g 0) j = false := by
    rw [hn, Int.toNat_natCast]; exact rest_bit hlt
  rw [downN, cpTo_bit, hr, and_assoc]
  refine and_congr_right fun _ => and_congr_right fun _ => ⟨fun h y hy => ?_, fun h i hi => h _ (getD_mem hi)⟩
  obtain ⟨i, hi, rfl⟩ := mem_getD hy
  exact h i hi
theorem nat_ne_zero {x : Nat} : x ≠ 0 ↔ ∃ j, x.testBit j = true := by
  constructor
  · intro h
    refine Classical.byContradiction fun hn => h ?_
    exact Nat.eq_of_testBit_eq fun j => by
      cases hj : x.testBit j with
      | false => simp
      | true => exact absurd ⟨j, hj⟩ hn
  · rintro ⟨j, hj⟩ rfl
    simp at hj
/-- Just the irreducible objects have down arrows. -/
theorem down_irr {a : Int} {rs : List Int} (hc : isCtx a rs = true) {g : Nat} (hg : g < rs.length) : isCp (fullA a) rs g = false ↔ downN a rs g ≠ 0 := by
  rw [nat_ne_zero, ← Bool.not_eq_true, isCp_row hc hg]
  unfold Cp
  constructor
  · intro h
    refine Classical.byContradiction fun hn => h fun j hj hy => ?_
    refine Classical.byContradiction fun hb => hn ⟨j, (down_bit hc hg j).2 ⟨full_bit.1 hj, ?_, hy⟩⟩
    cases hb' : bit (rs.getD g 0) j with
    | false => rfl
    | true => exact absurd hb' hb
  · rintro ⟨j, hj⟩ h
    obtain ⟨h1, h2, h3⟩ := (down_bit hc hg j).1 hj
    have := h j (full_bit.2 h1) h3
    rw [show (rs.getD g 0).toNat.testBit j = bit (rs.getD g 0) j from rfl, h2] at this
    cases this
/-- Each irreducible object has a double arrow. -/
theorem down_up {a : Int} {rs : List Int} (hc : isCtx a rs = true) {g : Nat} (hg : g < rs.length) (h : downN a rs g ≠ 0) : downN a rs g &&& upN a rs g ≠ 0 := by
  obtain ⟨j0, hj0⟩ := nat_ne_zero.1 h
  have hcl : ∀ m : Nat, colTo rs m rs.length < 256 := fun m => Nat.lt_of_lt_of_le (colTo_lt rs m rs.length) (pow_le8 (isCtx_parts hc).2.2.1)
  -- the one with the greatest column
  have key : ∀ (n m : Nat), (downN a rs g).testBit m = true → 256 - colTo rs m rs.length ≤ n → ∃ m, (downN a rs g).testBit m = true ∧ upB a rs g m = true := by
    intro n
    induction n with
    | zero => intro m hm hn; have := hcl m; omega
    | succ n ih =>
      intro m hm hn
      cases hu : upB a rs g m with
      | true => exact ⟨m, hm, hu⟩
      | false =>
        obtain ⟨h1, h2, h3⟩ := (down_bit hc hg m).1 hm
        have hno : ¬ ∀ k, k < a.toNat → colTo rs k rs.length ≠ colTo rs m rs.length → Le (colTo rs m rs.length) (colTo rs k rs.length) → bit (rs.getD g 0) k = true := fun hall => by
          have := up_iff.2 ⟨h2, hall⟩
          rw [hu] at this; cases this
        obtain ⟨k, hk⟩ := Classical.not_forall.1 hno
        obtain ⟨hka, hk⟩ := Classical.not_imp.1 hk
        obtain ⟨hne, hk⟩ := Classical.not_imp.1 hk
        obtain ⟨hle, hk⟩ := Classical.not_imp.1 hk
        refine ih k ((down_bit hc hg k).2 ⟨hka, by simpa using hk, fun y hy hny hly => ?_⟩) (by have := le_num hle; have := hcl k; omega)
        have hym := h3 y hy hny hly
        obtain ⟨i, hi, rfl⟩ := mem_getD hy
        exact ((colbit rs k i).1 (hle i ((colbit rs m i).2 ⟨hi, hym⟩))).2
  obtain ⟨m, hm, hu⟩ := key 256 j0 hj0 (by omega)
  refine nat_ne_zero.2 ⟨m, ?_⟩
  rw [Nat.testBit_and, hm, upN, upTo_bit, hu, decide_eq_true ((down_bit hc hg m).1 hm).1]; rfl
/-- Just the irreducible attributes are in up arrows. -/
theorem up_irr {a : Int} {rs : List Int} {m : Nat} (hm : m < a.toNat) : isCp (fullO rs) (cols a rs) m = false ↔ ∃ g, g < rs.length ∧ (upN a rs g).testBit m = true := by
  rw [← Bool.not_eq_true, isCp_col hm]
  have hub : ∀ g, (upN a rs g).testBit m = true ↔ upB a rs g m = true := fun g => by rw [upN, upTo_bit, decide_eq_true hm, Bool.true_and]
  unfold Cp
  constructor
  · intro h
    obtain ⟨g, hg⟩ := Classical.not_forall.1 h
    obtain ⟨hgl, hg⟩ := Classical.not_imp.1 hg
    obtain ⟨hall, hg⟩ := Classical.not_imp.1 hg
    have hgl := full_bit.1 hgl
    rw [Int.toNat_natCast] at hg
    refine ⟨g, hgl, (hub g).2 (up_iff.2 ⟨?_, fun n hn hne hl => ?_⟩)⟩
    · cases hb : bit (rs.getD g 0) m with
      | false => rfl
      | true => exact absurd ((colbit rs m g).2 ⟨hgl, hb⟩) hg
    · have := hall _ (col_mem.2 ⟨n, hn, rfl⟩) (by intro e; exact hne (by omega)) (by rw [Int.toNat_natCast, Int.toNat_natCast]; exact hl)
      rw [Int.toNat_natCast] at this
      exact ((colbit rs n g).1 this).2
  · rintro ⟨g, hg, hu⟩ h
    obtain ⟨h1, h2⟩ := up_iff.1 ((hub g).1 hu)
    have := h g (full_bit.2 hg) fun y hy hne hl => by
      obtain ⟨n, hn, rfl⟩ := col_mem.1 hy
      rw [Int.toNat_natCast, Int.toNat_natCast] at hl
      rw [Int.toNat_natCast]
      exact (colbit rs n g).2 ⟨hg, h2 n hn (by intro e; exact hne (by rw [e])) hl⟩
    rw [Int.toNat_natCast] at this
    rw [((colbit rs m g).1 this).2] at h1
    cases h1
/-- The attributes in up arrows of the first k objects. -/
def someTo (a : Int) (rs : List Int) : Nat → Nat
  | 0 => 0
  | k + 1 => someTo a rs k ||| upN a rs k
theorem someTo_bit (a : Int) (rs : List Int) (k j : Nat) : (someTo a rs k).testBit j = true ↔ ∃ g, g < k ∧ (upN a rs g).testBit j = true := by
  induction k with
  | zero => simp [someTo]
  | succ k ih =>
    rw [someTo, Nat.testBit_or, Bool.or_eq_true, ih]
    constructor
    · rintro (⟨g, h1, h2⟩ | h)
      · exact ⟨g, by omega, h2⟩
      · exact ⟨k, by omega, h⟩
    · rintro ⟨g, h1, h2⟩
      rcases Nat.lt_or_eq_of_le (Nat.le_of_lt_succ h1) with h' | rfl
      · exact .inl ⟨g, h', h2⟩
      · exact .inr h2
theorem someTo_lt (a : Int) (rs : List Int) (k : Nat) : someTo a rs k < 2 ^ a.toNat := by
  induction k with
  | zero => exact Nat.pow_pos (by omega)
  | succ k ih => exact Nat.or_lt_two_pow ih (upTo_lt a rs k _)
theorem irrA_some {a : Int} {rs : List Int} (hc : isCtx a rs = true) {m : Nat} (hm : (m : Int) < a) : irrA a rs m = (someTo a rs rs.length).testBit m := by
  have hm' : m < a.toNat := by omega
  rw [irrA, hc, decide_eq_true ⟨by omega, hm⟩, redA, if_pos ⟨hc, by omega, hm⟩, Int.toNat_natCast, Bool.true_and, Bool.true_and, Bool.eq_iff_iff, someTo_bit, ← up_irr hm', Bool.not_eq_true']
theorem irrO_down {a : Int} {rs : List Int} (hc : isCtx a rs = true) {g : Nat} (hg : g < rs.length) : irrO a rs g = (downOf a rs g != 0) := by
  rw [irrO, hc, decide_eq_true ⟨by omega, by omega⟩, redO, if_pos ⟨hc, by omega, by omega⟩, downOf, if_pos ⟨hc, by omega, by omega⟩, Int.toNat_natCast, Bool.true_and, Bool.true_and, Bool.eq_iff_iff, Bool.not_eq_true', down_irr hc hg]
  simp
theorem irrO_double {a : Int} {rs : List Int} (hc : isCtx a rs = true) {g : Nat} (hg : g < rs.length) (h : irrO a rs g = true) : downOf a rs g &&& upOf a rs g ≠ 0 := by
  rw [irrO_down hc hg] at h
  simp only [bne_iff_ne, ne_eq] at h
  have e1 : downOf a rs g = downN a rs g := by rw [downOf, if_pos ⟨hc, by omega, by omega⟩, Int.toNat_natCast]
  have e2 : upOf a rs g = upN a rs g := by rw [upOf, if_pos ⟨hc, by omega, by omega⟩, Int.toNat_natCast]
  rw [e1] at h ⊢
  rw [e2]
  exact down_up hc hg h
end Go.Proofs.YtbpicpapkpomhaaDoor.Tab
