/-
  Decimal numerals, as lists of bytes: what the model's reader computes, and that it is the only number with this numeral (no Go, no condition).
-/
import Derived.Lib.ItoaNum
import Derived.Lib.ItoaMem
import Derived.Lib.Atoi
import Derived.Lib.AtoiTie
namespace Go.Proofs.YtkdnjebjbadloaaGreatDoor.NumPure
open Go Go.Lib
set_option maxRecDepth 100000

theorem decFrom_append : ∀ (l r : List UInt8) (acc : Nat), decFrom acc (l ++ r) = (decFrom acc l).bind fun a => decFrom a r
  | [], r, acc => by simp [decFrom]
  | b :: l, r, acc => by
    simp only [List.cons_append, decFrom]
    cases digitVal b with
    | none => simp
    | some d => simpa using decFrom_append l r (acc * 10 + d)

theorem digitVal_digit : ∀ d : Fin 10, digitVal (UInt8.ofNat (48 + d.val)) = some d.val := by decide +kernel
theorem digitVal_of (d : Nat) (h : d < 10) : digitVal (UInt8.ofNat (48 + d)) = some d := digitVal_digit ⟨d, h⟩

theorem decFrom_decDigits (u : Nat) : decFrom 0 (decDigits u) = some u := by
  induction u using Nat.strongRecOn with
  | ind u ih =>
    by_cases h : u < 10
    · rw [decDigits_one h]
      simp only [decFrom, digitVal_of u h]
      simp
    · rw [decDigits, dif_neg h, decFrom_append, ih (u / 10) (by omega)]
      simp only [Option.bind_some, decFrom, digitVal_of (u % 10) (by omega)]
      rw [show u / 10 * 10 + u % 10 = u by omega]

theorem decDigits_ne (u : Nat) : decDigits u ≠ [] := by
  intro h
  have := congrArg List.length h
  rw [decDigits_length] at this
  have := nDigits_pos u
  simp at *
  omega

theorem decDigits_head (u : Nat) : (decDigits u).head? ≠ some 45 := by
  intro h
  match hl : decDigits u with
  | [] => exact decDigits_ne u hl
  | b :: r =>
    rw [hl] at h
    simp at h
    subst h
    have := decFrom_decDigits u
    rw [hl] at this
    simp [decFrom, show digitVal 45 = none from by decide +kernel] at this

theorem nDigits_le : ∀ (k u : Nat), u < 10 ^ (k + 1) → nDigits u ≤ k + 1
  | 0, u, h => by rw [nDigits_small (by simpa using h)]; omega
  | k + 1, u, h => by
    by_cases hs : u < 10
    · rw [nDigits_small hs]; omega
    · rw [nDigits_big hs]
      have : u / 10 < 10 ^ (k + 1) := by
        rw [Nat.pow_succ] at h
        omega
      have := nDigits_le k _ this
      omega

/-- What stands behind the sign. -/
def decTail (t : List UInt8) (most : Nat) : Option Nat := if t.length < 1 ∨ most < t.length then none else decFrom 0 t

/-- What the model's reader computes. -/
def rd (l : List UInt8) (most : Nat) : Option Int :=
  if l.head? = some 45 then (decTail l.tail most).bind fun m => if itoa (-(m : Int)) = l then some (-(m : Int)) else none
  else (decTail l most).bind fun m => if itoa (m : Int) = l then some (m : Int) else none

theorem decTail_decDigits (u most : Nat) (h : u < 10 ^ most) (hm : 1 ≤ most) : decTail (decDigits u) most = some u := by
  unfold decTail
  have h1 := nDigits_pos u
  obtain ⟨k, rfl⟩ : ∃ k, most = k + 1 := ⟨most - 1, by omega⟩
  have h2 := nDigits_le k u h
  rw [if_neg (by rw [decDigits_length]; omega), decFrom_decDigits]

theorem decTail_lt {t : List UInt8} {most m : Nat} (h : decTail t most = some m) : m < 10 ^ most := by
  unfold decTail at h
  split at h
  · cases h
  · rename_i hn
    have h1 := decFrom_lt t 0 m h
    have : 10 ^ t.length ≤ 10 ^ most := Nat.pow_le_pow_right (by omega) (by omega)
    omega

theorem rd_iff (l : List UInt8) (most : Nat) (hm : 1 ≤ most) (v : Int) : rd l most = some v ↔ itoa v = l ∧ v.natAbs < 10 ^ most := by
  constructor
  · intro h
    unfold rd at h
    split at h
    · obtain ⟨m, h1, h2⟩ := Option.bind_eq_some_iff.1 h
      have := decTail_lt h1
      split at h2
      · rename_i he
        cases h2
        exact ⟨he, by rw [Int.natAbs_neg]; simpa using this⟩
      · cases h2
    · obtain ⟨m, h1, h2⟩ := Option.bind_eq_some_iff.1 h
      have := decTail_lt h1
      split at h2
      · rename_i he
        cases h2
        exact ⟨he, by simpa using this⟩
      · cases h2
  · rintro ⟨rfl, hlt⟩
    unfold rd
    by_cases hv : v < 0
    · obtain ⟨u, rfl⟩ : ∃ u : Nat, v = -(u : Int) := ⟨v.natAbs, by omega⟩
      have hi := itoa_neg u (by omega)
      rw [hi, if_pos (by simp)]
      simp only [List.tail_cons]
      rw [decTail_decDigits u most (by simpa using hlt) hm]
      simp [hi]
    · obtain ⟨u, rfl⟩ : ∃ u : Nat, v = (u : Int) := ⟨v.toNat, by omega⟩
      have hi := itoa_nonneg u
      rw [hi, if_neg (decDigits_head u), decTail_decDigits u most (by simpa using hlt) hm]
      simp [hi]

theorem atoi_itoa (v : Int) : atoi (itoa v) = some v := by
  by_cases hv : v < 0
  · obtain ⟨u, rfl⟩ : ∃ u : Nat, v = -(u : Int) := ⟨v.natAbs, by omega⟩
    rw [itoa_neg u (by omega), atoi]
    simp [decNat, decFrom_decDigits, decDigits_ne]
  · obtain ⟨u, rfl⟩ : ∃ u : Nat, v = (u : Int) := ⟨v.toNat, by omega⟩
    rw [itoa_nonneg u]
    match hl : decDigits u with
    | [] => exact absurd hl (decDigits_ne u)
    | b :: r =>
      have h45 : b ≠ 45 := fun e => decDigits_head u (by rw [hl, e]; rfl)
      have h43 : b ≠ 43 := fun e => by
        have := decFrom_decDigits u
        rw [hl, e] at this
        simp [decFrom, show digitVal 43 = none from by decide +kernel] at this
      rw [atoi, ← hl]
      simp [h45, h43, decNat, decFrom_decDigits, decDigits_ne]

theorem itoa_short (v : Int) (h : v.natAbs < 10 ^ 17) : (itoa v).length ≤ 18 := by
  have h2 := nDigits_le 16 v.natAbs h
  by_cases hv : v < 0
  · obtain ⟨u, rfl⟩ : ∃ u : Nat, v = -(u : Int) := ⟨v.natAbs, by omega⟩
    rw [itoa_neg u (by omega), List.length_cons, decDigits_length]
    rw [Int.natAbs_neg, Int.natAbs_natCast] at h2
    omega
  · obtain ⟨u, rfl⟩ : ∃ u : Nat, v = (u : Int) := ⟨v.toNat, by omega⟩
    rw [itoa_nonneg u, decDigits_length]
    rw [Int.natAbs_natCast] at h2
    omega

theorem atoiAll_itoa (v : Int) (h : v.natAbs < 10 ^ 17) : atoiAll (itoa v) = .ok v := by
  rw [atoiAll_short _ (itoa_short v h), atoi_itoa]
  rfl
theorem itoa_inj {v v' : Int} (h : itoa v = itoa v') : v = v' := by
  have h1 := atoi_itoa v
  rw [h, atoi_itoa] at h1
  exact (Option.some.inj h1).symm
end Go.Proofs.YtkdnjebjbadloaaGreatDoor.NumPure
