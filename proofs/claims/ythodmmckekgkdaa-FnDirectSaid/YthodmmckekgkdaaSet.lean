/-
  Chapter 2's functions that take and return numbers and bools only, one contract each, of the program and of the model: no memory is touched.
-/
import Derived.Test.YthodmmckekgkdaaProg
import Derived.WalkKit
import Derived.Outline
import Derived.LoopTactic
import Derived.Lib.Hide
import Derived.Below
import Derived.BigQuiet
import Derived.BigGuardPart
import Derived.Laws.BitsLemmas
namespace Go.Proofs.Ythodmmckekgkdaa.Sets
open Go Go.RowKit
set_option maxRecDepth 100000

theorem l1In (x lo hi : Int) (w : World) :
    Calls Try.prog 73 #[.int .i64 x, .int .i64 lo, .int .i64 hi] w fun e w' => e = .returned (.bool (decide (lo ≤ x ∧ x ≤ hi))) ∧ w' = w := by
  by_cases h1 : lo ≤ x
  · by_cases h2 : x ≤ hi
    · go_enter Try.func73, Try.ntmps73
      go_wp2_with fail
      go_ret
      exact ⟨by simp [h1, h2], rfl⟩
    · go_enter Try.func73, Try.ntmps73
      go_wp2_with fail
      go_ret
      exact ⟨by simp [h2], rfl⟩
  · go_enter Try.func73, Try.ntmps73
    go_wp2_with fail
    go_ret
    exact ⟨by simp; omega, rfl⟩

/-- s is a set of n elements. -/
def isSet (n s : Int) : Bool := decide ((0 ≤ n ∧ n ≤ 8) ∧ 0 ≤ s ∧ s ≤ 2 ^ n.toNat - 1)

theorem isSet_out {n s : Int} (h : ¬ (0 ≤ n ∧ n ≤ 8)) : isSet n s = false := by simp only [isSet, h, false_and, decide_false]
theorem isSet_neg {n s : Int} (h : ¬ 0 ≤ s) : isSet n s = false := by simp only [isSet, h, and_false, false_and, decide_false]

theorem cases9 {n : Int} (h : 0 ≤ n ∧ n ≤ 8) : n = 0 ∨ n = 1 ∨ n = 2 ∨ n = 3 ∨ n = 4 ∨ n = 5 ∨ n = 6 ∨ n = 7 ∨ n = 8 := by omega

theorem spec_isSet (n s : Int) (w : World) :
    Calls Try.prog 72 #[.int .i64 n, .int .i64 s] w fun e w' => e = .returned (.bool (isSet n s)) ∧ w' = w := by
  by_cases h : 0 ≤ n ∧ n ≤ 8
  · have hd : decide (0 ≤ n ∧ n ≤ 8) = true := by simp [h]
    rcases cases9 h with rfl | rfl | rfl | rfl | rfl | rfl | rfl | rfl | rfl
    all_goals
      go_enter Try.func72, Try.ntmps72
      go_wp2_with fail
      refine (l1In _ _ _ _).mono ?_
      rintro e w' ⟨rfl, rfl⟩
      go_wp2_with fail
      refine (l1In _ _ _ _).mono ?_
      rintro e w' ⟨rfl, rfl⟩
      go_wp2_with fail
      go_ret
      exact ⟨by simp [isSet], rfl⟩
  · have hd : decide (0 ≤ n ∧ n ≤ 8) = false := by simp only [h, decide_false]
    go_enter Try.func72, Try.ntmps72
    go_wp2_with fail
    refine (l1In _ _ _ _).mono ?_
    rintro e w' ⟨rfl, rfl⟩
    go_wp2_with fail
    go_ret
    exact ⟨by simp [isSet_out h], rfl⟩

theorem impl_isSet (n s : Int) (w : World) :
    Calls Try.prog 98 #[.int .i64 n, .int .i64 s] w fun e w' => e = .returned (.bool (isSet n s)) ∧ w' = w := by
  by_cases h1 : 0 ≤ n
  · by_cases h2 : n ≤ 8
    · by_cases h3 : 0 ≤ s
      · rcases cases9 ⟨h1, h2⟩ with rfl | rfl | rfl | rfl | rfl | rfl | rfl | rfl | rfl
        all_goals
          go_enter Try.func98, Try.ntmps98
          go_wp2_with fail
          go_ret
          exact ⟨by simp [isSet, h3]; omega, rfl⟩
      · go_enter Try.func98, Try.ntmps98
        go_wp2_with fail
        go_ret
        exact ⟨by simp [isSet_neg (n := n) (s := s) (by omega)], rfl⟩
    · go_enter Try.func98, Try.ntmps98
      go_wp2_with fail
      go_ret
      exact ⟨by simp [isSet_out (n := n) (s := s) (by omega)], rfl⟩
  · go_enter Try.func98, Try.ntmps98
    go_wp2_with fail
    go_ret
    exact ⟨by simp [isSet_out (n := n) (s := s) (by omega)], rfl⟩

theorem impl_any (s : Int) (w : World) :
    Calls Try.prog 85 #[.int .i64 s] w fun e w' => e = .returned (.bool (isSet 8 s)) ∧ w' = w := by
  go_enter Try.func85, Try.ntmps85
  go_wp2_with fail
  refine (impl_isSet _ _ _).mono ?_
  rintro e w' ⟨rfl, rfl⟩
  go_wp2_with fail
  go_ret
  exact ⟨rfl, rfl⟩


theorem isSet8 (s : Int) : isSet 8 s = decide (0 ≤ s ∧ s ≤ 255) := by simp [isSet]
theorem isSet8_true {s : Int} (h : 0 ≤ s ∧ s ≤ 255) : isSet 8 s = true := by rw [isSet8]; simp [h]
theorem isSet8_false {s : Int} (h : ¬ (0 ≤ s ∧ s ≤ 255)) : isSet 8 s = false := by rw [isSet8]; simp only [h, decide_false]

/-- The elements of a set's number. -/
def bit (s e : Int) : Bool := s.toNat.testBit e.toNat
theorem bit_walk (s e : Int) (he : 0 ≤ e ∧ e ≤ 7) (hs : 0 ≤ s ∧ s ≤ 255) : (bits .and .i64 (s / 2 ^ e.toNat) 1 == 1) = bit s e := by
  obtain ⟨m, rfl⟩ := Int.eq_ofNat_of_zero_le hs.1
  obtain ⟨k, rfl⟩ := Int.eq_ofNat_of_zero_le he.1
  have key : ∀ k : Nat, k < 8 → ∀ m : Nat, m < 256 → (bits .and .i64 ((m : Int) / 2 ^ ((k : Int)).toNat) 1 == 1) = bit m k := by decide +kernel
  exact key k (by omega) m (by omega)

theorem l2Has (s e : Int) (he : 0 ≤ e ∧ e ≤ 7) (hs : 0 ≤ s ∧ s ≤ 255) (w : World) :
    Calls Try.prog 114 #[.int .i64 s, .int .i64 e] w fun r w' => r = .returned (.bool (bit s e)) ∧ w' = w := by
  go_enter Try.func114, Try.ntmps114
  go_wp2_with fail
  go_ret
  exact ⟨by simp [bit_walk s e he hs], rfl⟩

def hasEl (s e : Int) : Bool := isSet 8 s && decide (0 ≤ e ∧ e ≤ 7) && bit s e

theorem impl_hasEl (s e : Int) (w : World) :
    Calls Try.prog 125 #[.int .i64 s, .int .i64 e] w fun r w' => r = .returned (.bool (hasEl s e)) ∧ w' = w := by
  by_cases hs : 0 ≤ s ∧ s ≤ 255
  · have h1 := isSet8_true hs
    by_cases he : 0 ≤ e
    · by_cases he7 : e < 8
      · have h2 : decide (0 ≤ e ∧ e ≤ 7) = true := by simp [he]; omega
        go_enter Try.func125, Try.ntmps125
        go_wp2_with fail
        refine (impl_any _ _).mono ?_
        rintro e w' ⟨rfl, rfl⟩
        go_wp2_with fail
        go_ret
        exact ⟨by simp [hasEl, h1, h2, bit_walk s e ⟨he, by omega⟩ hs], rfl⟩
      · have h2 : decide (0 ≤ e ∧ e ≤ 7) = false := by simp; omega
        go_enter Try.func125, Try.ntmps125
        go_wp2_with fail
        refine (impl_any _ _).mono ?_
        rintro e w' ⟨rfl, rfl⟩
        go_wp2_with fail
        go_ret
        exact ⟨by simp [hasEl, h2], rfl⟩
    · have h2 : decide (0 ≤ e ∧ e ≤ 7) = false := by simp; omega
      go_enter Try.func125, Try.ntmps125
      go_wp2_with fail
      refine (impl_any _ _).mono ?_
      rintro e w' ⟨rfl, rfl⟩
      go_wp2_with fail
      go_ret
      exact ⟨by simp [hasEl, h2], rfl⟩
  · have h1 := isSet8_false hs
    go_enter Try.func125, Try.ntmps125
    go_wp2_with fail
    refine (impl_any _ _).mono ?_
    rintro e w' ⟨rfl, rfl⟩
    go_wp2_with fail
    go_ret
    exact ⟨by simp [hasEl, h1], rfl⟩

def full (n : Int) : Int := if 0 ≤ n ∧ n ≤ 8 then 2 ^ n.toNat - 1 else 0
theorem spec_full (n : Int) (w : World) :
    Calls Try.prog 26 #[.int .i64 n] w fun r w' => r = .returned (.int .i64 (full n)) ∧ w' = w := by
  by_cases h : 0 ≤ n ∧ n ≤ 8
  · have hd : decide (0 ≤ n ∧ n ≤ 8) = true := by simp [h]
    rcases cases9 h with rfl | rfl | rfl | rfl | rfl | rfl | rfl | rfl | rfl
    all_goals
      go_enter Try.func26, Try.ntmps26
      go_wp2_with fail
      refine (l1In _ _ _ _).mono ?_
      rintro e w' ⟨rfl, rfl⟩
      go_wp2_with fail
      go_ret
      exact ⟨by simp [full], rfl⟩
  · have hd : decide (0 ≤ n ∧ n ≤ 8) = false := by simp only [h, decide_false]
    go_enter Try.func26, Try.ntmps26
    go_wp2_with fail
    refine (l1In _ _ _ _).mono ?_
    rintro e w' ⟨rfl, rfl⟩
    go_wp2_with fail
    go_ret
    exact ⟨by simp [full, h], rfl⟩
theorem impl_full (n : Int) (w : World) :
    Calls Try.prog 120 #[.int .i64 n] w fun r w' => r = .returned (.int .i64 (full n)) ∧ w' = w := by
  by_cases h1 : 0 ≤ n
  · by_cases h2 : n ≤ 8
    · rcases cases9 ⟨h1, h2⟩ with rfl | rfl | rfl | rfl | rfl | rfl | rfl | rfl | rfl
      all_goals
        go_enter Try.func120, Try.ntmps120
        go_wp2_with fail
        go_ret
        exact ⟨by simp [full], rfl⟩
    · go_enter Try.func120, Try.ntmps120
      go_wp2_with fail
      go_ret
      exact ⟨by rw [full, if_neg (by omega)]; rfl, rfl⟩
  · go_enter Try.func120, Try.ntmps120
    go_wp2_with fail
    go_ret
    exact ⟨by rw [full, if_neg (by omega)]; rfl, rfl⟩

def subB (s t : Int) : Bool := bits .and .i64 s t == s
def sub (s t : Int) : Bool := isSet 8 s && isSet 8 t && subB s t
theorem and_nat (m k : Nat) (hm : m < 256) (hk : k < 256) : bits .and .i64 (m : Int) (k : Int) = ((m &&& k : Nat) : Int) :=
  (bits_nat .i64 8 (by decide) (fun n h0 h1 => by rw [IntKind.wrap_i64]; omega) m k hm hk).1
theorem andNot_zero (m k : Nat) (hm : m < 256) (hk : k < 256) : (bits .andNot .i64 (m : Int) (k : Int) == 0) = (bits .and .i64 (m : Int) (k : Int) == m) := by
  rw [and_nat m k hm hk]
  have e : bits .andNot .i64 (m : Int) (k : Int) = IntKind.i64.wrap ((BitVec.ofNat 64 m &&& ~~~ BitVec.ofNat 64 k).toNat : Nat) := by
    simp only [bits, BitVec.ofInt_natCast]; rfl
  have hle : (BitVec.ofNat 64 m &&& ~~~ BitVec.ofNat 64 k).toNat ≤ m := by
    rw [BitVec.toNat_and, BitVec.toNat_ofNat, Nat.mod_eq_of_lt (by omega)]
    exact Nat.and_le_left
  rw [e, IntKind.wrap_i64]
  rw [Bool.eq_iff_iff]
  simp only [beq_iff_eq]
  constructor
  · intro h
    have h0 : (BitVec.ofNat 64 m &&& ~~~ BitVec.ofNat 64 k) = 0#64 := BitVec.eq_of_toNat_eq (by rw [BitVec.toNat_zero]; omega)
    have : BitVec.ofNat 64 m &&& BitVec.ofNat 64 k = BitVec.ofNat 64 m := by
      apply BitVec.eq_of_getLsbD_eq
      intro i hi
      have := congrArg (fun x => x.getLsbD i) h0
      simp only [BitVec.getLsbD_and, BitVec.getLsbD_not, BitVec.getLsbD_zero] at this ⊢
      simp only [hi, decide_true, Bool.true_and] at this
      revert this
      cases (BitVec.ofNat 64 m).getLsbD i <;> cases (BitVec.ofNat 64 k).getLsbD i <;> simp
    have h2 := congrArg BitVec.toNat this
    rw [BitVec.toNat_and, BitVec.toNat_ofNat, BitVec.toNat_ofNat, Nat.mod_eq_of_lt (by omega), Nat.mod_eq_of_lt (by omega)] at h2
    exact_mod_cast h2
  · intro h
    have h' : m &&& k = m := by exact_mod_cast h
    have : (BitVec.ofNat 64 m &&& ~~~ BitVec.ofNat 64 k) = 0#64 := by
      have h3 : BitVec.ofNat 64 m &&& BitVec.ofNat 64 k = BitVec.ofNat 64 m := BitVec.eq_of_toNat_eq (by
        rw [BitVec.toNat_and, BitVec.toNat_ofNat, BitVec.toNat_ofNat, Nat.mod_eq_of_lt (by omega), Nat.mod_eq_of_lt (by omega)]; exact h')
      apply BitVec.eq_of_getLsbD_eq
      intro i hi
      have := congrArg (fun x => x.getLsbD i) h3
      simp only [BitVec.getLsbD_and, BitVec.getLsbD_not, BitVec.getLsbD_zero] at this ⊢
      simp only [hi, decide_true, Bool.true_and]
      revert this
      cases (BitVec.ofNat 64 m).getLsbD i <;> cases (BitVec.ofNat 64 k).getLsbD i <;> simp
    rw [this]
    decide

theorem andNot_sub (s t : Int) (hs : 0 ≤ s ∧ s ≤ 255) (ht : 0 ≤ t ∧ t ≤ 255) : (bits .andNot .i64 s t == 0) = subB s t := by
  obtain ⟨m, rfl⟩ := Int.eq_ofNat_of_zero_le hs.1
  obtain ⟨k, rfl⟩ := Int.eq_ofNat_of_zero_le ht.1
  exact andNot_zero m k (by omega) (by omega)

theorem impl_sub (s t : Int) (w : World) :
    Calls Try.prog 87 #[.int .i64 s, .int .i64 t] w fun r w' => r = .returned (.bool (sub s t)) ∧ w' = w := by
  by_cases hs : 0 ≤ s ∧ s ≤ 255
  · have h1 := isSet8_true hs
    by_cases ht : 0 ≤ t ∧ t ≤ 255
    · have h2 := isSet8_true ht
      go_enter Try.func87, Try.ntmps87
      go_wp2_with fail
      refine (impl_any _ _).mono ?_
      rintro e w' ⟨rfl, rfl⟩
      go_wp2_with fail
      refine (impl_any _ _).mono ?_
      rintro e w' ⟨rfl, rfl⟩
      go_wp2_with fail
      go_ret
      exact ⟨by simp [sub, h1, h2, andNot_sub s t hs ht], rfl⟩
    · have h2 := isSet8_false ht
      go_enter Try.func87, Try.ntmps87
      go_wp2_with fail
      refine (impl_any _ _).mono ?_
      rintro e w' ⟨rfl, rfl⟩
      go_wp2_with fail
      refine (impl_any _ _).mono ?_
      rintro e w' ⟨rfl, rfl⟩
      go_wp2_with fail
      go_ret
      exact ⟨by simp [sub, h2], rfl⟩
  · have h1 := isSet8_false hs
    go_enter Try.func87, Try.ntmps87
    go_wp2_with fail
    refine (impl_any _ _).mono ?_
    rintro e w' ⟨rfl, rfl⟩
    go_wp2_with fail
    go_ret
    exact ⟨by simp [sub, h1], rfl⟩

/-- The number of the least element of d alone, as the program computes it. -/
def least (d : Int) : Int := bits .and .i64 d (wrap64 (-d))
def beforeB (s t : Int) : Bool := bits .and .i64 t (least (bits .xor .i64 s t)) != 0
def before (s t : Int) : Bool := isSet 8 s && isSet 8 t && beforeB s t
theorem beforeB_self (s : Int) (hs : 0 ≤ s ∧ s ≤ 255) : beforeB s s = false := by
  obtain ⟨m, rfl⟩ := Int.eq_ofNat_of_zero_le hs.1
  have key : ∀ m : Nat, m < 256 → beforeB (m : Int) m = false := by decide +kernel
  exact key m (by omega)
theorem spec_before (s t : Int) (w : World) :
    Calls Try.prog 117 #[.int .i64 s, .int .i64 t] w fun r w' => r = .returned (.bool (before s t)) ∧ w' = w := by
  by_cases hs : 0 ≤ s ∧ s ≤ 255
  · have h1 := isSet8_true hs
    by_cases ht : 0 ≤ t ∧ t ≤ 255
    · have h2 := isSet8_true ht
      by_cases hst : s = t
      · subst hst
        have hq : ((s : Int) == s) = true := by simp
        have hb := beforeB_self s hs
        go_enter Try.func117, Try.ntmps117
        go_wp2_with fail
        refine (spec_isSet _ _ _).mono ?_
        rintro e w' ⟨rfl, rfl⟩
        go_wp2_with fail
        refine (spec_isSet _ _ _).mono ?_
        rintro e w' ⟨rfl, rfl⟩
        go_wp2_with fail
        go_ret
        exact ⟨by simp [before, hb], rfl⟩
      · have hq : ((s : Int) == t) = false := by simp [hst]
        go_enter Try.func117, Try.ntmps117
        go_wp2_with fail
        refine (spec_isSet _ _ _).mono ?_
        rintro e w' ⟨rfl, rfl⟩
        go_wp2_with fail
        refine (spec_isSet _ _ _).mono ?_
        rintro e w' ⟨rfl, rfl⟩
        go_wp2_with fail
        go_ret
        exact ⟨by simp [before, beforeB, least, h1, h2], rfl⟩
    · have h2 := isSet8_false ht
      go_enter Try.func117, Try.ntmps117
      go_wp2_with fail
      refine (spec_isSet _ _ _).mono ?_
      rintro e w' ⟨rfl, rfl⟩
      go_wp2_with fail
      refine (spec_isSet _ _ _).mono ?_
      rintro e w' ⟨rfl, rfl⟩
      go_wp2_with fail
      go_ret
      exact ⟨by simp [before, h2], rfl⟩
  · have h1 := isSet8_false hs
    go_enter Try.func117, Try.ntmps117
    go_wp2_with fail
    refine (spec_isSet _ _ _).mono ?_
    rintro e w' ⟨rfl, rfl⟩
    go_wp2_with fail
    go_ret
    exact ⟨by simp [before, h1], rfl⟩
/-- How many elements a set's number has. -/
def pop (m : Nat) : Nat := ((List.range 8).filter fun e => m.testBit e).length
theorem pop_step (x : Nat) (hx : x < 256) : pop x = x % 2 + pop (x / 2) := by
  have key : ∀ x : Nat, x < 256 → pop x = x % 2 + pop (x / 2) := by decide +kernel
  exact key x hx
theorem pop_le (x : Nat) : pop x ≤ 8 := Nat.le_trans (List.length_filter_le _ _) (by simp)
theorem and_one (x : Nat) (hx : x < 256) : bits .and .i64 (x : Int) 1 = ((x % 2 : Nat) : Int) := by
  have := and_nat x 1 hx (by omega)
  rw [Nat.and_one_is_mod] at this
  exact_mod_cast this

def count (s : Int) : Int := if isSet 8 s then (pop s.toNat : Int) else 0

end Go.Proofs.Ythodmmckekgkdaa.Sets
