/-
  Inference (pure): lists that say the same, rules that follow from the other ones, proofs, what is not needed in a premise.
-/
import Derived.Test.YthodmmckekgkdaaMrg3
namespace Go.Proofs.Ythodmmckekgkdaa.Infer
open Go Go.RowKit Mem Sets Ctx Tab Rule Stem Lectic
set_option maxRecDepth 100000

/-- A rule follows: all sets that respect the list respect it. -/
def Sem (l : List PInt) (r : PInt) : Prop := ∀ u, allR l u = true → RB r u = true
theorem allIn_lt2 {l : List PInt} (h : allIn 8 l = true) : ∀ k, k < l.length → (rl l k).2.toNat < 2 ^ 8 := fun _ hk => allIn_lt h hk
theorem isR_lt {r : PInt} (h : isR 8 r = true) : r.1.toNat < 2 ^ 8 ∧ r.2.toNat < 2 ^ 8 := by
  unfold isR at h
  rw [Bool.and_eq_true] at h
  have h1 := set8 h.1
  have h2 := set8 h.2
  omega
theorem follow1_sem {l : List PInt} {r : PInt} (hl : allIn 8 l = true) (hr : isR 8 r = true) : follow1 l r = true ↔ Sem l r := by
  have hs := cl_spec (allIn_lt2 hl) (isR_lt hr).1
  unfold follow1
  rw [decide_eq_true_eq, and_le']
  constructor
  · intro h u hu
    exact RB_iff.2 fun h1 => h.trans (hs.least u hu h1)
  · intro h
    exact RB_iff.1 (h _ hs.all) hs.le
theorem follows_eq {l : List PInt} {r : PInt} (hl : allIn 8 l = true) (hr : isR 8 r = true) : follows l r = follow1 l r := by
  rw [follows, hl, hr]; rfl
theorem allR_mem {l : List PInt} {u : Nat} : allR l u = true ↔ ∀ r ∈ l, RB r u = true := List.all_eq_true
theorem allFollow_sem {a b : List PInt} (ha : allIn 8 a = true) (hb : allIn 8 b = true) : allFollow a b = true ↔ ∀ u, allR b u = true → allR a u = true := by
  unfold allFollow
  rw [List.all_eq_true]
  constructor
  · intro h u hu
    exact allR_mem.2 fun r hr => (follow1_sem hb (List.all_eq_true.1 ha r hr)).1 (h r hr) u hu
  · intro h r hr
    exact (follow1_sem hb (List.all_eq_true.1 ha r hr)).2 fun u hu => allR_mem.1 (h u hu) r hr
/-- Do two lists say the same? -/
def equiv (a b : List PInt) : Bool := allIn 8 a && (allIn 8 b && (allFollow a b && allFollow b a))
theorem equiv_sem {a b : List PInt} (ha : allIn 8 a = true) (hb : allIn 8 b = true) : equiv a b = true ↔ ∀ u, allR a u = allR b u := by
  rw [equiv, ha, hb, Bool.true_and, Bool.true_and, Bool.and_eq_true, allFollow_sem ha hb, allFollow_sem hb ha]
  constructor
  · rintro ⟨h1, h2⟩ u
    exact Bool.eq_iff_iff.2 ⟨h2 u, h1 u⟩
  · intro h
    exact ⟨fun u hu => by rw [h]; exact hu, fun u hu => by rw [← h]; exact hu⟩

/-- A list without one of its rules. -/
def without (l : List PInt) (k : Nat) : List PInt := l.take k ++ l.drop (k + 1)
theorem without_len {l : List PInt} {k : Nat} (hk : k < l.length) : (without l k).length = l.length - 1 := by
  rw [without, List.length_append, List.length_take, List.length_drop]; omega
theorem without_mem {l : List PInt} {k : Nat} {r : PInt} (h : r ∈ without l k) : r ∈ l := by
  rcases List.mem_append.1 h with h | h
  · exact List.mem_of_mem_take h
  · exact List.mem_of_mem_drop h
theorem without_in {n : Int} {l : List PInt} {k : Nat} (h : allIn n l = true) : allIn n (without l k) = true := List.all_eq_true.2 fun r hr => List.all_eq_true.1 h r (without_mem hr)
theorem split_at {l : List PInt} {k : Nat} (hk : k < l.length) : l = l.take k ++ rl l k :: l.drop (k + 1) := by
  rw [rl, List.getD_eq_getElem?_getD, List.getElem?_eq_getElem hk, Option.getD_some, List.getElem_cons_drop, List.take_append_drop]
theorem allR_without {l : List PInt} {k : Nat} (hk : k < l.length) (u : Nat) : allR l u = (allR (without l k) u && RB (rl l k) u) := by
  conv => lhs; rw [split_at hk]
  unfold allR without
  rw [List.all_append, List.all_cons, List.all_append]
  cases (l.take k).all (fun p => RB p u) <;> cases RB (rl l k) u <;> simp
/-- Does rule k follow from the other ones? -/
def isRed (l : List PInt) (k : Nat) : Bool := decide (k < l.length) && follows (without l k) (rl l k)
def redundant (l : List PInt) (k : Int) : Bool := decide (0 ≤ k) && isRed l k.toNat
theorem isRed_sem {l : List PInt} {k : Nat} (hl : allIn 8 l = true) (hk : k < l.length) : isRed l k = true ↔ Sem (without l k) (rl l k) := by
  have hr := List.all_eq_true.1 hl _ (rl_mem hk)
  rw [isRed, decide_eq_true hk, Bool.true_and, follows_eq (without_in hl) hr, follow1_sem (without_in hl) hr]
theorem red_same {l : List PInt} {k : Nat} (hl : allIn 8 l = true) (h : isRed l k = true) (u : Nat) : allR (without l k) u = allR l u := by
  have hk : k < l.length := by
    rw [isRed, Bool.and_eq_true, decide_eq_true_eq] at h; exact h.1
  have hs := (isRed_sem hl hk).1 h
  rw [allR_without hk u]
  cases h1 : allR (without l k) u with
  | true => rw [hs u h1]; rfl
  | false => rfl
/-- The rules that stay, from number k on. -/
def minF : Nat → List PInt → Nat → List PInt
  | 0, l, _ => l
  | f + 1, l, k => if k < l.length then (if isRed l k = true then minF f (without l k) k else minF f l (k + 1)) else l
theorem minF_in {n : Int} : ∀ (f : Nat) (l : List PInt) (k : Nat), allIn n l = true → allIn n (minF f l k) = true
  | 0, _, _, h => h
  | f + 1, l, k, h => by
    unfold minF
    split
    · split
      · exact minF_in f _ _ (without_in h)
      · exact minF_in f _ _ h
    · exact h
theorem minF_same : ∀ (f : Nat) (l : List PInt) (k : Nat), allIn 8 l = true → ∀ u, allR (minF f l k) u = allR l u
  | 0, _, _, _, _ => rfl
  | f + 1, l, k, h, u => by
    unfold minF
    split
    · split
      · rename_i h2
        rw [minF_same f _ _ (without_in h) u, red_same h h2]
      · exact minF_same f _ _ h u
    · rfl
theorem without_get {l : List PInt} {k i : Nat} (hi : i < k) : rl (without l k) i = rl l i := by
  rw [rl, rl, List.getD_eq_getElem?_getD, List.getD_eq_getElem?_getD, without]
  by_cases h : i < l.length
  · rw [List.getElem?_append_left (by rw [List.length_take]; omega), List.getElem?_take, if_pos hi]
  · rw [List.getElem?_eq_none (by rw [List.length_append, List.length_take, List.length_drop]; omega), List.getElem?_eq_none (by omega)]
theorem without_two {l : List PInt} {k i : Nat} (hi : i < k) {r : PInt} (h : r ∈ without (without l k) i) : r ∈ without l i := by
  have e : without (without l k) i = l.take i ++ ((l.take k).drop (i + 1) ++ l.drop (k + 1)) := by
    by_cases hk : k ≤ l.length
    · unfold without
      rw [List.take_append_of_le_length (by rw [List.length_take]; omega), List.take_take, Nat.min_eq_left (by omega), List.drop_append_of_le_length (by rw [List.length_take]; omega)]
    · unfold without
      rw [List.take_of_length_le (by omega : l.length ≤ k), List.drop_of_length_le (by omega : l.length ≤ k + 1), List.append_nil, List.append_nil]
  rw [e] at h
  unfold without
  rcases List.mem_append.1 h with h | h
  · exact List.mem_append.2 (.inl h)
  · refine List.mem_append.2 (.inr ?_)
    rcases List.mem_append.1 h with h | h
    · rw [List.drop_take] at h
      exact List.mem_of_mem_take h
    · have : l.drop (k + 1) = (l.drop (i + 1)).drop (k - i) := by rw [List.drop_drop]; congr 1; omega
      rw [this] at h
      exact List.mem_of_mem_drop h
/-- None of the rules that were passed follows from the other ones, now as later. -/
theorem minF_irr : ∀ (f : Nat) (l : List PInt) (k : Nat), allIn 8 l = true → l.length ≤ f + k → (∀ i, i < k → isRed l i = false) → ∀ i, isRed (minF f l k) i = false
  | 0, l, k, _, hlen, h, i => by
    by_cases hi : i < k
    · exact h i hi
    · show isRed l i = false
      rw [isRed, decide_eq_false (by omega)]; rfl
  | f + 1, l, k, hl, hlen, h, i => by
    unfold minF
    split
    · rename_i hk
      split
      · refine minF_irr f _ _ (without_in hl) (by rw [without_len hk]; omega) (fun j hj => ?_) i
        cases hr : isRed (without l k) j with
        | false => rfl
        | true =>
          exfalso
          have hjl : j < (without l k).length := by rw [isRed, Bool.and_eq_true, decide_eq_true_eq] at hr; exact hr.1
          have hs := (isRed_sem (without_in hl) hjl).1 hr
          rw [without_get hj] at hs
          have := (isRed_sem hl (show j < l.length by omega)).2 fun u hu => hs u (allR_mem.2 fun r hr => allR_mem.1 hu r (without_two hj hr))
          rw [h j hj] at this; cases this
      · rename_i hn
        refine minF_irr f _ _ hl (by omega) (fun j hj => ?_) i
        rcases Nat.lt_or_eq_of_le (Nat.le_of_lt_succ hj) with h1 | rfl
        · exact h j h1
        · simpa using hn
    · rename_i hk
      by_cases hi : i < k
      · exact h i hi
      · rw [isRed, decide_eq_false (by omega)]; rfl
theorem minF_len : ∀ (f : Nat) (l : List PInt) (k : Nat), (minF f l k).length ≤ l.length
  | 0, _, _ => Nat.le_refl _
  | f + 1, l, k => by
    unfold minF
    split
    · rename_i hk
      split
      · have := minF_len f (without l k) k
        rw [without_len hk] at this; omega
      · exact minF_len f _ _
    · exact Nat.le_refl _
def minimal (l : List PInt) : List PInt := if allIn 8 l = true then minF l.length l 0 else []
theorem minimal_in {l : List PInt} : allIn 8 (minimal l) = true := by
  unfold minimal
  split
  · rename_i h; exact minF_in _ _ _ h
  · rfl
theorem minimal_len (l : List PInt) : (minimal l).length ≤ l.length := by
  unfold minimal
  split
  · exact minF_len _ _ _
  · exact Nat.zero_le _
theorem minimal_irr (l : List PInt) (i : Nat) : isRed (minimal l) i = false := by
  unfold minimal
  split
  · rename_i h; exact minF_irr _ _ _ h (by omega) (fun j hj => by omega) i
  · rfl
theorem minimal_equiv {l : List PInt} (h : 0 < (minimal l).length) : equiv l (minimal l) = true := by
  have h8 : allIn 8 l = true := by
    cases h8 : allIn 8 l with
    | true => rfl
    | false => unfold minimal at h; rw [if_neg (by rw [h8]; decide)] at h; exact absurd h (by simp)
  rw [equiv_sem h8 minimal_in]
  intro u
  rw [minimal, if_pos h8, minF_same _ _ _ h8 u]

/-! The shortest list. -/
/-- Closing by rules is a closure operator. -/
def clN (n : Nat) (l : List PInt) (s : Nat) : Nat := Rule.cl l (s % 2 ^ n)
theorem mod_le (s n : Nat) : Le (s % 2 ^ n) s := fun j h => by rw [Nat.testBit_mod_two_pow, Bool.and_eq_true] at h; exact h.2
theorem mod_mono {s t : Nat} (n : Nat) (h : Le s t) : Le (s % 2 ^ n) (t % 2 ^ n) := fun j hj => by
  rw [Nat.testBit_mod_two_pow, Bool.and_eq_true] at hj ⊢
  exact ⟨hj.1, h j hj.2⟩
theorem areR_lt {n : Nat} {l : List PInt} (h : areR (n : Int) l = true) : n ≤ 6 ∧ ∀ k, k < l.length → (rl l k).1.toNat < 2 ^ n ∧ (rl l k).2.toNat < 2 ^ n := by
  have hin := areR_all h
  unfold areR at h
  rw [Bool.and_eq_true, Bool.and_eq_true, decide_eq_true_eq] at h
  refine ⟨by omega, fun k hk => ?_⟩
  obtain ⟨h1, h2⟩ := allIn_rl hin hk
  obtain ⟨x, hx, hx2, -⟩ := isSet_to_nat h1
  obtain ⟨y, hy, hy2, -⟩ := isSet_to_nat h2
  rw [Int.toNat_natCast] at hx2 hy2
  rw [hx, hy, Int.toNat_natCast, Int.toNat_natCast]
  exact ⟨hx2, hy2⟩
theorem clN_ok {n : Nat} {l : List PInt} (h : areR (n : Int) l = true) : Clo n (clN n l) := by
  obtain ⟨hn, hlt⟩ := areR_lt h
  have h8 : ∀ k, k < l.length → (rl l k).2.toNat < 2 ^ 8 := fun k hk => Nat.lt_of_lt_of_le (hlt k hk).2 (Nat.pow_le_pow_right (by omega) (by omega))
  have hp := Nat.pow_pos (n := n) (show 0 < 2 by omega)
  have hm : ∀ s, s % 2 ^ n < 2 ^ n := fun s => Nat.mod_lt _ hp
  have hm8 : ∀ s, s % 2 ^ n < 2 ^ 8 := fun s => Nat.lt_of_lt_of_le (hm s) (Nat.pow_le_pow_right (by omega) (by omega))
  have hcl : ∀ s, clN n l s < 2 ^ n := fun s => cl_lt (by omega) (fun k hk => (hlt k hk).2) (hm s)
  exact {
    n8 := by omega
    lt := hcl
    ext := fun s hs j hj => by
      have := (cl_spec h8 (hm8 s)).le
      rw [Nat.mod_eq_of_lt hs] at this
      unfold clN
      rw [Nat.mod_eq_of_lt hs]
      exact this j hj
    mono := fun s t hst j hj => by
      have h1 := cl_spec h8 (hm8 s)
      have h2 := cl_spec h8 (hm8 t)
      exact h1.least _ h2.all ((mod_mono n hst).trans h2.le) j hj
    idem := fun s _ => by
      have h1 := cl_spec h8 (hm8 s)
      show Rule.cl l (clN n l s % 2 ^ n) = clN n l s
      rw [Nat.mod_eq_of_lt (hcl s)]
      exact (cl_spec h8 (Nat.lt_of_lt_of_le (hcl s) (Nat.pow_le_pow_right (by omega) (by omega)))).eq ⟨Le.refl _, h1.all, fun u _ h => h⟩ }
theorem clN_eq {n s : Nat} {l : List PInt} (hs : s < 2 ^ n) : clN n l s = Rule.cl l s := by rw [clN, Nat.mod_eq_of_lt hs]
/-- The pseudo-closed sets of a list of rules, and their rules. -/
def shortP (n : Nat) (l : List PInt) : List Int := sortLectic (asInts (psTo (clN n l) (2 ^ n)))
def shortN (n : Nat) (l : List PInt) : List Nat := (shortP n l).map Int.toNat
def shortOf (n : Nat) (l : List PInt) : List PInt := (shortN n l).map (ruleOf (clN n l))
theorem ps_256 {cl : Nat → Nat} {n : Nat} (hn : n ≤ 8) {x : Nat} (h : x ∈ psTo cl (2 ^ n)) : x < 256 := Nat.lt_of_lt_of_le (ps_lt h) (pow_le8 hn)
theorem sortPs_eq {cl : Nat → Nat} {n : Nat} (hn : n ≤ 8) : sortLectic (asInts (psTo cl (2 ^ n))) = sortTo (asInts (psTo cl (2 ^ n))) (asInts (psTo cl (2 ^ n))).length := by
  rw [sortLectic, if_pos (asInts_sets fun x hx => ps_256 hn hx)]
theorem sortPs_mem {cl : Nat → Nat} {n : Nat} (hn : n ≤ 8) {z : Int} : z ∈ sortLectic (asInts (psTo cl (2 ^ n))) ↔ ∃ x : Nat, x ∈ psTo cl (2 ^ n) ∧ z = (x : Int) := by
  rw [sortPs_eq hn, sortTo_mem _ _ (Nat.le_refl _), List.take_length, List.mem_map]
  exact ⟨fun ⟨x, h1, h2⟩ => ⟨x, h1, h2.symm⟩, fun ⟨x, h1, h2⟩ => ⟨x, h1, h2.symm⟩⟩
theorem sortPs_asc {cl : Nat → Nat} {n : Nat} (hn : n ≤ 8) : Asc key (sortLectic (asInts (psTo cl (2 ^ n)))) := by
  rw [sortPs_eq hn]
  refine asc_sortTo _ (fun x hx => ?_) _ (Nat.le_refl _)
  obtain ⟨y, hy, rfl⟩ := List.mem_map.1 hx
  have := ps_256 hn hy
  omega
theorem shortN_base {n : Nat} {l : List PInt} (hn : n ≤ 8) : Base (clN n l) n (shortN n l) where
  mem := fun x => by
    unfold shortN shortP
    rw [List.mem_map]
    constructor
    · rintro ⟨z, hz, rfl⟩
      obtain ⟨y, hy, rfl⟩ := (sortPs_mem hn).1 hz
      rw [Int.toNat_natCast]; exact hy
    · intro hx
      exact ⟨(x : Int), (sortPs_mem hn).2 ⟨x, hx, rfl⟩, by simp⟩
  nodup := by
    have h1 : (sortLectic (asInts (psTo (clN n l) (2 ^ n)))).Nodup := (sortPs_asc hn).imp fun h he => by rw [he] at h; omega
    unfold shortN shortP
    refine nodup_map h1 fun x hx y hy he => ?_
    obtain ⟨u, -, rfl⟩ := (sortPs_mem hn).1 hx
    obtain ⟨v, -, rfl⟩ := (sortPs_mem hn).1 hy
    rw [Int.toNat_natCast, Int.toNat_natCast] at he
    rw [he]
theorem shortOf_in {n : Nat} {l : List PInt} (h : areR (n : Int) l = true) : allIn 8 (shortOf n l) = true := by
  obtain ⟨hn, -⟩ := areR_lt h
  refine List.all_eq_true.2 fun r hr => ?_
  obtain ⟨p, hp, rfl⟩ := List.mem_map.1 hr
  have h1 := (shortN_base (n := n) (l := l) (by omega)).lt hp
  have h2 := (clN_ok h).lt p
  have h3 := pow_le8 (n := n) (by omega)
  show (isSet 8 (p : Int) && isSet 8 ((clN n l p : Nat) : Int)) = true
  rw [isSet8_true (by omega), isSet8_true (by omega)]; rfl
theorem shortOf_same {n : Nat} {l : List PInt} (h : areR (n : Int) l = true) (u : Nat) : allR (shortOf n l) u = allR l u := by
  obtain ⟨hn, hlt⟩ := areR_lt h
  have C := clN_ok h
  have hb := shortN_base (n := n) (l := l) (by omega)
  have hp := Nat.pow_pos (n := n) (show 0 < 2 by omega)
  have h8 : ∀ k, k < l.length → (rl l k).2.toNat < 2 ^ 8 := fun k hk => Nat.lt_of_lt_of_le (hlt k hk).2 (Nat.pow_le_pow_right (by omega) (by omega))
  -- both look at the bits below n alone
  have low : ∀ {x t : Nat}, x < 2 ^ n → (Le x t ↔ Le x (t % 2 ^ n)) := fun {x t} hx => ⟨fun h1 j hj => by
    rw [Nat.testBit_mod_two_pow, Bool.and_eq_true, decide_eq_true_eq]; exact ⟨bit_lt hx hj, h1 j hj⟩, fun h1 => h1.trans (mod_le t n)⟩
  have hL : allR l u = allR l (u % 2 ^ n) := by
    rw [Bool.eq_iff_iff, allR_iff, allR_iff]
    refine forall_congr' fun r => forall_congr' fun hr => ?_
    obtain ⟨k, hk, rfl⟩ := mem_rl hr
    rw [low (hlt k hk).1, low (hlt k hk).2]
  have hS : allR (shortOf n l) u = allR (shortOf n l) (u % 2 ^ n) := by
    rw [Bool.eq_iff_iff, shortOf, allR_map, allR_map]
    refine forall_congr' fun p => forall_congr' fun hpm => ?_
    rw [low (hb.lt hpm), low (C.lt p)]
  rw [hL, hS]
  have hu : u % 2 ^ n < 2 ^ n := Nat.mod_lt _ hp
  generalize u % 2 ^ n = t at hu
  have h28 : t < 2 ^ 8 := Nat.lt_of_lt_of_le hu (Nat.pow_le_pow_right (by omega) (by omega))
  have key : ∀ t, t < 2 ^ n → (allR l t = true ↔ clN n l t = t) := fun t ht => by
    have ht8 : t < 2 ^ 8 := Nat.lt_of_lt_of_le ht (Nat.pow_le_pow_right (by omega) (by omega))
    rw [clN_eq ht]
    have hs := cl_spec h8 ht8
    constructor
    · intro h1; exact hs.eq ⟨Le.refl t, h1, fun u _ h => h⟩
    · intro h1; have := hs.all; rwa [h1] at this
  rw [Bool.eq_iff_iff, key t hu, shortOf, allR_map]
  constructor
  · intro h1
    exact resp_closed C hu fun p hp => h1 p ((hb.mem p).2 hp)
  · intro h1 p hp hle
    exact closed_resp C h1 hle
theorem shortOf_equiv {n : Nat} {l : List PInt} (h : areR (n : Int) l = true) : equiv l (shortOf n l) = true := by
  rw [equiv_sem (allIn_to8 (areR_all h)) (shortOf_in h)]
  exact fun u => (shortOf_same h u).symm
theorem shortOf_short {n : Nat} {l : List PInt} (h : areR (n : Int) l = true) : (shortOf n l).length ≤ l.length := by
  obtain ⟨hn, hlt⟩ := areR_lt h
  have C := clN_ok h
  have hb := shortN_base (n := n) (l := l) (by omega)
  have h8 : ∀ k, k < l.length → (rl l k).2.toNat < 2 ^ 8 := fun k hk => Nat.lt_of_lt_of_le (hlt k hk).2 (Nat.pow_le_pow_right (by omega) (by omega))
  have := base_short (l := l) C hb (fun k hk => ?_) (fun p hp => ?_)
  · simpa [shortOf] using this
  · rw [clN_eq (hlt k hk).1]
    have hs := cl_spec h8 (s := (rl l k).1.toNat) (Nat.lt_of_lt_of_le (hlt k hk).1 (Nat.pow_le_pow_right (by omega) (by omega)))
    exact allR_iff.1 hs.all _ (rl_mem hk) hs.le
  · have hps := (ps_iff (hb.lt hp)).1 ((hb.mem p).1 hp)
    cases hr : allR l p with
    | false => rfl
    | true =>
      exfalso
      have hlt8 : p < 2 ^ 8 := Nat.lt_of_lt_of_le (hb.lt hp) (Nat.pow_le_pow_right (by omega) (by omega))
      have : Rule.cl l p = p := (cl_spec h8 hlt8).eq ⟨Le.refl p, hr, fun u _ h => h⟩
      exact hps.1 (by rw [clN_eq (hb.lt hp), this])
theorem shortOf_len {n : Nat} {l : List PInt} (h : areR (n : Int) l = true) : (shortOf n l).length ≤ 32 := by
  have := base_len (clN_ok h) (shortN_base (n := n) (l := l) (by have := (areR_lt h).1; omega)) (areR_lt h).1
  simpa [shortOf] using this

/-! Proofs. -/
/-- The first rule that a set does not respect. -/
def badAt (l : List PInt) (s : Nat) : Nat := l.findIdx fun r => !RB r s
/-- The steps of a proof: the rule's number and the set behind it. -/
def steps (l : List PInt) (t : Nat) : Nat → Nat → List PInt
  | 0, _ => []
  | f + 1, s => if t &&& s = t then [] else ((badAt l s : Nat), ((s ||| (rl l (badAt l s)).2.toNat : Nat) : Int)) :: steps l t f (s ||| (rl l (badAt l s)).2.toNat)
def proofOf (l : List PInt) (r : PInt) : List PInt := if follows l r = true then steps l r.2.toNat 256 r.1.toNat else []
theorem badAt_lt {l : List PInt} {s : Nat} (h : allR l s = false) : badAt l s < l.length := by
  unfold badAt
  rw [List.findIdx_lt_length]
  unfold allR at h
  rw [List.all_eq_false] at h
  obtain ⟨r, hr, h2⟩ := h
  exact ⟨r, hr, by simpa using h2⟩
theorem badAt_bad {l : List PInt} {s : Nat} (h : allR l s = false) : RB (rl l (badAt l s)) s = false := by
  have hl := badAt_lt h
  have := List.findIdx_getElem (w := hl)
  rw [rl, List.getD_eq_getElem?_getD, List.getElem?_eq_getElem hl, Option.getD_some]
  rw [Bool.not_eq_true'] at this
  exact this
theorem badAt_before {l : List PInt} {s k : Nat} (hk : k < badAt l s) : RB (rl l k) s = true := by
  have := List.not_of_lt_findIdx hk
  have hl : k < l.length := Nat.lt_of_lt_of_le hk List.findIdx_le_length
  rw [rl, List.getD_eq_getElem?_getD, List.getElem?_eq_getElem hl, Option.getD_some]
  simpa using this
/-- A proof is right. -/
def chk (l : List PInt) : Nat → List PInt → Option Nat
  | s, [] => some s
  | s, p :: ps => if 0 ≤ p.1 ∧ p.1 < (l.length : Int) ∧ (rl l p.1.toNat).1.toNat &&& s = (rl l p.1.toNat).1.toNat ∧ p.2 = ((s ||| (rl l p.1.toNat).2.toNat : Nat) : Int) then chk l (s ||| (rl l p.1.toNat).2.toNat) ps else none
def ends (t : Nat) : Option Nat → Bool
  | some s => decide (t &&& s = t)
  | none => false
def checkProof (l : List PInt) (r : PInt) (ps : List PInt) : Bool := allIn 8 l && (isR 8 r && ends r.2.toNat (chk l r.1.toNat ps))
theorem chk_le {l : List PInt} {t : Nat} (ht : allR l t = true) : ∀ {ps : List PInt} {s x : Nat}, Le s t → chk l s ps = some x → Le x t
  | [], s, x, h, hc => by cases hc; exact h
  | p :: ps, s, x, h, hc => by
    unfold chk at hc
    split at hc
    · rename_i hp
      refine chk_le ht ?_ hc
      obtain ⟨k, hk⟩ := Int.eq_ofNat_of_zero_le hp.1
      have hkl : k < l.length := by have := hp.2.1; omega
      rw [hk, Int.toNat_natCast] at hp ⊢
      have h1 : Le (rl l k).2.toNat t := allR_iff.1 ht _ (rl_mem hkl) ((and_le'.1 hp.2.2.1).trans h)
      intro j hj
      rw [Nat.testBit_or, Bool.or_eq_true] at hj
      rcases hj with hj | hj
      · exact h j hj
      · exact h1 j hj
    · cases hc
/-- What a right proof ends with follows. -/
theorem check_follows {l : List PInt} {r : PInt} {ps : List PInt} (h : checkProof l r ps = true) : follows l r = true := by
  rw [checkProof, Bool.and_eq_true, Bool.and_eq_true] at h
  obtain ⟨h8, hr, h2⟩ := h
  have hs := cl_spec (allIn_lt2 h8) (isR_lt hr).1
  rw [follows, h8, hr, Bool.true_and, Bool.true_and, decide_eq_true_eq, and_le']
  cases hc : chk l r.1.toNat ps with
  | none => rw [hc] at h2; cases h2
  | some x =>
    rw [hc] at h2
    have h3 : r.2.toNat &&& x = r.2.toNat := of_decide_eq_true h2
    exact (and_le'.1 h3).trans (chk_le hs.all hs.le hc)
theorem or_lt8 {x y : Nat} (hx : x < 2 ^ 8) (hy : y < 2 ^ 8) : x ||| y < 2 ^ 8 := Nat.or_lt_two_pow hx hy
/-- The steps as they are made. -/
theorem steps_step {l : List PInt} {t s c : Nat} (_h8 : allIn 8 l = true) (_hs : s < 2 ^ 8) (hc : Cl l s c) (hn : ¬ t &&& s = t) (ht : Le t c) :
    allR l s = false ∧ badAt l s < l.length ∧ Cl l (s ||| (rl l (badAt l s)).2.toNat) c ∧ s < s ||| (rl l (badAt l s)).2.toNat ∧ (rl l (badAt l s)).1.toNat &&& s = (rl l (badAt l s)).1.toNat := by
  have hb : allR l s = false := by
    cases hr : allR l s with
    | false => rfl
    | true =>
      have : c = s := hc.eq ⟨Le.refl s, hr, fun u _ h => h⟩
      rw [this] at ht
      exact absurd (and_le'.2 ht) hn
  have hl := badAt_lt hb
  have hbad := badAt_bad hb
  have h1 : Le (rl l (badAt l s)).1.toNat s ∧ ¬ Le (rl l (badAt l s)).2.toNat s := by
    have := mt RB_iff.2 (by rw [hbad]; decide)
    exact Classical.not_imp.1 this
  have h2 : Le (rl l (badAt l s)).2.toNat c := allR_iff.1 hc.all _ (rl_mem hl) (h1.1.trans hc.le)
  refine ⟨hb, hl, ⟨fun j hj => ?_, hc.all, fun u hu hsu => hc.least u hu (le_orl.trans hsu)⟩, ?_, and_le'.2 h1.1⟩
  · rw [Nat.testBit_or, Bool.or_eq_true] at hj
    rcases hj with hj | hj
    · exact hc.le j hj
    · exact h2 j hj
  · refine le_ne_lt le_orl fun he => h1.2 fun j hj => ?_
    rw [← he, Nat.testBit_or, hj, Bool.or_true]
theorem cl_256 {l : List PInt} {s c : Nat} (h8 : allIn 8 l = true) (hs : s < 2 ^ 8) (hc : Cl l s c) : c < 2 ^ 8 := by
  have := cl_spec (allIn_lt2 h8) hs
  rw [hc.eq this]
  exact cl_lt (by omega) (allIn_lt2 h8) hs
/-- A proof that is made is right. -/
theorem steps_right {l : List PInt} {t c : Nat} (h8 : allIn 8 l = true) (ht : Le t c) : ∀ (f s : Nat), s < 2 ^ 8 → Cl l s c → 2 ^ 8 - s ≤ f → ends t (chk l s (steps l t f s)) = true
  | 0, s, hs, _, hf => by omega
  | f + 1, s, hs, hc, hf => by
    unfold steps
    split
    · rename_i h; exact decide_eq_true h
    · rename_i h
      obtain ⟨hb, hl, hc2, hlt, hif⟩ := steps_step h8 hs hc h ht
      have hs2 : s ||| (rl l (badAt l s)).2.toNat < 2 ^ 8 := or_lt8 hs (allIn_lt h8 hl)
      unfold chk
      rw [if_pos ⟨by show (0 : Int) ≤ ((badAt l s : Nat) : Int); omega, by show ((badAt l s : Nat) : Int) < _; omega, by show (rl l ((badAt l s : Nat) : Int).toNat).1.toNat &&& s = _; rw [Int.toNat_natCast]; exact hif, by show _ = ((s ||| (rl l ((badAt l s : Nat) : Int).toNat).2.toNat : Nat) : Int); rw [Int.toNat_natCast]⟩]
      show ends t (chk l (s ||| (rl l ((badAt l s : Nat) : Int).toNat).2.toNat) _) = true
      rw [Int.toNat_natCast]
      exact steps_right h8 ht f _ hs2 hc2 (by omega)
theorem proof_right {l : List PInt} {r : PInt} (h : follows l r = true) : checkProof l r (proofOf l r) = true := by
  have h0 := h
  rw [follows, Bool.and_eq_true, Bool.and_eq_true, decide_eq_true_eq, and_le'] at h0
  obtain ⟨⟨h8, hr⟩, hle⟩ := h0
  have hlt := isR_lt hr
  rw [checkProof, h8, hr, Bool.true_and, Bool.true_and, proofOf, if_pos h]
  exact steps_right h8 hle 256 _ hlt.1 (cl_spec (allIn_lt2 h8) hlt.1) (by omega)

/-! What is not needed in a premise. -/
/-- The premise x of a rule with conclusion y when the elements below e have been tried. -/
def leftTo (l : List PInt) (y x : Nat) : Nat → Nat
  | 0 => x
  | e + 1 => if (leftTo l y x e).testBit e = true ∧ y &&& Rule.cl l (leftTo l y x e - 2 ^ e) = y then leftTo l y x e - 2 ^ e else leftTo l y x e
theorem leftTo_succ (l : List PInt) (y x e : Nat) : leftTo l y x (e + 1) = if (leftTo l y x e).testBit e = true ∧ y &&& Rule.cl l (leftTo l y x e - 2 ^ e) = y then leftTo l y x e - 2 ^ e else leftTo l y x e := rfl
theorem sub_bit : ∀ s : Nat, s < 256 → ∀ e : Nat, e < 8 → s.testBit e = true → (s - 2 ^ e) &&& s = s - 2 ^ e := by decide +kernel
def leftR (l : List PInt) (n : Nat) (r : PInt) : PInt := (((leftTo l r.2.toNat r.1.toNat n : Nat) : Int), r.2)
def leftAll (l : List PInt) (n : Nat) : List PInt := l.map (leftR l n)
theorem leftTo_le (l : List PInt) {y x : Nat} (hx : x < 256) : ∀ e, e ≤ 8 → Le (leftTo l y x e) x
  | 0, _ => Le.refl x
  | e + 1, he => by
    have ih := leftTo_le l hx e (by omega) (y := y)
    rw [leftTo_succ]
    split
    · rename_i h
      have hlt : leftTo l y x e < 256 := by have := le_num ih; omega
      have := sub_bit _ hlt e (by omega) h.1
      exact (and_le'.1 this).trans ih
    · exact ih
theorem leftTo_follows {l : List PInt} {y x : Nat} (h : y &&& Rule.cl l x = y) : ∀ e, y &&& Rule.cl l (leftTo l y x e) = y
  | 0 => h
  | e + 1 => by
    rw [leftTo_succ]
    split
    · rename_i h2; exact h2.2
    · exact leftTo_follows h e
theorem leftAll_in {n : Nat} {l : List PInt} (h : areR (n : Int) l = true) : allIn 8 (leftAll l n) = true := by
  have h8 := allIn_to8 (areR_all h)
  have hn := (areR_lt h).1
  refine List.all_eq_true.2 fun r hr => ?_
  obtain ⟨q, hq, rfl⟩ := List.mem_map.1 hr
  have hq8 := List.all_eq_true.1 h8 q hq
  have hlt := isR_lt hq8
  have := le_num (leftTo_le l (y := q.2.toNat) hlt.1 n (by omega))
  unfold isR at hq8 ⊢
  rw [Bool.and_eq_true] at hq8
  show (isSet 8 ((leftTo l q.2.toNat q.1.toNat n : Nat) : Int) && isSet 8 q.2) = true
  rw [hq8.2, isSet8_true (by omega)]; rfl
theorem leftAll_equiv {n : Nat} {l : List PInt} (h : areR (n : Int) l = true) : equiv l (leftAll l n) = true := by
  have h8 := allIn_to8 (areR_all h)
  have hn := (areR_lt h).1
  rw [equiv_sem h8 (leftAll_in h)]
  intro u
  rw [Bool.eq_iff_iff, allR_iff, allR_iff]
  constructor
  · intro hu r hr hle
    obtain ⟨q, hq, rfl⟩ := List.mem_map.1 hr
    have hq8 := List.all_eq_true.1 h8 q hq
    have hlt := isR_lt hq8
    have hll := leftTo_le l (y := q.2.toNat) hlt.1 n (by omega)
    change Le ((leftTo l q.2.toNat q.1.toNat n : Nat) : Int).toNat u at hle
    rw [Int.toNat_natCast] at hle
    have hx8 : leftTo l q.2.toNat q.1.toNat n < 2 ^ 8 := by have := le_num hll; omega
    have hcl := cl_spec (allIn_lt2 h8) hlt.1
    have h1 : q.2.toNat &&& Rule.cl l q.1.toNat = q.2.toNat := and_le'.2 (allR_iff.1 hcl.all q hq hcl.le)
    have h2 := leftTo_follows h1 n
    exact (and_le'.1 h2).trans ((cl_spec (allIn_lt2 h8) hx8).least u (allR_iff.2 hu) hle)
  · intro hu q hq hle
    have hq8 := List.all_eq_true.1 h8 q hq
    have hlt := isR_lt hq8
    have hll := leftTo_le l (y := q.2.toNat) hlt.1 n (by omega)
    exact hu (leftR l n q) (List.mem_map_of_mem hq) (by
      show Le ((leftTo l q.2.toNat q.1.toNat n : Nat) : Int).toNat u
      rw [Int.toNat_natCast]
      exact hll.trans hle)
end Go.Proofs.Ythodmmckekgkdaa.Infer
