/-
  The closed sets of a closure operator in lectic order, and the step from one to the next (Ganter): pure.
-/
import Derived.Test.YthodmmckekgkdaaDerLaws
namespace Go.Proofs.Ythodmmckekgkdaa.Ctx
open Go Go.RowKit Mem Sets
set_option maxRecDepth 100000

/-- The number whose bits are those of m in the other order. -/
def mir (m : Nat) : Nat := (List.range 8).foldl (fun acc k => if m.testBit k then acc + 2 ^ (7 - k) else acc) 0
def low (d : Nat) : Nat := (List.range 8).foldr (fun k acc => if d.testBit k then 2 ^ k else acc) 0
theorem mir_low : ∀ m : Nat, m < 256 → ∀ k : Nat, k < 256 → (k &&& low (m ^^^ k) != 0) = decide (mir m < mir k) := by decide +kernel
theorem mir_mir : ∀ m : Nat, m < 256 → mir (mir m) = m := by decide +kernel
theorem mir_lt : ∀ m : Nat, m < 256 → mir m < 256 := by decide +kernel
theorem low_at : ∀ d : Nat, d < 256 → ∀ j : Nat, j < 8 → d % 2 ^ j = 0 → d.testBit j = true → low d = 2 ^ j := by decide +kernel
theorem low_ex : ∀ d : Nat, d < 256 → d ≠ 0 → ∃ j, j < 8 ∧ d % 2 ^ j = 0 ∧ d.testBit j = true := by decide +kernel
theorem mir_inj {x y : Nat} (hx : x < 256) (hy : y < 256) (h : mir x = mir y) : x = y := by rw [← mir_mir x hx, ← mir_mir y hy, h]

/-- s stands ahead of t: they agree below some bit that t alone has. -/
def LexAt (m s t : Nat) : Prop := s % 2 ^ m = t % 2 ^ m ∧ s.testBit m = false ∧ t.testBit m = true
theorem and_two (t m : Nat) : (t &&& 2 ^ m != 0) = t.testBit m := by
  cases h : t.testBit m with
  | true =>
    have : t &&& 2 ^ m = 2 ^ m := by
      apply Nat.eq_of_testBit_eq
      intro j
      rw [Nat.testBit_and, Nat.testBit_two_pow]
      by_cases hj : m = j
      · subst hj; simp [h]
      · simp [hj]
    rw [this]
    have := Nat.pow_pos (n := m) (show 0 < 2 by omega)
    simp
  | false =>
    have : t &&& 2 ^ m = 0 := by
      apply Nat.eq_of_testBit_eq
      intro j
      rw [Nat.testBit_and, Nat.testBit_two_pow]
      by_cases hj : m = j
      · subst hj; simp [h]
      · simp [hj]
    rw [this]; rfl
theorem xor_mod (s t m : Nat) : (s ^^^ t) % 2 ^ m = 0 ↔ s % 2 ^ m = t % 2 ^ m := by
  constructor
  · intro h
    apply Nat.eq_of_testBit_eq
    intro j
    have := congrArg (fun x => x.testBit j) h
    simp only [Nat.testBit_mod_two_pow, Nat.testBit_xor, Nat.zero_testBit] at this ⊢
    by_cases hj : j < m
    · simp [hj] at this ⊢; exact this
    · simp [hj]
  · intro h
    apply Nat.eq_of_testBit_eq
    intro j
    have := congrArg (fun x => x.testBit j) h
    simp only [Nat.testBit_mod_two_pow, Nat.testBit_xor, Nat.zero_testBit] at this ⊢
    by_cases hj : j < m
    · simp [hj] at this ⊢; exact this
    · simp [hj]
theorem lexAt_mir {m s t : Nat} (hs : s < 256) (ht : t < 256) (h : LexAt m s t) : mir s < mir t := by
  obtain ⟨h1, h2, h3⟩ := h
  have hm : m < 8 := bit_lt (n := 8) ht h3
  have hx : s ^^^ t < 256 := Nat.xor_lt_two_pow (n := 8) hs ht
  have hl := low_at _ hx m hm ((xor_mod s t m).2 h1) (by rw [Nat.testBit_xor, h2, h3]; rfl)
  have := mir_low s hs t ht
  rw [hl, and_two, h3] at this
  simpa using this.symm
theorem mir_lexAt {s t : Nat} (hs : s < 256) (ht : t < 256) (h : mir s < mir t) : ∃ m, LexAt m s t := by
  have hx : s ^^^ t < 256 := Nat.xor_lt_two_pow (n := 8) hs ht
  have hne : s ^^^ t ≠ 0 := by
    intro h0
    have : s = t := by
      apply Nat.eq_of_testBit_eq
      intro j
      have := congrArg (fun x => x.testBit j) h0
      simpa [Nat.testBit_xor] using this
    subst this
    omega
  obtain ⟨m, hm, h1, h2⟩ := low_ex _ hx hne
  have hl := low_at _ hx m hm h1 h2
  have := mir_low s hs t ht
  rw [hl, and_two, decide_eq_true h] at this
  have h3 : t.testBit m = true := this
  rw [Nat.testBit_xor, h3] at h2
  exact ⟨m, (xor_mod s t m).1 h1, by simpa using h2, h3⟩

/-- A closure operator on the sets below 2 ^ n. -/
structure Clo (n : Nat) (cl : Nat → Nat) : Prop where
  n8 : n ≤ 8
  lt : ∀ s, cl s < 2 ^ n
  ext : ∀ s, s < 2 ^ n → ∀ j, s.testBit j = true → (cl s).testBit j = true
  mono : ∀ s t, (∀ j, s.testBit j = true → t.testBit j = true) → ∀ j, (cl s).testBit j = true → (cl t).testBit j = true
  idem : ∀ s, s < 2 ^ n → cl (cl s) = cl s
/-- The set that is tried at m. -/
def tryAt (cl : Nat → Nat) (s m : Nat) : Nat := cl (s % 2 ^ m ||| 2 ^ m)
def nextTo (cl : Nat → Nat) (s : Nat) : Nat → Option Nat
  | 0 => none
  | m + 1 => if s.testBit m = true then nextTo cl s m else if tryAt cl s m % 2 ^ m = s % 2 ^ m then some (tryAt cl s m) else nextTo cl s m
theorem or_bit (s m j : Nat) : (s % 2 ^ m ||| 2 ^ m).testBit j = true ↔ (j < m ∧ s.testBit j = true) ∨ j = m := by
  rw [Nat.testBit_or, Nat.testBit_mod_two_pow, Nat.testBit_two_pow]
  simp only [Bool.or_eq_true, Bool.and_eq_true, decide_eq_true_eq]
  constructor
  · rintro (h | h)
    · exact .inl h
    · exact .inr h.symm
  · rintro (h | h)
    · exact .inl h
    · exact .inr h.symm
theorem or_lt {n s m : Nat} (hm : m < n) : s % 2 ^ m ||| 2 ^ m < 2 ^ n := by
  have hp := Nat.pow_pos (n := m) (show 0 < 2 by omega)
  have h1 : 2 ^ m < 2 ^ n := Nat.pow_lt_pow_right (by omega) hm
  exact Nat.or_lt_two_pow (by have := Nat.mod_lt s hp; omega) h1
/-- What a found set is like. -/
theorem nextTo_some {cl : Nat → Nat} {s : Nat} : ∀ {m x : Nat}, nextTo cl s m = some x → ∃ k, k < m ∧ s.testBit k = false ∧ x = tryAt cl s k ∧ x % 2 ^ k = s % 2 ^ k ∧ ∀ k', k < k' → k' < m → s.testBit k' = false → tryAt cl s k' % 2 ^ k' ≠ s % 2 ^ k'
  | 0, x, h => by simp [nextTo] at h
  | m + 1, x, h => by
    unfold nextTo at h
    split at h
    · rename_i hb
      obtain ⟨k, hk, h1, h2, h3, h4⟩ := nextTo_some h
      refine ⟨k, by omega, h1, h2, h3, fun k' hk' hkm hb' => ?_⟩
      rcases Nat.lt_or_eq_of_le (Nat.le_of_lt_succ hkm) with h' | rfl
      · exact h4 k' hk' h' hb'
      · rw [hb] at hb'; simp at hb'
    · rename_i hb
      split at h
      · rename_i hq
        simp only [Option.some.injEq] at h
        subst h
        exact ⟨m, by omega, by simpa using hb, rfl, hq, fun k' h1 h2 => by omega⟩
      · rename_i hq
        obtain ⟨k, hk, h1, h2, h3, h4⟩ := nextTo_some h
        refine ⟨k, by omega, h1, h2, h3, fun k' hk' hkm hb' => ?_⟩
        rcases Nat.lt_or_eq_of_le (Nat.le_of_lt_succ hkm) with h' | rfl
        · exact h4 k' hk' h' hb'
        · exact hq
theorem nextTo_none {cl : Nat → Nat} {s : Nat} : ∀ {m : Nat}, nextTo cl s m = none → ∀ k, k < m → s.testBit k = false → tryAt cl s k % 2 ^ k ≠ s % 2 ^ k
  | 0, h, k, hk => by omega
  | m + 1, h, k, hk => by
    intro hb'
    unfold nextTo at h
    split at h
    · rename_i hb
      rcases Nat.lt_or_eq_of_le (Nat.le_of_lt_succ hk) with h' | rfl
      · exact nextTo_none h k h' hb'
      · rw [hb] at hb'; simp at hb'
    · split at h
      · simp at h
      · rename_i hq
        rcases Nat.lt_or_eq_of_le (Nat.le_of_lt_succ hk) with h' | rfl
        · exact nextTo_none h k h' hb'
        · exact hq
/-- A closed set behind s is found at the bit where it parts from s. -/
theorem try_good {n : Nat} {cl : Nat → Nat} (C : Clo n cl) {s y m : Nat} (hy : cl y = y) (hyn : y < 2 ^ n) (h : LexAt m s y) : tryAt cl s m % 2 ^ m = s % 2 ^ m ∧ ∀ j, (tryAt cl s m).testBit j = true → y.testBit j = true := by
  obtain ⟨h1, h2, h3⟩ := h
  have hsub : ∀ j, (s % 2 ^ m ||| 2 ^ m).testBit j = true → y.testBit j = true := by
    intro j hj
    rcases (or_bit s m j).1 hj with ⟨hjm, hjs⟩ | rfl
    · have := congrArg (fun x => x.testBit j) h1
      simp only [Nat.testBit_mod_two_pow, hjm, decide_true, Bool.true_and] at this
      rw [← this]; exact hjs
    · exact h3
  have hc : ∀ j, (tryAt cl s m).testBit j = true → y.testBit j = true := by
    intro j hj
    rw [← hy]
    exact C.mono _ _ hsub j hj
  refine ⟨?_, hc⟩
  apply Nat.eq_of_testBit_eq
  intro j
  simp only [Nat.testBit_mod_two_pow]
  by_cases hj : j < m
  · simp only [hj, decide_true, Bool.true_and]
    have e := congrArg (fun x => x.testBit j) h1
    simp only [Nat.testBit_mod_two_pow, hj, decide_true, Bool.true_and] at e
    rw [Bool.eq_iff_iff]
    constructor
    · intro h; rw [e]; exact hc j h
    · intro h
      exact C.ext _ (or_lt (bit_lt hyn h3)) j ((or_bit s m j).2 (.inl ⟨hj, h⟩))
  · simp [hj]
theorem next_some {n : Nat} {cl : Nat → Nat} (C : Clo n cl) {s x : Nat} (hs : s < 2 ^ n) (h : nextTo cl s n = some x) :
    x < 2 ^ n ∧ cl x = x ∧ mir s < mir x ∧ ∀ y, y < 2 ^ n → cl y = y → mir s < mir y → mir x ≤ mir y := by
  have h256 : ∀ {z : Nat}, z < 2 ^ n → z < 256 := fun hz => Nat.lt_of_lt_of_le hz (pow_le8 C.n8)
  obtain ⟨k, hk, h1, rfl, h3, h4⟩ := nextTo_some h
  have hx : tryAt cl s k < 2 ^ n := C.lt _
  have hxk : (tryAt cl s k).testBit k = true := C.ext _ (or_lt hk) k ((or_bit s k k).2 (.inr rfl))
  refine ⟨hx, C.idem _ (or_lt hk), lexAt_mir (h256 hs) (h256 hx) ⟨h3.symm, h1, hxk⟩, fun y hy hcy hsy => ?_⟩
  obtain ⟨m, hm⟩ := mir_lexAt (h256 hs) (h256 hy) hsy
  obtain ⟨hg, hsub⟩ := try_good C hcy hy hm
  have hmn : m < n := bit_lt hy hm.2.2
  rcases Nat.lt_trichotomy m k with hmk | rfl | hkm
  · -- y parts from s below: it stands behind x
    refine Nat.le_of_lt (lexAt_mir (h256 hx) (h256 hy) ⟨?_, ?_, hm.2.2⟩ (m := m))
    · rw [← hm.1]
      have : (tryAt cl s k) % 2 ^ k % 2 ^ m = s % 2 ^ k % 2 ^ m := by rw [h3]
      rwa [Nat.mod_mod_of_dvd _ (Nat.pow_dvd_pow 2 (Nat.le_of_lt hmk)), Nat.mod_mod_of_dvd _ (Nat.pow_dvd_pow 2 (Nat.le_of_lt hmk))] at this
    · have e := congrArg (fun x => x.testBit m) h3
      simp only [Nat.testBit_mod_two_pow, hmk, decide_true, Bool.true_and] at e
      rw [e]; exact hm.2.1
  · -- y parts from s at the same bit: x lies in y
    apply Classical.byContradiction
    intro hlt
    obtain ⟨q, hq⟩ := mir_lexAt (h256 hy) (h256 hx) (by omega)
    have := hsub q hq.2.2
    rw [hq.2.1] at this
    simp at this
  · exact absurd hg (h4 m hkm hmn hm.2.1)
theorem next_none {n : Nat} {cl : Nat → Nat} (C : Clo n cl) {s : Nat} (hs : s < 2 ^ n) (h : nextTo cl s n = none) : ∀ y, y < 2 ^ n → cl y = y → ¬ mir s < mir y := by
  intro y hy hcy hsy
  have h256 : ∀ {z : Nat}, z < 2 ^ n → z < 256 := fun hz => Nat.lt_of_lt_of_le hz (pow_le8 C.n8)
  obtain ⟨m, hm⟩ := mir_lexAt (h256 hs) (h256 hy) hsy
  exact nextTo_none h m (bit_lt hy hm.2.2) hm.2.1 (try_good C hcy hy hm).1

/-- Lists that ascend strictly by mir and hold the same are the same. -/
def Up (l : List Nat) : Prop := l.Pairwise fun x y => mir x < mir y
theorem up_unique : ∀ (l r : List Nat), Up l → Up r → (∀ x, x ∈ l ↔ x ∈ r) → l = r
  | [], [], _, _, _ => rfl
  | [], y :: r, _, _, h => absurd ((h y).2 (by simp)) (by simp)
  | x :: l, [], _, _, h => absurd ((h x).1 (by simp)) (by simp)
  | x :: l, y :: r, hl, hr, h => by
    have hl' := List.pairwise_cons.1 hl
    have hr' := List.pairwise_cons.1 hr
    have hxy : x = y := by
      rcases List.mem_cons.1 ((h x).1 (by simp)) with e | hx
      · exact e
      · rcases List.mem_cons.1 ((h y).2 (by simp)) with e | hy
        · exact e.symm
        · have a := hl'.1 y hy
          have b := hr'.1 x hx
          omega
    subst hxy
    refine congrArg (x :: ·) (up_unique l r hl'.2 hr'.2 fun z => ?_)
    constructor
    · intro hz
      rcases List.mem_cons.1 ((h z).1 (by simp [hz])) with e | h1
      · subst e; have := hl'.1 z hz; omega
      · exact h1
    · intro hz
      rcases List.mem_cons.1 ((h z).2 (by simp [hz])) with e | h1
      · subst e; have := hr'.1 z hz; omega
      · exact h1
/-- All sets in lectic order. -/
def allSets : List Nat := (List.range 256).map mir
theorem up_allSets : Up allSets := by
  unfold Up allSets
  rw [List.pairwise_map]
  refine List.Pairwise.imp_of_mem (fun {a b} ha hb h => ?_) (List.pairwise_lt_range (n := 256))
  rw [mir_mir a (List.mem_range.1 ha), mir_mir b (List.mem_range.1 hb)]
  exact h
theorem mem_allSets {x : Nat} : x ∈ allSets ↔ x < 256 := by
  unfold allSets
  rw [List.mem_map]
  constructor
  · rintro ⟨y, hy, rfl⟩; exact mir_lt y (List.mem_range.1 hy)
  · intro h; exact ⟨mir x, List.mem_range.2 (mir_lt x h), mir_mir x h⟩
/-- The closed sets from s on, in lectic order. -/
def closedFrom (n : Nat) (cl : Nat → Nat) (s : Nat) : List Nat := allSets.filter fun y => decide (y < 2 ^ n) && (cl y == y) && decide (mir s ≤ mir y)
theorem mem_closedFrom {n : Nat} {cl : Nat → Nat} (hn : n ≤ 8) {s x : Nat} : x ∈ closedFrom n cl s ↔ x < 2 ^ n ∧ cl x = x ∧ mir s ≤ mir x := by
  unfold closedFrom
  rw [List.mem_filter, mem_allSets]
  simp only [Bool.and_eq_true, decide_eq_true_eq, beq_iff_eq]
  have := pow_le8 hn
  constructor
  · rintro ⟨_, ⟨h1, h2⟩, h3⟩; exact ⟨h1, h2, h3⟩
  · rintro ⟨h1, h2, h3⟩; exact ⟨by omega, ⟨h1, h2⟩, h3⟩
theorem up_closedFrom (n : Nat) (cl : Nat → Nat) (s : Nat) : Up (closedFrom n cl s) := List.Pairwise.sublist List.filter_sublist up_allSets
theorem closedFrom_some {n : Nat} {cl : Nat → Nat} (C : Clo n cl) {s x : Nat} (hs : s < 2 ^ n) (hcs : cl s = s) (h : nextTo cl s n = some x) : closedFrom n cl s = s :: closedFrom n cl x := by
  obtain ⟨h1, h2, h3, h4⟩ := next_some C hs h
  have h256 : ∀ {z : Nat}, z < 2 ^ n → z < 256 := fun hz => Nat.lt_of_lt_of_le hz (pow_le8 C.n8)
  refine up_unique _ _ (up_closedFrom _ _ _) (List.pairwise_cons.2 ⟨fun y hy => ?_, up_closedFrom _ _ _⟩) fun y => ?_
  · have := ((mem_closedFrom C.n8).1 hy).2.2; omega
  · rw [List.mem_cons, mem_closedFrom C.n8, mem_closedFrom C.n8]
    constructor
    · rintro ⟨a, b, c⟩
      rcases Nat.lt_or_eq_of_le c with c | c
      · exact .inr ⟨a, b, h4 y a b c⟩
      · exact .inl (mir_inj (h256 a) (h256 hs) c.symm)
    · rintro (rfl | ⟨a, b, c⟩)
      · exact ⟨hs, hcs, Nat.le_refl _⟩
      · exact ⟨a, b, by omega⟩
theorem closedFrom_none {n : Nat} {cl : Nat → Nat} (C : Clo n cl) {s : Nat} (hs : s < 2 ^ n) (hcs : cl s = s) (h : nextTo cl s n = none) : closedFrom n cl s = [s] := by
  have h256 : ∀ {z : Nat}, z < 2 ^ n → z < 256 := fun hz => Nat.lt_of_lt_of_le hz (pow_le8 C.n8)
  refine up_unique _ _ (up_closedFrom _ _ _) (List.pairwise_cons.2 ⟨fun y hy => by simp at hy, List.Pairwise.nil⟩) fun y => ?_
  rw [List.mem_cons, mem_closedFrom C.n8]
  constructor
  · rintro ⟨a, b, c⟩
    rcases Nat.lt_or_eq_of_le c with c | c
    · exact absurd c (next_none C hs h y a b)
    · exact .inl (mir_inj (h256 a) (h256 hs) c.symm)
  · rintro (rfl | h)
    · exact ⟨hs, hcs, Nat.le_refl _⟩
    · simp at h
/-- From the least closed set on they are all. -/
theorem closedFrom_first {n : Nat} {cl : Nat → Nat} (C : Clo n cl) {y : Nat} (hy : y < 2 ^ n) (hc : cl y = y) : mir (cl 0) ≤ mir y := by
  have h256 : ∀ {z : Nat}, z < 2 ^ n → z < 256 := fun hz => Nat.lt_of_lt_of_le hz (pow_le8 C.n8)
  apply Classical.byContradiction
  intro hlt
  obtain ⟨q, hq⟩ := mir_lexAt (h256 hy) (h256 (C.lt 0)) (by omega)
  have := C.mono 0 y (fun j hj => by simp at hj) q hq.2.2
  rw [hc, hq.2.1] at this
  simp at this

/-- The closure of a set of attributes of a context. -/
def clo (a : Int) (rs : List Int) (s : Nat) : Nat := intTo a rs ((extTo rs (s : Int) rs.length : Nat) : Int) rs.length
theorem memE' (rs : List Int) (t g : Nat) : (extTo rs (t : Int) rs.length).testBit g = true ↔ g < rs.length ∧ ∀ j, t.testBit j = true → bit (rs.getD g 0) j = true := by
  rw [extTo_bit, Bool.and_eq_true, decide_eq_true_eq, decide_eq_true_eq, Int.toNat_natCast]
  refine and_congr Iff.rfl ?_
  rw [and_all (a := t + 1) (Nat.lt_of_lt_of_le (Nat.lt_two_pow_self) (Nat.pow_le_pow_right (by omega) (by omega)))]
  constructor
  · intro h j hj
    exact h j (bit_lt (Nat.lt_of_lt_of_le (Nat.lt_two_pow_self) (Nat.pow_le_pow_right (by omega) (by omega))) hj) hj
  · intro h j _ hj; exact h j hj
theorem clo_ok {a : Int} {rs : List Int} (hc : isCtx a rs = true) : Clo a.toNat (clo a rs) where
  n8 := by have := isCtx_parts hc; omega
  lt := fun s => intTo_lt a rs _ _
  ext := fun s hs j hj => (memI a rs _ j).2 ⟨bit_lt hs hj, fun g _ h => ((memE' rs s g).1 h).2 j hj⟩
  mono := fun s t hst j hj => I_anti a rs _ _ (fun g hg => (memE' rs s g).2 ⟨((memE' rs t g).1 hg).1, fun j hj => ((memE' rs t g).1 hg).2 j (hst j hj)⟩) j hj
  idem := fun s hs => nat_bits fun j => ⟨fun h => I_anti a rs _ _ (fun g hg => (memE' rs _ g).2 ⟨((memE' rs s g).1 hg).1, fun j hj => ((memI a rs _ j).1 hj).2 g ((memE' rs s g).1 hg).1 hg⟩) j h,
    fun h => (memI a rs _ j).2 ⟨bit_lt (intTo_lt a rs _ _) h, fun g _ hg => ((memE' rs _ g).1 hg).2 j h⟩⟩
end Go.Proofs.Ythodmmckekgkdaa.Ctx
