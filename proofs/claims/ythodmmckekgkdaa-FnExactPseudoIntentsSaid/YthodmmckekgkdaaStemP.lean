/-
  Pseudo-closed sets of a closure operator and the list of rules that they give (pure): complete, irredundant, shortest; at most half as many as there are sets.
-/
import Derived.Test.YthodmmckekgkdaaRuleP
import Derived.Test.YthodmmckekgkdaaNext
namespace Go.Proofs.Ythodmmckekgkdaa.Stem
open Go Go.RowKit Mem Sets Ctx Tab Rule
set_option maxRecDepth 100000

/-- Is p no subset of s, or its closure one? -/
def fits (cl : Nat → Nat) (s p : Nat) : Bool := decide (p &&& s ≠ p) || decide (cl p &&& s = cl p)
theorem fits_iff {cl : Nat → Nat} {s p : Nat} : fits cl s p = true ↔ (Le p s → Le (cl p) s) := by
  unfold fits
  rw [Bool.or_eq_true, decide_eq_true_eq, decide_eq_true_eq, and_le', ← and_le' (x := p)]
  constructor
  · rintro (h | h) h1
    · exact absurd h1 h
    · exact h
  · intro h
    by_cases h1 : p &&& s = p
    · exact .inr (h h1)
    · exact .inl h1
/-- The pseudo-closed sets below k, ascending as numbers. -/
def psTo (cl : Nat → Nat) : Nat → List Nat
  | 0 => []
  | k + 1 => if cl k ≠ k ∧ (psTo cl k).all (fits cl k) = true then psTo cl k ++ [k] else psTo cl k
theorem psTo_succ (cl : Nat → Nat) (k : Nat) : psTo cl (k + 1) = if cl k ≠ k ∧ (psTo cl k).all (fits cl k) = true then psTo cl k ++ [k] else psTo cl k := rfl
theorem mem_psTo {cl : Nat → Nat} {x : Nat} : ∀ {k : Nat}, x ∈ psTo cl k ↔ x < k ∧ cl x ≠ x ∧ (psTo cl x).all (fits cl x) = true
  | 0 => by simp [psTo]
  | k + 1 => by
    have ih := mem_psTo (cl := cl) (x := x) (k := k)
    rw [psTo_succ]
    split
    · rename_i h
      rw [List.mem_append, ih, List.mem_singleton]
      constructor
      · rintro (⟨h1, h2⟩ | rfl)
        · exact ⟨by omega, h2⟩
        · exact ⟨by omega, h⟩
      · rintro ⟨h1, h2⟩
        by_cases hx : x = k
        · exact .inr hx
        · exact .inl ⟨by omega, h2⟩
    · rename_i h
      rw [ih]
      constructor
      · rintro ⟨h1, h2⟩; exact ⟨by omega, h2⟩
      · rintro ⟨h1, h2⟩
        refine ⟨?_, h2⟩
        rcases Nat.lt_or_eq_of_le (Nat.le_of_lt_succ h1) with h3 | rfl
        · exact h3
        · exact absurd h2 h
theorem psTo_up (cl : Nat → Nat) : ∀ k, (psTo cl k).Pairwise (· < ·)
  | 0 => List.Pairwise.nil
  | k + 1 => by
    unfold psTo
    split
    · refine List.pairwise_append.2 ⟨psTo_up cl k, List.pairwise_singleton _ _, fun x hx y hy => ?_⟩
      rw [List.mem_singleton] at hy
      subst hy
      exact (mem_psTo.1 hx).1
    · exact psTo_up cl k
theorem psTo_nodup (cl : Nat → Nat) (k : Nat) : (psTo cl k).Nodup := (psTo_up cl k).imp fun h => Nat.ne_of_lt h
theorem le_lt {x y : Nat} (h : Le x y) (hn : x ≠ y) : x < y := by have := le_num h; omega
/-- What it is to be pseudo-closed. -/
theorem ps_iff {cl : Nat → Nat} {K x : Nat} (hx : x < K) : x ∈ psTo cl K ↔ cl x ≠ x ∧ ∀ p, p ∈ psTo cl K → p ≠ x → Le p x → Le (cl p) x := by
  rw [mem_psTo]
  constructor
  · rintro ⟨-, h1, h2⟩
    refine ⟨h1, fun p hp hne hle => ?_⟩
    have := List.all_eq_true.1 h2 p (mem_psTo.2 ⟨le_lt hle hne, (mem_psTo.1 hp).2⟩)
    exact fits_iff.1 this hle
  · rintro ⟨h1, h2⟩
    refine ⟨hx, h1, List.all_eq_true.2 fun p hp => fits_iff.2 fun hle => ?_⟩
    have hp' := mem_psTo.1 hp
    exact h2 p (mem_psTo.2 ⟨by omega, hp'.2⟩) (by omega) hle
theorem ps_lt {cl : Nat → Nat} {K x : Nat} (h : x ∈ psTo cl K) : x < K := (mem_psTo.1 h).1
/-- A set that respects the rules of all pseudo-closed sets is closed. -/
theorem resp_closed {cl : Nat → Nat} {n t : Nat} (C : Clo n cl) (ht : t < 2 ^ n) (h : ∀ p, p ∈ psTo cl (2 ^ n) → Le p t → Le (cl p) t) : cl t = t := by
  by_cases hc : cl t = t
  · exact hc
  · have hm : t ∈ psTo cl (2 ^ n) := (ps_iff ht).2 ⟨hc, fun p hp _ hle => h p hp hle⟩
    exact (h t hm (Le.refl t)).antisymm (C.ext t ht)
theorem closed_resp {cl : Nat → Nat} {n t p : Nat} (C : Clo n cl) (hc : cl t = t) (h : Le p t) : Le (cl p) t := fun j hj => by rw [← hc]; exact C.mono p t h j hj
/-- The rule of a pseudo-closed set. -/
def ruleOf (cl : Nat → Nat) (p : Nat) : PInt := ((p : Int), ((cl p : Nat) : Int))
theorem RB_rule {cl : Nat → Nat} {p s : Nat} : RB (ruleOf cl p) s = true ↔ (Le p s → Le (cl p) s) := RB_iff
/-- A list of numbers that holds just the pseudo-closed sets. -/
structure Base (cl : Nat → Nat) (n : Nat) (ps : List Nat) : Prop where
  mem : ∀ x, x ∈ ps ↔ x ∈ psTo cl (2 ^ n)
  nodup : ps.Nodup
theorem Base.lt {cl : Nat → Nat} {n : Nat} {ps : List Nat} (h : Base cl n ps) {x : Nat} (hx : x ∈ ps) : x < 2 ^ n := ps_lt ((h.mem x).1 hx)
theorem allR_map {cl : Nat → Nat} {ps : List Nat} {s : Nat} : allR (ps.map (ruleOf cl)) s = true ↔ ∀ p ∈ ps, Le p s → Le (cl p) s := by
  unfold allR
  rw [List.all_map, List.all_eq_true]
  exact ⟨fun h p hp => RB_rule.1 (h p hp), fun h p hp => RB_rule.2 (h p hp)⟩
theorem below_full {n x : Nat} (h : x < 2 ^ n) : Le x (2 ^ n - 1) := fun _ hj => full_bit.2 (bit_lt h hj)
theorem le_pow {n x t : Nat} (h : Le x t) (ht : t < 2 ^ n) : x < 2 ^ n := by have := le_num h; omega
/-- The rules of the pseudo-closed sets close as the operator does. -/
theorem base_cl {cl : Nat → Nat} {n : Nat} {ps : List Nat} (C : Clo n cl) (h : Base cl n ps) {s : Nat} (hs : s < 2 ^ n) : Cl (ps.map (ruleOf cl)) s (cl s) where
  le := C.ext s hs
  all := allR_map.2 fun p hp hle => closed_resp C (C.idem s hs) hle
  least := fun u hu hsu => by
    -- u may have bits behind n: take those below
    have hu' := allR_map.1 hu
    have hv : u &&& (2 ^ n - 1) < 2 ^ n := Nat.lt_of_le_of_lt Nat.and_le_right (by have := Nat.pow_pos (n := n) (show 0 < 2 by omega); omega)
    have hle : Le (u &&& (2 ^ n - 1)) u := fun j hj => by rw [Nat.testBit_and, Bool.and_eq_true] at hj; exact hj.1
    have hc : cl (u &&& (2 ^ n - 1)) = u &&& (2 ^ n - 1) := resp_closed C hv fun p hp hpl =>
      le_and.2 ⟨hu' p ((h.mem p).2 hp) (hpl.trans hle), below_full (C.lt p)⟩
    have := closed_resp C hc (le_and.2 ⟨hsu, below_full hs⟩)
    exact this.trans hle
theorem rl_map {cl : Nat → Nat} {ps : List Nat} {k : Nat} (hk : k < (ps.map (ruleOf cl)).length) : ∃ p, p ∈ ps ∧ rl (ps.map (ruleOf cl)) k = ruleOf cl p := by
  have := rl_mem hk
  obtain ⟨p, hp, he⟩ := List.mem_map.1 this
  exact ⟨p, hp, he.symm⟩
theorem base_closed {cl : Nat → Nat} {n : Nat} {ps : List Nat} (C : Clo n cl) (h : Base cl n ps) {s : Nat} (hs : s < 2 ^ n) : Rule.cl (ps.map (ruleOf cl)) s = cl s := by
  have h8 : 2 ^ n ≤ 2 ^ 8 := Nat.pow_le_pow_right (by omega) C.n8
  refine (cl_spec (fun k hk => ?_) (Nat.lt_of_lt_of_le hs h8)).eq (base_cl C h hs)
  obtain ⟨p, hp, he⟩ := rl_map hk
  rw [he]
  exact Nat.lt_of_lt_of_le (C.lt p) h8
/-- A pseudo-closed set respects the rules of the other ones: its own rule does not follow from them. -/
theorem base_needs {cl : Nat → Nat} {n : Nat} {ps l r : List Nat} {p : Nat} (h : Base cl n ps) (he : ps = l ++ p :: r) : allR ((l ++ r).map (ruleOf cl)) p = true ∧ cl p ≠ p := by
  have hp : p ∈ ps := by rw [he]; simp
  have hps := (ps_iff (h.lt hp)).1 ((h.mem p).1 hp)
  refine ⟨allR_map.2 fun q hq hle => ?_, hps.1⟩
  have hnd := h.nodup
  rw [he] at hnd
  have hq' : q ∈ ps := by rw [he]; rw [List.mem_append] at hq; rw [List.mem_append, List.mem_cons]; rcases hq with h | h; exact .inl h; exact .inr (.inr h)
  refine hps.2 q ((h.mem q).1 hq') ?_ hle
  rintro rfl
  rw [List.nodup_append] at hnd
  obtain ⟨h1, h2, h3⟩ := hnd
  rcases List.mem_append.1 hq with hm | hm
  · exact h3 q hm q (by simp) rfl
  · exact (List.nodup_cons.1 h2).1 hm
/-- Two pseudo-closed sets never differ by one element: at most one of each pair that differs in bit 0. -/
theorem ps_half {cl : Nat → Nat} {n x y : Nat} (C : Clo n cl) (hx : x ∈ psTo cl (2 ^ n)) (hy : y ∈ psTo cl (2 ^ n)) (h : x / 2 = y / 2) : x = y := by
  have key : ∀ {x y : Nat}, x ∈ psTo cl (2 ^ n) → y ∈ psTo cl (2 ^ n) → x / 2 = y / 2 → x < y → False := by
    intro x y hx hy h hlt
    have h1 : x % 2 = 0 := by omega
    have h2 : y = x + 1 := by omega
    have hb : ∀ j, y.testBit j = (decide (j = 0) || x.testBit j) := by
      intro j
      cases j with
      | zero => rw [h2, Nat.testBit_zero]; simp; omega
      | succ j => rw [Nat.testBit_succ, Nat.testBit_succ, h]; simp
    have hle : Le x y := fun j hj => by rw [hb, hj]; simp
    have hp := (ps_iff (ps_lt hy)).1 hy
    have hcl := hp.2 x hx (by omega) hle
    have hpx := (ps_iff (ps_lt hx)).1 hx
    have hext := C.ext x (ps_lt hx)
    have hbit0 : (cl x).testBit 0 = true := by
      cases h0 : (cl x).testBit 0 with
      | true => rfl
      | false =>
        exact absurd (Le.antisymm (fun j hj => by
          have := hcl j hj
          rw [hb] at this
          by_cases hj0 : j = 0
          · subst hj0; rw [h0] at hj; cases hj
          · simpa [hj0] using this) hext) hpx.1
    have he : cl x = y := Le.antisymm hcl fun j hj => by
      rw [hb] at hj
      by_cases hj0 : j = 0
      · subst hj0; exact hbit0
      · exact hext j (by simpa [hj0] using hj)
    exact hp.1 (by rw [← he]; exact C.idem x (ps_lt hx))
  rcases Nat.lt_trichotomy x y with h1 | h1 | h1
  · exact (key hx hy h h1).elim
  · exact h1
  · exact (key hy hx h.symm h1).elim
/-- Pigeons and holes. -/
theorem holes : ∀ (m : Nat) (l : List Nat), l.Nodup → (∀ x ∈ l, x < m) → l.length ≤ m
  | 0, [], _, _ => Nat.le_refl _
  | 0, x :: l, _, h => absurd (h x (by simp)) (by omega)
  | m + 1, l, hn, h => by
    have h1 := holes m (l.filter fun x => decide (x ≠ m)) (hn.filter _) (fun x hx => by
      have := List.mem_filter.1 hx
      have h2 := h x this.1
      have h3 : x ≠ m := by simpa using this.2
      omega)
    have h2 : l.length ≤ (l.filter fun x => decide (x ≠ m)).length + 1 := by
      clear h h1
      induction l with
      | nil => simp
      | cons x l ih =>
        have hn' := List.nodup_cons.1 hn
        by_cases hx : x = m
        · subst hx
          have : (l.filter fun y => decide (y ≠ x)) = l := List.filter_eq_self.2 fun y hy => by
            have : y ≠ x := by rintro rfl; exact hn'.1 hy
            simpa using this
          rw [List.filter_cons_of_neg (by simp), this, List.length_cons]
          exact Nat.le_refl _
        · rw [List.filter_cons_of_pos (by simpa using hx), List.length_cons, List.length_cons]
          have := ih hn'.2
          omega
    omega
theorem nodup_map {α : Type} {f : α → Nat} : ∀ {l : List α}, l.Nodup → (∀ x ∈ l, ∀ y ∈ l, f x = f y → x = y) → (l.map f).Nodup
  | [], _, _ => List.nodup_nil
  | x :: l, hn, h => by
    have hn' := List.nodup_cons.1 hn
    rw [List.map_cons, List.nodup_cons]
    refine ⟨fun hm => ?_, nodup_map hn'.2 fun a ha b hb => h a (by simp [ha]) b (by simp [hb])⟩
    obtain ⟨y, hy, he⟩ := List.mem_map.1 hm
    have := h y (by simp [hy]) x (by simp) he
    subst this
    exact hn'.1 hy
theorem base_len {cl : Nat → Nat} {n : Nat} {ps : List Nat} (C : Clo n cl) (h : Base cl n ps) (hn : n ≤ 6) : ps.length ≤ 32 := by
  have h1 := holes 32 (ps.map (· / 2)) (nodup_map h.nodup fun x hx y hy he => ps_half C ((h.mem x).1 hx) ((h.mem y).1 hy) he) (fun x hx => by
    obtain ⟨y, hy, rfl⟩ := List.mem_map.1 hx
    have := h.lt hy
    have h6 : 2 ^ n ≤ 2 ^ 6 := Nat.pow_le_pow_right (by omega) hn
    omega)
  simpa using h1
/-- Two pseudo-closed sets that break the same rule that holds are the same. -/
theorem ps_break {cl : Nat → Nat} {n P Q X Y : Nat} (C : Clo n cl) (hP : P ∈ psTo cl (2 ^ n)) (hQ : Q ∈ psTo cl (2 ^ n)) (hY : Le Y (cl X)) (h1 : Le X P) (h2 : ¬ Le Y P) (h3 : Le X Q) (h4 : ¬ Le Y Q) : P = Q := by
  by_cases he : P = Q
  · exact he
  exfalso
  have hp := (ps_iff (ps_lt hP)).1 hP
  have hq := (ps_iff (ps_lt hQ)).1 hQ
  have mono : ∀ {s t : Nat}, Le s t → Le (cl s) (cl t) := fun h j hj => C.mono _ _ h j hj
  by_cases hPQ : Le P Q
  · exact h4 (hY.trans ((mono h1).trans (hq.2 P hP he hPQ)))
  by_cases hQP : Le Q P
  · exact h2 (hY.trans ((mono h3).trans (hp.2 Q hQ (Ne.symm he) hQP)))
  have hRP : Le (P &&& Q) P := (le_and.1 (Le.refl _)).1
  have hRQ : Le (P &&& Q) Q := (le_and.1 (Le.refl _)).2
  have hXR : Le X (P &&& Q) := le_and.2 ⟨h1, h3⟩
  have hlt : P &&& Q < 2 ^ n := le_pow hRP (ps_lt hP)
  have hneP : P &&& Q ≠ P := fun h => hPQ (by rw [← h]; exact hRQ)
  have hneQ : P &&& Q ≠ Q := fun h => hQP (by rw [← h]; exact hRP)
  by_cases hc : cl (P &&& Q) = P &&& Q
  · exact h2 (hY.trans ((mono hXR).trans (by rw [hc]; exact hRP)))
  · have hR : P &&& Q ∈ psTo cl (2 ^ n) := (ps_iff hlt).2 ⟨hc, fun S hS hne hle => by
      refine le_and.2 ⟨hp.2 S hS (fun h => ?_) (hle.trans hRP), hq.2 S hS (fun h => ?_) (hle.trans hRQ)⟩
      · subst h; exact hPQ (hle.trans hRQ)
      · subst h; exact hQP (hle.trans hRP)⟩
    exact h2 (hY.trans ((mono hXR).trans (hp.2 _ hR hneP hRP)))
/-- No list of rules that hold and that close each pseudo-closed set is shorter. -/
theorem base_short {cl : Nat → Nat} {n : Nat} {ps : List Nat} {l : List PInt} (C : Clo n cl) (h : Base cl n ps) (hl : ∀ k, k < l.length → Le (rl l k).2.toNat (cl (rl l k).1.toNat)) (hb : ∀ p ∈ ps, allR l p = false) : ps.length ≤ l.length := by
  have hk : ∀ p ∈ ps, ∃ k, k < l.length ∧ RB (rl l k) p = false := fun p hp => by
    have h1 := hb p hp
    unfold allR at h1
    rw [List.all_eq_false] at h1
    obtain ⟨q, hq, h2⟩ := h1
    obtain ⟨k, hk, rfl⟩ := mem_rl hq
    exact ⟨k, hk, by simpa using h2⟩
  have hbr : ∀ {r : PInt} {p : Nat}, RB r p = false → Le r.1.toNat p ∧ ¬ Le r.2.toNat p := fun {r p} hr => by
    have := mt RB_iff.2 (by rw [hr]; decide)
    exact Classical.not_imp.1 this
  obtain ⟨f, hf⟩ : ∃ f : Nat → Nat, ∀ p ∈ ps, f p < l.length ∧ RB (rl l (f p)) p = false :=
    ⟨fun p => if h : p ∈ ps then Classical.choose (hk p h) else 0, fun p hp => by simp only [dif_pos hp]; exact Classical.choose_spec (hk p hp)⟩
  have := holes l.length (ps.map f) (nodup_map h.nodup fun x hx y hy he => by
    have h1 := hbr (hf x hx).2
    have h2 := hbr (hf y hy).2
    rw [← he] at h2
    exact ps_break C ((h.mem x).1 hx) ((h.mem y).1 hy) (hl _ (hf x hx).1) h1.1 h1.2 h2.1 h2.2) (fun x hx => by
    obtain ⟨p, hp, rfl⟩ := List.mem_map.1 hx
    exact (hf p hp).1)
  simpa using this
end Go.Proofs.Ythodmmckekgkdaa.Stem
