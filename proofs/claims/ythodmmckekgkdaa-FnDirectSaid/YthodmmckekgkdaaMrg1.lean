/-
  The lectic order as an order of numbers: a set's mirrored number. (Pure: no memory.)
-/
import Derived.Test.YthodmmckekgkdaaSet
import Derived.Lib.SlicesCompact
import Derived.Sort.Statements
import Derived.Test.YthodmmckekgkdaaRuleP
import Derived.Test.YthodmmckekgkdaaNext
namespace Go.Proofs.Ythodmmckekgkdaa.Lectic
open Go Go.RowKit Sets
set_option maxRecDepth 100000

/-- The number whose bits are those of m in the other order. -/
def mirror (m : Nat) : Nat := (List.range 8).foldl (fun acc k => if m.testBit k then acc + 2 ^ (7 - k) else acc) 0
def lowBit (d : Nat) : Nat := (List.range 8).foldr (fun k acc => if d.testBit k then 2 ^ k else acc) 0
theorem least_low : ∀ d : Nat, d < 256 → least (d : Int) = (lowBit d : Int) := by decide +kernel
theorem low_lt : ∀ d : Nat, d < 256 → lowBit d < 256 := by decide +kernel
theorem mirror_low : ∀ m : Nat, m < 256 → ∀ k : Nat, k < 256 → (k &&& lowBit (m ^^^ k) != 0) = decide (mirror m < mirror k) := by decide +kernel
theorem mirror_inj : ∀ m : Nat, m < 256 → mirror (mirror m) = m := by decide +kernel
end Go.Proofs.Ythodmmckekgkdaa.Lectic

namespace Go.Proofs.Ythodmmckekgkdaa.Lectic
open Go Go.RowKit Sets
set_option maxRecDepth 100000

theorem xor_nat (m k : Nat) (hm : m < 256) (hk : k < 256) : bits .xor .i64 (m : Int) (k : Int) = ((m ^^^ k : Nat) : Int) := by
  have hx : m ^^^ k < 256 := Nat.xor_lt_two_pow (n := 8) hm hk
  have e : bits .xor .i64 (m : Int) (k : Int) = IntKind.i64.wrap ((BitVec.ofNat 64 m ^^^ BitVec.ofNat 64 k).toNat : Nat) := by
    simp only [bits, BitVec.ofInt_natCast]; rfl
  rw [e, BitVec.toNat_xor, BitVec.toNat_ofNat, BitVec.toNat_ofNat, Nat.mod_eq_of_lt (by omega), Nat.mod_eq_of_lt (by omega), IntKind.wrap_i64]
  omega
theorem before_mirror (m k : Nat) (hm : m < 256) (hk : k < 256) : before (m : Int) (k : Int) = decide (mirror m < mirror k) := by
  have hx : m ^^^ k < 256 := Nat.xor_lt_two_pow (n := 8) hm hk
  rw [before, isSet8_true ⟨by omega, by omega⟩, isSet8_true ⟨by omega, by omega⟩, beforeB, xor_nat m k hm hk, least_low _ hx, and_nat k _ hk (low_lt _ hx), ← mirror_low m hm k hk]
  simp only [Bool.true_and]
  rw [Bool.eq_iff_iff]
  simp only [bne_iff_ne, ne_eq]
  omega

/-- Strictly ascending by the key. -/
def Asc (key : Int → Nat) (l : List Int) : Prop := l.Pairwise fun x y => key x < key y
/-- Two strictly ascending lists that hold the same are the same. -/
theorem asc_unique (key : Int → Nat) : ∀ (l r : List Int), Asc key l → Asc key r → (∀ x, x ∈ l ↔ x ∈ r) → l = r
  | [], [], _, _, _ => rfl
  | [], y :: r, _, _, h => absurd ((h y).2 (by simp)) (by simp)
  | x :: l, [], _, _, h => absurd ((h x).1 (by simp)) (by simp)
  | x :: l, y :: r, hl, hr, h => by
    have hl' := List.pairwise_cons.1 hl
    have hr' := List.pairwise_cons.1 hr
    have hxy : x = y := by
      rcases List.mem_cons.1 ((h x).1 (by simp)) with e | hx
      · exact e
      · rcases List.mem_cons.1 ((h y).2 (by simp)) with e | hy
        · exact e.symm
        · have a := hl'.1 y hy
          have b := hr'.1 x hx
          omega
    subst hxy
    refine congrArg (x :: ·) (asc_unique key l r hl'.2 hr'.2 fun z => ?_)
    constructor
    · intro hz
      rcases List.mem_cons.1 ((h z).1 (by simp [hz])) with e | h1
      · subst e; have := hl'.1 z hz; omega
      · exact h1
    · intro hz
      rcases List.mem_cons.1 ((h z).2 (by simp [hz])) with e | h1
      · subst e; have := hr'.1 z hz; omega
      · exact h1

/-- A list of sets in lectic order, each once: by insertion, as the model does. -/
def key (x : Int) : Nat := mirror x.toNat
def place (out : List Int) (x : Int) : Nat := (out.takeWhile fun y => before y x).length
def ins (out : List Int) (x : Int) : List Int := if x ∈ out then out else out.take (place out x) ++ x :: out.drop (place out x)
def sortTo (xs : List Int) (k : Nat) : List Int := (xs.take k).foldl ins []
def sortLectic (xs : List Int) : List Int := if xs.all (isSet 8) = true then sortTo xs xs.length else []
theorem sortTo_step (xs : List Int) (k : Nat) (hk : k < xs.length) : sortTo xs (k + 1) = ins (sortTo xs k) (xs.getD k 0) := by
  unfold sortTo
  rw [List.take_add_one, List.getElem?_eq_getElem hk, List.foldl_append]
  simp [List.getD, List.getElem?_eq_getElem hk]
theorem ins_mem (out : List Int) (x z : Int) : z ∈ ins out x ↔ z ∈ out ∨ z = x := by
  unfold ins
  split
  · constructor
    · exact .inl
    · rintro (h | h)
      · exact h
      · rw [h]; assumption
  · rw [List.mem_append, List.mem_cons]
    constructor
    · rintro (h | h | h)
      · exact .inl (List.mem_of_mem_take h)
      · exact .inr h
      · exact .inl (List.mem_of_mem_drop h)
    · rintro (h | h)
      · rw [← List.take_append_drop (place out x) out, List.mem_append] at h
        rcases h with h | h
        · exact .inl h
        · exact .inr (.inr h)
      · exact .inr (.inl h)
theorem sortTo_mem (xs : List Int) : ∀ k, k ≤ xs.length → ∀ z, z ∈ sortTo xs k ↔ z ∈ xs.take k := by
  intro k
  induction k with
  | zero => intro _ z; simp [sortTo]
  | succ k ih =>
    intro hk z
    rw [sortTo_step xs k (by omega), ins_mem, ih (by omega), List.take_add_one, List.getElem?_eq_getElem (by omega : k < xs.length)]
    simp only [List.getD, List.getElem?_eq_getElem (by omega : k < xs.length), Option.getD_some, Option.toList_some, List.mem_append, List.mem_singleton]
theorem place_le (l : List Int) (x : Int) : place l x ≤ l.length := (List.takeWhile_sublist _).length_le
theorem sortTo_le (xs : List Int) : ∀ k, (sortTo xs k).length ≤ k := by
  intro k
  induction k with
  | zero => simp [sortTo]
  | succ k ih =>
    by_cases hk : k < xs.length
    · rw [sortTo_step xs k hk]
      unfold ins
      split
      · omega
      · simp only [List.length_append, List.length_cons, List.length_take, List.length_drop]
        have : place (sortTo xs k) (xs.getD k 0) ≤ (sortTo xs k).length := place_le _ _
        omega
    · have : sortTo xs (k + 1) = sortTo xs k := by
        unfold sortTo
        rw [List.take_of_length_le (by omega), List.take_of_length_le (by omega)]
      rw [this]; omega
theorem key_before (x y : Int) (hx : 0 ≤ x ∧ x ≤ 255) (hy : 0 ≤ y ∧ y ≤ 255) : before x y = decide (key x < key y) := by
  obtain ⟨m, rfl⟩ := Int.eq_ofNat_of_zero_le hx.1
  obtain ⟨k, rfl⟩ := Int.eq_ofNat_of_zero_le hy.1
  exact before_mirror m k (by omega) (by omega)
theorem key_inj (x y : Int) (hx : 0 ≤ x ∧ x ≤ 255) (hy : 0 ≤ y ∧ y ≤ 255) (h : key x = key y) : x = y := by
  obtain ⟨m, rfl⟩ := Int.eq_ofNat_of_zero_le hx.1
  obtain ⟨k, rfl⟩ := Int.eq_ofNat_of_zero_le hy.1
  have h1 := mirror_inj m (by omega)
  have h2 := mirror_inj k (by omega)
  simp only [key, Int.toNat_natCast] at h
  rw [h, h2] at h1
  omega
theorem asc_ins (out : List Int) (x : Int) (ho : Asc key out) (hs : ∀ y ∈ out, 0 ≤ y ∧ y ≤ 255) (hx : 0 ≤ x ∧ x ≤ 255) : Asc key (ins out x) := by
  unfold ins
  split
  · exact ho
  · rename_i hn
    have hp : ∀ (l : List Int), Asc key l → (∀ y ∈ l, 0 ≤ y ∧ y ≤ 255) → x ∉ l → (∀ y ∈ l.take (place l x), key y < key x) ∧ (∀ y ∈ l.drop (place l x), key x < key y) := by
      intro l
      induction l with
      | nil => intro _ _ _; simp
      | cons a l ih =>
        intro h1 h2 h3
        have h1' := List.pairwise_cons.1 h1
        have ha := h2 a (by simp)
        have hk := key_before a x ha hx
        cases hb : before a x with
        | true =>
          rw [hb] at hk
          have hlt : key a < key x := by simpa using hk.symm
          have hpl : place (a :: l) x = place l x + 1 := by simp [place, hb]
          rw [hpl]
          have := ih h1'.2 (fun y hy => h2 y (by simp [hy])) (fun h => h3 (by simp [h]))
          refine ⟨fun y hy => ?_, fun y hy => this.2 y (by simpa using hy)⟩
          rw [List.take_succ_cons, List.mem_cons] at hy
          rcases hy with e | hy
          · rw [e]; exact hlt
          · exact this.1 y hy
        | false =>
          rw [hb] at hk
          have hge : ¬ key a < key x := by simpa using hk.symm
          have hne : key a ≠ key x := fun e => h3 (by rw [key_inj a x ha hx e]; simp)
          have hpl : place (a :: l) x = 0 := by simp [place, hb]
          rw [hpl]
          refine ⟨by simp, fun y hy => ?_⟩
          simp only [List.drop_zero, List.mem_cons] at hy
          rcases hy with e | hy
          · rw [e]; omega
          · have := h1'.1 y hy; omega
    obtain ⟨p1, p2⟩ := hp out ho hs hn
    have ho' : Asc key (out.take (place out x) ++ out.drop (place out x)) := by rw [List.take_append_drop]; exact ho
    obtain ⟨q1, q2, q3⟩ := List.pairwise_append.1 ho'
    refine List.pairwise_append.2 ⟨q1, List.pairwise_cons.2 ⟨p2, q2⟩, fun a ha b hb => ?_⟩
    rcases List.mem_cons.1 hb with e | hb
    · rw [e]; exact p1 a ha
    · exact q3 a ha b hb
theorem asc_sortTo (xs : List Int) (hs : ∀ x ∈ xs, 0 ≤ x ∧ x ≤ 255) : ∀ k, k ≤ xs.length → Asc key (sortTo xs k) := by
  intro k
  induction k with
  | zero => intro _; simp [sortTo, Asc]
  | succ k ih =>
    intro hk
    rw [sortTo_step xs k (by omega)]
    refine asc_ins _ _ (ih (by omega)) (fun y hy => hs y (List.mem_of_mem_take ((sortTo_mem xs k (by omega) y).1 hy))) (hs _ ?_)
    simp only [List.getD, List.getElem?_eq_getElem (by omega : k < xs.length), Option.getD_some]
    exact List.getElem_mem _

/-! The sorted list of the library, with its repetitions struck. -/
theorem compact_mem {α : Type} [Inhabited α] [DecidableEq α] (d : Array α) : ∀ m, m ≤ d.size → ∀ z, z ∈ Lib.compactUpTo d m ↔ ∃ j, j < m ∧ d[j]! = z := by
  intro m
  induction m with
  | zero => intro _ z; simp [Lib.compactUpTo]
  | succ m ih =>
    intro hm z
    rw [Lib.compactUpTo_succ, List.mem_append, ih (by omega)]
    constructor
    · rintro (⟨j, hj, e⟩ | h)
      · exact ⟨j, by omega, e⟩
      · split at h
        · exact ⟨m, by omega, (List.mem_singleton.1 h).symm⟩
        · cases h
    · rintro ⟨j, hj, e⟩
      by_cases hjm : j = m
      · subst hjm
        by_cases hk : Lib.keeps d j = true
        · rw [if_pos hk]; exact .inr (by simp [e])
        · simp only [Lib.keeps, decide_eq_true_eq, not_or, Decidable.not_not] at hk
          exact .inl ⟨j - 1, by omega, by rw [← hk.2]; exact e⟩
      · exact .inl ⟨j, by omega, e⟩
/-- Of a list whose keys ascend weakly and tell its elements, what is left ascends strictly. -/
theorem compact_asc (zs : List Int) (k : Int → Nat) (hw : zs.Pairwise fun x y => k x ≤ k y) (hi : ∀ x ∈ zs, ∀ y ∈ zs, k x = k y → x = y) : Asc k (Lib.compact zs) := by
  have at_ : ∀ j, j < zs.length → zs.toArray[j]! = zs.getD j 0 := fun j hj => by simp [List.getD, hj]
  have mem_ : ∀ j, j < zs.length → zs.getD j 0 ∈ zs := fun j hj => by simp only [List.getD, List.getElem?_eq_getElem hj, Option.getD_some]; exact List.getElem_mem hj
  have le_ : ∀ i j, i < j → j < zs.length → k (zs.getD i 0) ≤ k (zs.getD j 0) := fun i j hij hj => by
    have := List.pairwise_iff_getElem.1 hw i j (by omega) hj hij
    simpa [List.getD, List.getElem?_eq_getElem hj, List.getElem?_eq_getElem (by omega : i < zs.length)] using this
  have key_ : ∀ m, m ≤ zs.length → Asc k (Lib.compactUpTo zs.toArray m) ∧ ∀ x ∈ Lib.compactUpTo zs.toArray m, ∃ j, j < m ∧ zs.getD j 0 = x := by
    intro m
    induction m with
    | zero => intro _; simp [Lib.compactUpTo, Asc]
    | succ m ih =>
      intro hm
      obtain ⟨h1, h2⟩ := ih (by omega)
      rw [Lib.compactUpTo_succ]
      by_cases hk : Lib.keeps zs.toArray m = true
      · rw [if_pos hk, at_ m (by omega)]
        refine ⟨List.pairwise_append.2 ⟨h1, by simp, fun a ha b hb => ?_⟩, fun x hx => ?_⟩
        · obtain ⟨j, hj, rfl⟩ := h2 a ha
          rw [List.mem_singleton.1 hb]
          simp only [Lib.keeps, decide_eq_true_eq] at hk
          rcases hk with h0 | hne
          · omega
          · rw [at_ m (by omega), at_ (m - 1) (by omega)] at hne
            have l1 : k (zs.getD j 0) ≤ k (zs.getD (m - 1) 0) := by
              by_cases e : j = m - 1
              · rw [e]; exact Nat.le_refl _
              · exact le_ j (m - 1) (by omega) (by omega)
            have l2 := le_ (m - 1) m (by omega) (by omega)
            have l3 : k (zs.getD (m - 1) 0) ≠ k (zs.getD m 0) := fun e => hne (hi _ (mem_ m (by omega)) _ (mem_ (m - 1) (by omega)) e.symm)
            omega
        · rcases List.mem_append.1 hx with hx | hx
          · obtain ⟨j, hj, e⟩ := h2 x hx
            exact ⟨j, by omega, e⟩
          · exact ⟨m, by omega, (List.mem_singleton.1 hx).symm⟩
      · rw [if_neg hk, List.append_nil]
        exact ⟨h1, fun x hx => by obtain ⟨j, hj, e⟩ := h2 x hx; exact ⟨j, by omega, e⟩⟩
  exact (key_ zs.length (Nat.le_refl _)).1
/-- What the library makes of a list of sets is what the model makes. -/
theorem sorted_same (xs zs : List Int) (hs : ∀ x ∈ xs, 0 ≤ x ∧ x ≤ 255) (hp : zs.Perm xs) (hw : zs.Pairwise fun x y => key x ≤ key y) : Lib.compact zs = sortTo xs xs.length := by
  have hz : ∀ x ∈ zs, 0 ≤ x ∧ x ≤ 255 := fun x hx => hs x (hp.mem_iff.1 hx)
  refine asc_unique key _ _ (compact_asc zs key hw fun x hx y hy e => key_inj x y (hz x hx) (hz y hy) e) (asc_sortTo xs hs xs.length (Nat.le_refl _)) fun x => ?_
  rw [sortTo_mem xs xs.length (Nat.le_refl _), List.take_length, ← hp.mem_iff]
  unfold Lib.compact
  rw [compact_mem zs.toArray zs.length (by simp)]
  constructor
  · rintro ⟨j, hj, rfl⟩
    have : zs.toArray[j]! = zs[j] := by simp [hj]
    rw [this]; exact List.getElem_mem hj
  · intro hx
    obtain ⟨j, hj, rfl⟩ := List.getElem_of_mem hx
    exact ⟨j, hj, by simp [hj]⟩
end Go.Proofs.Ythodmmckekgkdaa.Lectic

namespace Go.Proofs.Ythodmmckekgkdaa.Stem
open Go Go.RowKit Mem Sets Ctx Tab Rule
set_option maxRecDepth 100000

/-- Is p no subset of s, or its closure one? -/
def fits (cl : Nat → Nat) (s p : Nat) : Bool := decide (p &&& s ≠ p) || decide (cl p &&& s = cl p)
theorem fits_iff {cl : Nat → Nat} {s p : Nat} : fits cl s p = true ↔ (Le p s → Le (cl p) s) := by
  unfold fits
  rw [Bool.or_eq_true, decide_eq_true_eq, decide_eq_true_eq, and_le', ← and_le' (x := p)]
  constructor
  · rintro (h | h) h1
    · exact absurd h1 h
    · exact h
  · intro h
    by_cases h1 : p &&& s = p
    · exact .inr (h h1)
    · exact .inl h1
/-- The pseudo-closed sets below k, ascending as numbers. -/
def psTo (cl : Nat → Nat) : Nat → List Nat
  | 0 => []
  | k + 1 => if cl k ≠ k ∧ (psTo cl k).all (fits cl k) = true then psTo cl k ++ [k] else psTo cl k
theorem psTo_succ (cl : Nat → Nat) (k : Nat) : psTo cl (k + 1) = if cl k ≠ k ∧ (psTo cl k).all (fits cl k) = true then psTo cl k ++ [k] else psTo cl k := rfl
theorem mem_psTo {cl : Nat → Nat} {x : Nat} : ∀ {k : Nat}, x ∈ psTo cl k ↔ x < k ∧ cl x ≠ x ∧ (psTo cl x).all (fits cl x) = true
  | 0 => by simp [psTo]
  | k + 1 => by
    have ih := mem_psTo (cl := cl) (x := x) (k := k)
    rw [psTo_succ]
    split
    · rename_i h
      rw [List.mem_append, ih, List.mem_singleton]
      constructor
      · rintro (⟨h1, h2⟩ | rfl)
        · exact ⟨by omega, h2⟩
        · exact ⟨by omega, h⟩
      · rintro ⟨h1, h2⟩
        by_cases hx : x = k
        · exact .inr hx
        · exact .inl ⟨by omega, h2⟩
    · rename_i h
      rw [ih]
      constructor
      · rintro ⟨h1, h2⟩; exact ⟨by omega, h2⟩
      · rintro ⟨h1, h2⟩
        refine ⟨?_, h2⟩
        rcases Nat.lt_or_eq_of_le (Nat.le_of_lt_succ h1) with h3 | rfl
        · exact h3
        · exact absurd h2 h
theorem psTo_up (cl : Nat → Nat) : ∀ k, (psTo cl k).Pairwise (· < ·)
  | 0 => List.Pairwise.nil
  | k + 1 => by
    unfold psTo
    split
    · refine List.pairwise_append.2 ⟨psTo_up cl k, List.pairwise_singleton _ _, fun x hx y hy => ?_⟩
      rw [List.mem_singleton] at hy
      subst hy
      exact (mem_psTo.1 hx).1
    · exact psTo_up cl k
theorem psTo_nodup (cl : Nat → Nat) (k : Nat) : (psTo cl k).Nodup := (psTo_up cl k).imp fun h => Nat.ne_of_lt h
theorem le_lt {x y : Nat} (h : Le x y) (hn : x ≠ y) : x < y := by have := le_num h; omega
/-- What it is to be pseudo-closed. -/
theorem ps_iff {cl : Nat → Nat} {K x : Nat} (hx : x < K) : x ∈ psTo cl K ↔ cl x ≠ x ∧ ∀ p, p ∈ psTo cl K → p ≠ x → Le p x → Le (cl p) x := by
  rw [mem_psTo]
  constructor
  · rintro ⟨-, h1, h2⟩
    refine ⟨h1, fun p hp hne hle => ?_⟩
    have := List.all_eq_true.1 h2 p (mem_psTo.2 ⟨le_lt hle hne, (mem_psTo.1 hp).2⟩)
    exact fits_iff.1 this hle
  · rintro ⟨h1, h2⟩
    refine ⟨hx, h1, List.all_eq_true.2 fun p hp => fits_iff.2 fun hle => ?_⟩
    have hp' := mem_psTo.1 hp
    exact h2 p (mem_psTo.2 ⟨by omega, hp'.2⟩) (by omega) hle
theorem ps_lt {cl : Nat → Nat} {K x : Nat} (h : x ∈ psTo cl K) : x < K := (mem_psTo.1 h).1
/-- A set that respects the rules of all pseudo-closed sets is closed. -/
theorem resp_closed {cl : Nat → Nat} {n t : Nat} (C : Clo n cl) (ht : t < 2 ^ n) (h : ∀ p, p ∈ psTo cl (2 ^ n) → Le p t → Le (cl p) t) : cl t = t := by
  by_cases hc : cl t = t
  · exact hc
  · have hm : t ∈ psTo cl (2 ^ n) := (ps_iff ht).2 ⟨hc, fun p hp _ hle => h p hp hle⟩
    exact (h t hm (Le.refl t)).antisymm (C.ext t ht)
theorem closed_resp {cl : Nat → Nat} {n t p : Nat} (C : Clo n cl) (hc : cl t = t) (h : Le p t) : Le (cl p) t := fun j hj => by rw [← hc]; exact C.mono p t h j hj
/-- The rule of a pseudo-closed set. -/
def ruleOf (cl : Nat → Nat) (p : Nat) : PInt := ((p : Int), ((cl p : Nat) : Int))
theorem RB_rule {cl : Nat → Nat} {p s : Nat} : RB (ruleOf cl p) s = true ↔ (Le p s → Le (cl p) s) := RB_iff
/-- A list of numbers that holds just the pseudo-closed sets. -/
structure Base (cl : Nat → Nat) (n : Nat) (ps : List Nat) : Prop where
  mem : ∀ x, x ∈ ps ↔ x ∈ psTo cl (2 ^ n)
  nodup : ps.Nodup
theorem Base.lt {cl : Nat → Nat} {n : Nat} {ps : List Nat} (h : Base cl n ps) {x : Nat} (hx : x ∈ ps) : x < 2 ^ n := ps_lt ((h.mem x).1 hx)
theorem allR_map {cl : Nat → Nat} {ps : List Nat} {s : Nat} : allR (ps.map (ruleOf cl)) s = true ↔ ∀ p ∈ ps, Le p s → Le (cl p) s := by
  unfold allR
  rw [List.all_map, List.all_eq_true]
  exact ⟨fun h p hp => RB_rule.1 (h p hp), fun h p hp => RB_rule.2 (h p hp)⟩
theorem below_full {n x : Nat} (h : x < 2 ^ n) : Le x (2 ^ n - 1) := fun _ hj => full_bit.2 (bit_lt h hj)
theorem le_pow {n x t : Nat} (h : Le x t) (ht : t < 2 ^ n) : x < 2 ^ n := by have := le_num h; omega
/-- The rules of the pseudo-closed sets close as the operator does. -/
theorem base_cl {cl : Nat → Nat} {n : Nat} {ps : List Nat} (C : Clo n cl) (h : Base cl n ps) {s : Nat} (hs : s < 2 ^ n) : Cl (ps.map (ruleOf cl)) s (cl s) where
  le := C.ext s hs
  all := allR_map.2 fun p hp hle => closed_resp C (C.idem s hs) hle
  least := fun u hu hsu => by
    -- u may have bits behind n: take those below
    have hu' := allR_map.1 hu
    have hv : u &&& (2 ^ n - 1) < 2 ^ n := Nat.lt_of_le_of_lt Nat.and_le_right (by have := Nat.pow_pos (n := n) (show 0 < 2 by omega); omega)
    have hle : Le (u &&& (2 ^ n - 1)) u := fun j hj => by rw [Nat.testBit_and, Bool.and_eq_true] at hj; exact hj.1
    have hc : cl (u &&& (2 ^ n - 1)) = u &&& (2 ^ n - 1) := resp_closed C hv fun p hp hpl =>
      le_and.2 ⟨hu' p ((h.mem p).2 hp) (hpl.trans hle), below_full (C.lt p)⟩
    have := closed_resp C hc (le_and.2 ⟨hsu, below_full hs⟩)
    exact this.trans hle
theorem rl_map {cl : Nat → Nat} {ps : List Nat} {k : Nat} (hk : k < (ps.map (ruleOf cl)).length) : ∃ p, p ∈ ps ∧ rl (ps.map (ruleOf cl)) k = ruleOf cl p := by
  have := rl_mem hk
  obtain ⟨p, hp, he⟩ := List.mem_map.1 this
  exact ⟨p, hp, he.symm⟩
theorem base_closed {cl : Nat → Nat} {n : Nat} {ps : List Nat} (C : Clo n cl) (h : Base cl n ps) {s : Nat} (hs : s < 2 ^ n) : Rule.cl (ps.map (ruleOf cl)) s = cl s := by
  have h8 : 2 ^ n ≤ 2 ^ 8 := Nat.pow_le_pow_right (by omega) C.n8
  refine (cl_spec (fun k hk => ?_) (Nat.lt_of_lt_of_le hs h8)).eq (base_cl C h hs)
  obtain ⟨p, hp, he⟩ := rl_map hk
  rw [he]
  exact Nat.lt_of_lt_of_le (C.lt p) h8
/-- A pseudo-closed set respects the rules of the other ones: its own rule does not follow from them. -/
theorem base_needs {cl : Nat → Nat} {n : Nat} {ps l r : List Nat} {p : Nat} (h : Base cl n ps) (he : ps = l ++ p :: r) : allR ((l ++ r).map (ruleOf cl)) p = true ∧ cl p ≠ p := by
  have hp : p ∈ ps := by rw [he]; simp
  have hps := (ps_iff (h.lt hp)).1 ((h.mem p).1 hp)
  refine ⟨allR_map.2 fun q hq hle => ?_, hps.1⟩
  have hnd := h.nodup
  rw [he] at hnd
  have hq' : q ∈ ps := by rw [he]; rw [List.mem_append] at hq; rw [List.mem_append, List.mem_cons]; rcases hq with h | h; exact .inl h; exact .inr (.inr h)
  refine hps.2 q ((h.mem q).1 hq') ?_ hle
  rintro rfl
  rw [List.nodup_append] at hnd
  obtain ⟨h1, h2, h3⟩ := hnd
  rcases List.mem_append.1 hq with hm | hm
  · exact h3 q hm q (by simp) rfl
  · exact (List.nodup_cons.1 h2).1 hm
/-- Two pseudo-closed sets never differ by one element: at most one of each pair that differs in bit 0. -/
theorem ps_half {cl : Nat → Nat} {n x y : Nat} (C : Clo n cl) (hx : x ∈ psTo cl (2 ^ n)) (hy : y ∈ psTo cl (2 ^ n)) (h : x / 2 = y / 2) : x = y := by
  have key : ∀ {x y : Nat}, x ∈ psTo cl (2 ^ n) → y ∈ psTo cl (2 ^ n) → x / 2 = y / 2 → x < y → False := by
    intro x y hx hy h hlt
    have h1 : x % 2 = 0 := by omega
    have h2 : y = x + 1 := by omega
    have hb : ∀ j, y.testBit j = (decide (j = 0) || x.testBit j) := by
      intro j
      cases j with
      | zero => rw [h2, Nat.testBit_zero]; simp; omega
      | succ j => rw [Nat.testBit_succ, Nat.testBit_succ, h]; simp
    have hle : Le x y := fun j hj => by rw [hb, hj]; simp
    have hp := (ps_iff (ps_lt hy)).1 hy
    have hcl := hp.2 x hx (by omega) hle
    have hpx := (ps_iff (ps_lt hx)).1 hx
    have hext := C.ext x (ps_lt hx)
    have hbit0 : (cl x).testBit 0 = true := by
      cases h0 : (cl x).testBit 0 with
      | true => rfl
      | false =>
        exact absurd (Le.antisymm (fun j hj => by
          have := hcl j hj
          rw [hb] at this
          by_cases hj0 : j = 0
          · subst hj0; rw [h0] at hj; cases hj
          · simpa [hj0] using this) hext) hpx.1
    have he : cl x = y := Le.antisymm hcl fun j hj => by
      rw [hb] at hj
      by_cases hj0 : j = 0
      · subst hj0; exact hbit0
      · exact hext j (by simpa [hj0] using hj)
    exact hp.1 (by rw [← he]; exact C.idem x (ps_lt hx))
  rcases Nat.lt_trichotomy x y with h1 | h1 | h1
  · exact (key hx hy h h1).elim
  · exact h1
  · exact (key hy hx h.symm h1).elim
/-- Pigeons and holes. -/
theorem holes : ∀ (m : Nat) (l : List Nat), l.Nodup → (∀ x ∈ l, x < m) → l.length ≤ m
  | 0, [], _, _ => Nat.le_refl _
  | 0, x :: l, _, h => absurd (h x (by simp)) (by omega)
  | m + 1, l, hn, h => by
    have h1 := holes m (l.filter fun x => decide (x ≠ m)) (hn.filter _) (fun x hx => by
      have := List.mem_filter.1 hx
      have h2 := h x this.1
      have h3 : x ≠ m := by simpa using this.2
      omega)
    have h2 : l.length ≤ (l.filter fun x => decide (x ≠ m)).length + 1 := by
      clear h h1
      induction l with
      | nil => simp
      | cons x l ih =>
        have hn' := List.nodup_cons.1 hn
        by_cases hx : x = m
        · subst hx
          have : (l.filter fun y => decide (y ≠ x)) = l := List.filter_eq_self.2 fun y hy => by
            have : y ≠ x := by rintro rfl; exact hn'.1 hy
            simpa using this
          rw [List.filter_cons_of_neg (by simp), this, List.length_cons]
          exact Nat.le_refl _
        · rw [List.filter_cons_of_pos (by simpa using hx), List.length_cons, List.length_cons]
          have := ih hn'.2
          omega
    omega
theorem nodup_map {α : Type} {f : α → Nat} : ∀ {l : List α}, l.Nodup → (∀ x ∈ l, ∀ y ∈ l, f x = f y → x = y) → (l.map f).Nodup
  | [], _, _ => List.nodup_nil
  | x :: l, hn, h => by
    have hn' := List.nodup_cons.1 hn
    rw [List.map_cons, List.nodup_cons]
    refine ⟨fun hm => ?_, nodup_map hn'.2 fun a ha b hb => h a (by simp [ha]) b (by simp [hb])⟩
    obtain ⟨y, hy, he⟩ := List.mem_map.1 hm
    have := h y (by simp [hy]) x (by simp) he
    subst this
    exact hn'.1 hy
theorem base_len {cl : Nat → Nat} {n : Nat} {ps : List Nat} (C : Clo n cl) (h : Base cl n ps) (hn : n ≤ 6) : ps.length ≤ 32 := by
  have h1 := holes 32 (ps.map (· / 2)) (nodup_map h.nodup fun x hx y hy he => ps_half C ((h.mem x).1 hx) ((h.mem y).1 hy) he) (fun x hx => by
    obtain ⟨y, hy, rfl⟩ := List.mem_map.1 hx
    have := h.lt hy
    have h6 : 2 ^ n ≤ 2 ^ 6 := Nat.pow_le_pow_right (by omega) hn
    omega)
  simpa using h1
/-- Two pseudo-closed sets that break the same rule that holds are the same. -/
theorem ps_break {cl : Nat → Nat} {n P Q X Y : Nat} (C : Clo n cl) (hP : P ∈ psTo cl (2 ^ n)) (hQ : Q ∈ psTo cl (2 ^ n)) (hY : Le Y (cl X)) (h1 : Le X P) (h2 : ¬ Le Y P) (h3 : Le X Q) (h4 : ¬ Le Y Q) : P = Q := by
  by_cases he : P = Q
  · exact he
  exfalso
  have hp := (ps_iff (ps_lt hP)).1 hP
  have hq := (ps_iff (ps_lt hQ)).1 hQ
  have mono : ∀ {s t : Nat}, Le s t → Le (cl s) (cl t) := fun h j hj => C.mono _ _ h j hj
  by_cases hPQ : Le P Q
  · exact h4 (hY.trans ((mono h1).trans (hq.2 P hP he hPQ)))
  by_cases hQP : Le Q P
  · exact h2 (hY.trans ((mono h3).trans (hp.2 Q hQ (Ne.symm he) hQP)))
  have hRP : Le (P &&& Q) P := (le_and.1 (Le.refl _)).1
  have hRQ : Le (P &&& Q) Q := (le_and.1 (Le.refl _)).2
  have hXR : Le X (P &&& Q) := le_and.2 ⟨h1, h3⟩
  have hlt : P &&& Q < 2 ^ n := le_pow hRP (ps_lt hP)
  have hneP : P &&& Q ≠ P := fun h => hPQ (by rw [← h]; exact hRQ)
  have hneQ : P &&& Q ≠ Q := fun h => hQP (by rw [← h]; exact hRP)
  by_cases hc : cl (P &&& Q) = P &&& Q
  · exact h2 (hY.trans ((mono hXR).trans (by rw [hc]; exact hRP)))
  · have hR : P &&& Q ∈ psTo cl (2 ^ n) := (ps_iff hlt).2 ⟨hc, fun S hS hne hle => by
      refine le_and.2 ⟨hp.2 S hS (fun h => ?_) (hle.trans hRP), hq.2 S hS (fun h => ?_) (hle.trans hRQ)⟩
      · subst h; exact hPQ (hle.trans hRQ)
      · subst h; exact hQP (hle.trans hRP)⟩
    exact h2 (hY.trans ((mono hXR).trans (hp.2 _ hR hneP hRP)))
/-- No list of rules that hold and that close each pseudo-closed set is shorter. -/
theorem base_short {cl : Nat → Nat} {n : Nat} {ps : List Nat} {l : List PInt} (C : Clo n cl) (h : Base cl n ps) (hl : ∀ k, k < l.length → Le (rl l k).2.toNat (cl (rl l k).1.toNat)) (hb : ∀ p ∈ ps, allR l p = false) : ps.length ≤ l.length := by
  have hk : ∀ p ∈ ps, ∃ k, k < l.length ∧ RB (rl l k) p = false := fun p hp => by
    have h1 := hb p hp
    unfold allR at h1
    rw [List.all_eq_false] at h1
    obtain ⟨q, hq, h2⟩ := h1
    obtain ⟨k, hk, rfl⟩ := mem_rl hq
    exact ⟨k, hk, by simpa using h2⟩
  have hbr : ∀ {r : PInt} {p : Nat}, RB r p = false → Le r.1.toNat p ∧ ¬ Le r.2.toNat p := fun {r p} hr => by
    have := mt RB_iff.2 (by rw [hr]; decide)
    exact Classical.not_imp.1 this
  obtain ⟨f, hf⟩ : ∃ f : Nat → Nat, ∀ p ∈ ps, f p < l.length ∧ RB (rl l (f p)) p = false :=
    ⟨fun p => if h : p ∈ ps then Classical.choose (hk p h) else 0, fun p hp => by simp only [dif_pos hp]; exact Classical.choose_spec (hk p hp)⟩
  have := holes l.length (ps.map f) (nodup_map h.nodup fun x hx y hy he => by
    have h1 := hbr (hf x hx).2
    have h2 := hbr (hf y hy).2
    rw [← he] at h2
    exact ps_break C ((h.mem x).1 hx) ((h.mem y).1 hy) (hl _ (hf x hx).1) h1.1 h1.2 h2.1 h2.2) (fun x hx => by
    obtain ⟨p, hp, rfl⟩ := List.mem_map.1 hx
    exact (hf p hp).1)
  simpa using this
end Go.Proofs.Ythodmmckekgkdaa.Stem

namespace Go.Proofs.Ythodmmckekgkdaa.Stem
open Go Go.RowKit Mem Sets Ctx Tab Rule Lectic
set_option maxRecDepth 100000

/-- Numbers as the program has them. -/
abbrev asInts (l : List Nat) : List Int := l.map fun x : Nat => (x : Int)
/-- The pseudo-closed sets of a context, ascending as numbers. -/
def psN (a : Int) (rs : List Int) : List Nat := psTo (clo a rs) (2 ^ a.toNat)
/-- .. and in lectic order. -/
def pseudo (a : Int) (rs : List Int) : List Int := sortLectic (asInts (psN a rs))
def pseudoN (a : Int) (rs : List Int) : List Nat := (pseudo a rs).map Int.toNat
theorem psN_256 {a : Int} {rs : List Int} (hc : isCtx a rs = true) {x : Nat} (h : x ∈ psN a rs) : x < 256 := Nat.lt_of_lt_of_le (ps_lt h) (pow_le8 (by have := isCtx_parts hc; omega))
theorem asInts_sets {l : List Nat} (h : ∀ x ∈ l, x < 256) : (asInts l).all (isSet 8) = true := by
  rw [List.all_eq_true]
  intro x hx
  obtain ⟨y, hy, rfl⟩ := List.mem_map.1 hx
  have := h y hy
  exact isSet8_true (by omega)
theorem pseudo_eq {a : Int} {rs : List Int} (hc : isCtx a rs = true) : pseudo a rs = sortTo (asInts (psN a rs)) (asInts (psN a rs)).length := by
  rw [pseudo, sortLectic, if_pos (asInts_sets fun x hx => psN_256 hc hx)]
theorem pseudo_mem {a : Int} {rs : List Int} (hc : isCtx a rs = true) {z : Int} : z ∈ pseudo a rs ↔ ∃ x : Nat, x ∈ psN a rs ∧ z = (x : Int) := by
  rw [pseudo_eq hc, sortTo_mem _ _ (Nat.le_refl _), List.take_length, List.mem_map]
  exact ⟨fun ⟨x, h1, h2⟩ => ⟨x, h1, h2.symm⟩, fun ⟨x, h1, h2⟩ => ⟨x, h1, h2.symm⟩⟩
theorem pseudo_asc {a : Int} {rs : List Int} (hc : isCtx a rs = true) : Asc key (pseudo a rs) := by
  rw [pseudo_eq hc]
  refine asc_sortTo _ (fun x hx => ?_) _ (Nat.le_refl _)
  obtain ⟨y, hy, rfl⟩ := List.mem_map.1 hx
  have := psN_256 hc hy
  omega
theorem pseudo_nat {a : Int} {rs : List Int} (hc : isCtx a rs = true) : asInts (pseudoN a rs) = pseudo a rs := by
  unfold pseudoN asInts
  rw [List.map_map]
  conv => rhs; rw [← List.map_id (pseudo a rs)]
  apply List.map_congr_left
  intro z hz
  obtain ⟨x, -, rfl⟩ := (pseudo_mem hc).1 hz
  simp
theorem pseudo_base {a : Int} {rs : List Int} (hc : isCtx a rs = true) : Base (clo a rs) a.toNat (pseudoN a rs) where
  mem := fun x => by
    unfold pseudoN
    rw [List.mem_map]
    constructor
    · rintro ⟨z, hz, rfl⟩
      obtain ⟨y, hy, rfl⟩ := (pseudo_mem hc).1 hz
      rw [Int.toNat_natCast]; exact hy
    · intro hx
      exact ⟨(x : Int), (pseudo_mem hc).2 ⟨x, hx, rfl⟩, by simp⟩
  nodup := by
    have h1 : (pseudo a rs).Nodup := (pseudo_asc hc).imp fun h he => by rw [he] at h; omega
    unfold pseudoN
    refine nodup_map h1 fun x hx y hy he => ?_
    obtain ⟨u, -, rfl⟩ := (pseudo_mem hc).1 hx
    obtain ⟨v, -, rfl⟩ := (pseudo_mem hc).1 hy
    rw [Int.toNat_natCast, Int.toNat_natCast] at he
    rw [he]
theorem pseudo_len {a : Int} {rs : List Int} (hc : isCtx a rs = true) : (pseudo a rs).length ≤ 32 := by
  have := base_len (clo_ok hc) (pseudo_base hc) (by have := isCtx_parts hc; omega)
  simpa [pseudoN] using this
theorem psN_len {a : Int} {rs : List Int} (hc : isCtx a rs = true) : (psN a rs).length ≤ 32 :=
  base_len (clo_ok hc) ⟨fun _ => Iff.rfl, psTo_nodup _ _⟩ (by have := isCtx_parts hc; omega)
theorem psTo_len (cl : Nat → Nat) (k : Nat) : (psTo cl k).length ≤ k := holes k _ (psTo_nodup cl k) fun _ h => ps_lt h
/-- The rules of a context's pseudo-closed sets. -/
def stemOf (a : Int) (rs : List Int) : List PInt := (pseudoN a rs).map (ruleOf (clo a rs))
def pseudoIntents (a : Int) (rs : List Int) : List Int := if isCtx a rs = true then pseudo a rs else []
def stemBase (a : Int) (rs : List Int) : List PInt := if isCtx a rs = true then stemOf a rs else []
theorem stemOf_len (a : Int) (rs : List Int) : (stemOf a rs).length = (pseudo a rs).length := by simp [stemOf, pseudoN]
theorem stemBase_len (a : Int) (rs : List Int) : (stemBase a rs).length ≤ 32 := by
  unfold stemBase
  split
  · rename_i h; rw [stemOf_len]; exact pseudo_len h
  · simp
theorem pseudoIntents_len (a : Int) (rs : List Int) : (pseudoIntents a rs).length ≤ 32 := by
  unfold pseudoIntents
  split
  · rename_i h; exact pseudo_len h
  · simp
/-- Does a rule follow from others? (sets below 256) -/
def follow1 (l : List PInt) (r : PInt) : Bool := decide (r.2.toNat &&& Rule.cl l r.1.toNat = r.2.toNat)
def allFollow (l fr : List PInt) : Bool := l.all (follow1 fr)
def isBase (a : Int) (rs : List Int) (l : List PInt) : Bool := isCtx a rs && areR a l && l.all (holds a rs) && allFollow (stemOf a rs) l
def isShortest (a : Int) (rs : List Int) (l : List PInt) : Bool := isBase a rs l && decide (l.length = (pseudo a rs).length)
/-- How many sets below k are not closed. -/
def openN (cl : Nat → Nat) : Nat → Nat
  | 0 => 0
  | k + 1 => if cl k = k then openN cl k else openN cl k + 1
theorem openN_le (cl : Nat → Nat) : ∀ k, openN cl k ≤ k
  | 0 => Nat.le_refl _
  | k + 1 => by
    have := openN_le cl k
    unfold openN
    split <;> omega
def countRules (a : Int) (rs : List Int) : Int := if isCtx a rs = true then ((openN (clo a rs) (2 ^ a.toNat) : Nat) : Int) else -1
/-- The stem base is a list of rules of the context's attributes. -/
theorem ruleOf_isR {a : Int} {rs : List Int} (hc : isCtx a rs = true) {p : Nat} (hp : p ∈ pseudoN a rs) : isR a (ruleOf (clo a rs) p) = true := by
  have h6 := isCtx_parts hc
  have h1 : isSet a ((p : Nat) : Int) = true := isSet_of_nat h6.1 (by omega) ((pseudo_base hc).lt hp)
  have h2 : isSet a ((clo a rs p : Nat) : Int) = true := isSet_of_nat h6.1 (by omega) ((clo_ok hc).lt p)
  show (isSet a (p : Int) && isSet a ((clo a rs p : Nat) : Int)) = true
  rw [h1, h2]; rfl
theorem stemOf_areR {a : Int} {rs : List Int} (hc : isCtx a rs = true) : areR a (stemOf a rs) = true := by
  have h6 := isCtx_parts hc
  have h1 : allIn a (stemOf a rs) = true := List.all_eq_true.2 fun r hr => by
    obtain ⟨p, hp, rfl⟩ := List.mem_map.1 hr
    exact ruleOf_isR hc hp
  have h2 := pseudo_len hc
  rw [areR, h1, decide_eq_true (show 0 ≤ a ∧ a ≤ 6 from ⟨h6.1, h6.2.1⟩), stemOf_len, decide_eq_true (by omega)]; rfl
theorem stemOf_cl {a : Int} {rs : List Int} (hc : isCtx a rs = true) {s : Nat} (hs : s < 2 ^ a.toNat) : Rule.cl (stemOf a rs) s = clo a rs s := base_closed (clo_ok hc) (pseudo_base hc) hs
theorem holds_clo {a : Int} {rs : List Int} (hc : isCtx a rs = true) {r : PInt} (hr : isR a r = true) : holds a rs r = true ↔ Le r.2.toNat (clo a rs r.1.toNat) := by
  have h1 := hr
  unfold isR at h1
  rw [Bool.and_eq_true] at h1
  obtain ⟨m, hm, -, -, -⟩ := isSet_to_nat h1.1
  rw [holds, hc, hr, Bool.true_and, Bool.true_and, decide_eq_true_eq, and_le', hm, Int.toNat_natCast]
  exact Iff.rfl
theorem stemOf_base {a : Int} {rs : List Int} (hc : isCtx a rs = true) : isBase a rs (stemOf a rs) = true := by
  have h1 : (stemOf a rs).all (holds a rs) = true := List.all_eq_true.2 fun r hr => by
    obtain ⟨p, hp, rfl⟩ := List.mem_map.1 hr
    rw [holds_clo hc (ruleOf_isR hc hp)]
    show Le ((clo a rs p : Nat) : Int).toNat (clo a rs ((p : Nat) : Int).toNat)
    rw [Int.toNat_natCast, Int.toNat_natCast]
    exact Le.refl _
  have h2 : allFollow (stemOf a rs) (stemOf a rs) = true := List.all_eq_true.2 fun r hr => by
    obtain ⟨p, hp, rfl⟩ := List.mem_map.1 hr
    show decide (((clo a rs p : Nat) : Int).toNat &&& Rule.cl (stemOf a rs) ((p : Nat) : Int).toNat = ((clo a rs p : Nat) : Int).toNat) = true
    rw [Int.toNat_natCast, Int.toNat_natCast, stemOf_cl hc ((pseudo_base hc).lt hp), Nat.and_self, decide_eq_true rfl]
  rw [isBase, hc, stemOf_areR hc, h1, h2]; rfl
/-- No base is shorter than the stem base. -/
theorem stem_short {a : Int} {rs : List Int} {l : List PInt} (h : isBase a rs l = true) : (stemOf a rs).length ≤ l.length := by
  unfold isBase at h
  rw [Bool.and_eq_true, Bool.and_eq_true, Bool.and_eq_true] at h
  obtain ⟨⟨⟨hc, har⟩, hho⟩, haf⟩ := h
  have hin : allIn a l = true := by
    unfold areR at har
    rw [Bool.and_eq_true, Bool.and_eq_true] at har
    exact har.1.1
  have h6 := isCtx_parts hc
  have h8 : ∀ k, k < l.length → (rl l k).2.toNat < 2 ^ 8 := fun k hk => by
    obtain ⟨m, hm, hlt, -, -⟩ := isSet_to_nat (allIn_rl hin hk).2
    rw [hm, Int.toNat_natCast]
    exact Nat.lt_of_lt_of_le hlt (pow_le8 (by omega))
  have := base_short (l := l) (clo_ok hc) (pseudo_base hc) (fun k hk => ?_) (fun p hp => ?_)
  · simpa [stemOf] using this
  · have hr := List.all_eq_true.1 hin _ (rl_mem hk)
    exact (holds_clo hc hr).1 (List.all_eq_true.1 hho _ (rl_mem hk))
  · have hps := (ps_iff ((pseudo_base hc).lt hp)).1 (((pseudo_base hc).mem p).1 hp)
    have hf := List.all_eq_true.1 haf _ (List.mem_map_of_mem hp)
    change decide (((clo a rs p : Nat) : Int).toNat &&& Rule.cl l ((p : Nat) : Int).toNat = ((clo a rs p : Nat) : Int).toNat) = true at hf
    rw [Int.toNat_natCast, Int.toNat_natCast, decide_eq_true_eq, and_le'] at hf
    cases hb : allR l p with
    | false => rfl
    | true =>
      exfalso
      have hlt : p < 2 ^ 8 := Nat.lt_of_lt_of_le ((pseudo_base hc).lt hp) (Nat.pow_le_pow_right (by omega) (by omega))
      have he : Rule.cl l p = p := (cl_spec h8 hlt).eq ⟨Le.refl p, hb, fun u _ h => h⟩
      rw [he] at hf
      exact hps.1 (hf.antisymm ((clo_ok hc).ext p ((pseudo_base hc).lt hp)))
/-- What is left of the stem base without one rule does not give that rule. -/
theorem stem_needs {a : Int} {rs : List Int} (hc : isCtx a rs = true) {k : Nat} (hk : k < (stemOf a rs).length) : follow1 ((stemOf a rs).take k ++ (stemOf a rs).drop (k + 1)) (rl (stemOf a rs) k) = false := by
  have hk' : k < (pseudoN a rs).length := by simpa [stemOf] using hk
  have he : pseudoN a rs = (pseudoN a rs).take k ++ (pseudoN a rs)[k] :: (pseudoN a rs).drop (k + 1) := by
    rw [List.getElem_cons_drop, List.take_append_drop]
  have h1 := base_needs (pseudo_base hc) he
  have h2 : (stemOf a rs).take k ++ (stemOf a rs).drop (k + 1) = ((pseudoN a rs).take k ++ (pseudoN a rs).drop (k + 1)).map (ruleOf (clo a rs)) := by
    rw [stemOf, ← List.map_take, ← List.map_drop, List.map_append]
  have h3 : rl (stemOf a rs) k = ruleOf (clo a rs) (pseudoN a rs)[k] := by
    rw [rl, List.getD_eq_getElem?_getD, List.getElem?_eq_getElem hk, Option.getD_some]
    simp [stemOf]
  have hp : (pseudoN a rs)[k] ∈ pseudoN a rs := List.getElem_mem hk'
  rw [h2, h3]
  generalize (pseudoN a rs)[k] = p at h1 hp
  have hlt := (pseudo_base hc).lt hp
  have h6 := isCtx_parts hc
  have h28 : 2 ^ a.toNat ≤ 2 ^ 8 := Nat.pow_le_pow_right (by omega) (by omega)
  have hcl : Rule.cl (((pseudoN a rs).take k ++ (pseudoN a rs).drop (k + 1)).map (ruleOf (clo a rs))) p = p :=
    (cl_spec (fun j hj => by
      obtain ⟨q, -, e⟩ := rl_map hj
      rw [e]
      exact Nat.lt_of_lt_of_le ((clo_ok hc).lt q) h28) (Nat.lt_of_lt_of_le hlt h28)).eq ⟨Le.refl p, h1.1, fun u _ h => h⟩
  show decide (((clo a rs p : Nat) : Int).toNat &&& Rule.cl _ ((p : Nat) : Int).toNat = ((clo a rs p : Nat) : Int).toNat) = false
  rw [Int.toNat_natCast, Int.toNat_natCast, hcl, decide_eq_false_iff_not, and_le']
  intro hle
  exact h1.2 (hle.antisymm ((clo_ok hc).ext p hlt))
theorem stem_get {a : Int} {rs : List Int} (hc : isCtx a rs = true) {k : Nat} (hk : k < (pseudo a rs).length) : ∃ x : Nat, x < 256 ∧ x ∈ pseudoN a rs ∧ (pseudo a rs).getD k 0 = (x : Int) ∧ rl (stemOf a rs) k = ((x : Int), ((clo a rs x : Nat) : Int)) ∧ (stemOf a rs).take (k + 1) = (stemOf a rs).take k ++ [((x : Int), ((clo a rs x : Nat) : Int))] := by
  have hkN : k < (pseudoN a rs).length := by simpa [pseudoN] using hk
  have hkS : k < (stemOf a rs).length := by rw [stemOf_len]; exact hk
  have hm : (pseudoN a rs)[k] ∈ pseudoN a rs := List.getElem_mem hkN
  have h1 : (pseudo a rs).getD k 0 = (((pseudoN a rs)[k] : Nat) : Int) := by
    rw [List.getD_eq_getElem?_getD, ← pseudo_nat hc, List.getElem?_map, List.getElem?_eq_getElem hkN]; rfl
  have h2 : (stemOf a rs)[k] = ruleOf (clo a rs) (pseudoN a rs)[k] := by simp [stemOf]
  refine ⟨(pseudoN a rs)[k], psN_256 hc (((pseudo_base hc).mem _).1 hm), hm, h1, ?_, ?_⟩
  · rw [rl, List.getD_eq_getElem?_getD, List.getElem?_eq_getElem hkS, Option.getD_some, h2]; rfl
  · rw [List.take_add_one, List.getElem?_eq_getElem hkS, h2]; rfl
end Go.Proofs.Ythodmmckekgkdaa.Stem

namespace Go.Proofs.Ythodmmckekgkdaa.Stem
open Go Go.RowKit Mem Sets Ctx Tab Rule Lectic
set_option maxRecDepth 100000

/-- The list after t doublings: behind the sets laid so far the same ones with the element n - 1 - t. -/
def layTo (n : Nat) : Nat → Nat → Nat
  | 0, _ => 0
  | t + 1, i => if i < 2 ^ t then layTo n t i else if i < 2 ^ (t + 1) then layTo n t (i - 2 ^ t) ||| 2 ^ (n - 1 - t) else 0
def lecN (n : Nat) : List Nat := (List.range (2 ^ n)).map (layTo n n)
theorem lecN_len (n : Nat) : (lecN n).length = 2 ^ n := by simp [lecN]
theorem lecN_get {n i : Nat} (hi : i < 2 ^ n) : (lecN n).getD i 0 = layTo n n i := by
  rw [lecN, List.getD_eq_getElem?_getD, List.getElem?_map, List.getElem?_range hi]; rfl
theorem layTo_lt {n : Nat} : ∀ {t i : Nat}, t ≤ n → layTo n t i < 2 ^ n
  | 0, i, _ => by show 0 < 2 ^ n; exact Nat.pow_pos (by omega)
  | t + 1, i, ht => by
    have hp := Nat.pow_pos (n := n) (show 0 < 2 by omega)
    unfold layTo
    split
    · exact layTo_lt (by omega)
    · split
      · exact Nat.or_lt_two_pow (layTo_lt (by omega)) (Nat.pow_lt_pow_right (by omega) (by omega))
      · exact hp
theorem lay_mir : ∀ n : Nat, n < 7 → ∀ i : Nat, i < 64 → i < 2 ^ n → layTo n n i = mir (i * 2 ^ (8 - n)) ∧ i * 2 ^ (8 - n) < 256 := by decide +kernel
theorem mir_lay : ∀ n : Nat, n < 7 → ∀ x : Nat, x < 64 → x < 2 ^ n → mir x / 2 ^ (8 - n) < 2 ^ n ∧ mir (mir x / 2 ^ (8 - n) * 2 ^ (8 - n)) = x := by decide +kernel
theorem pow6 {n : Nat} (hn : n ≤ 6) : 2 ^ n ≤ 64 := Nat.pow_le_pow_right (n := 2) (by omega) hn
theorem lay_at {n i : Nat} (hn : n ≤ 6) (hi : i < 2 ^ n) : layTo n n i = mir (i * 2 ^ (8 - n)) ∧ i * 2 ^ (8 - n) < 256 :=
  lay_mir n (by omega) i (Nat.lt_of_lt_of_le hi (pow6 hn)) hi
theorem lecN_up {n : Nat} (hn : n ≤ 6) : Up (lecN n) := by
  unfold Up lecN
  rw [List.pairwise_map]
  refine List.Pairwise.imp_of_mem (fun {a b} ha hb h => ?_) (List.pairwise_lt_range (n := 2 ^ n))
  have h1 := lay_at hn (List.mem_range.1 ha)
  have h2 := lay_at hn (List.mem_range.1 hb)
  rw [h1.1, h2.1, mir_mir _ h1.2, mir_mir _ h2.2]
  exact Nat.mul_lt_mul_of_pos_right h (Nat.pow_pos (by omega))
theorem lecN_mem {n x : Nat} (hn : n ≤ 6) : x ∈ lecN n ↔ x < 2 ^ n := by
  unfold lecN
  rw [List.mem_map]
  constructor
  · rintro ⟨i, -, rfl⟩; exact layTo_lt (Nat.le_refl _)
  · intro hx
    obtain ⟨h1, h2⟩ := mir_lay n (by omega) x (Nat.lt_of_lt_of_le hx (pow6 hn)) hx
    exact ⟨_, List.mem_range.2 h1, by rw [(lay_at hn h1).1, h2]⟩
/-- A proper subset stands ahead. -/
theorem le_mir {x y : Nat} (hx : x < 256) (hy : y < 256) (h : Le x y) (hn : x ≠ y) : mir x < mir y := by
  rcases Nat.lt_trichotomy (mir x) (mir y) with h1 | h1 | h1
  · exact h1
  · exact absurd (mir_inj hx hy h1) hn
  · obtain ⟨m, -, h2, h3⟩ := mir_lexAt hy hx h1
    rw [h m h3] at h2; cases h2
/-- The rules found among the first k sets of a list. -/
def stemTo (cl : Nat → Nat) (l : List Nat) : Nat → List PInt
  | 0 => []
  | k + 1 => if cl (l.getD k 0) ≠ l.getD k 0 ∧ allR (stemTo cl l k) (l.getD k 0) = true then stemTo cl l k ++ [ruleOf cl (l.getD k 0)] else stemTo cl l k
theorem stemTo_succ (cl : Nat → Nat) (l : List Nat) (k : Nat) : stemTo cl l (k + 1) = if cl (l.getD k 0) ≠ l.getD k 0 ∧ allR (stemTo cl l k) (l.getD k 0) = true then stemTo cl l k ++ [ruleOf cl (l.getD k 0)] else stemTo cl l k := rfl
theorem stemTo_len (cl : Nat → Nat) (l : List Nat) : ∀ k, (stemTo cl l k).length ≤ k
  | 0 => Nat.le_refl _
  | k + 1 => by
    have := stemTo_len cl l k
    rw [stemTo_succ]
    split
    · rw [List.length_append]; simp; omega
    · omega
def isPs (cl : Nat → Nat) (n : Nat) (x : Nat) : Bool := decide (x ∈ psTo cl (2 ^ n))
theorem stemTo_eq {cl : Nat → Nat} {n : Nat} (hn : n ≤ 6) : ∀ k, k ≤ 2 ^ n → stemTo cl (lecN n) k = (((lecN n).take k).filter (isPs cl n)).map (ruleOf cl)
  | 0, _ => by simp [stemTo]
  | k + 1, hk => by
    have ih := stemTo_eq (cl := cl) hn k (by omega)
    have hkl : k < (lecN n).length := by rw [lecN_len]; omega
    have h64 := pow6 hn
    have hs : (lecN n).getD k 0 = (lecN n)[k] := by rw [List.getD_eq_getElem?_getD, List.getElem?_eq_getElem hkl]; rfl
    have htk : (lecN n).take (k + 1) = (lecN n).take k ++ [(lecN n).getD k 0] := by rw [List.take_add_one, List.getElem?_eq_getElem hkl, hs]; rfl
    have hmem : (lecN n).getD k 0 < 2 ^ n := (lecN_mem hn).1 (by rw [hs]; exact List.getElem_mem hkl)
    have hup := lecN_up hn
    have hbef : ∀ p, p < 2 ^ n → mir p < mir ((lecN n).getD k 0) → p ∈ (lecN n).take k := fun p hp hlt => by
      obtain ⟨j, hj, rfl⟩ := List.getElem_of_mem ((lecN_mem hn).2 hp)
      rw [hs] at hlt
      rcases Nat.lt_trichotomy j k with h1 | h1 | h1
      · exact List.mem_take_iff_getElem.2 ⟨j, by rw [lecN_len]; omega, rfl⟩
      · subst h1; omega
      · have := List.pairwise_iff_getElem.1 hup k j hkl hj h1; omega
    have hnot : (lecN n).getD k 0 ∉ (lecN n).take k := fun hm => by
      obtain ⟨j, hj, he⟩ := List.mem_take_iff_getElem.1 hm
      have hjl : j < (lecN n).length := by omega
      have := List.pairwise_iff_getElem.1 hup j k hjl hkl (by omega)
      rw [he, hs] at this; omega
    have key : (cl ((lecN n).getD k 0) ≠ (lecN n).getD k 0 ∧ allR (stemTo cl (lecN n) k) ((lecN n).getD k 0) = true) ↔ (lecN n).getD k 0 ∈ psTo cl (2 ^ n) := by
      rw [ps_iff hmem, ih, allR_map]
      refine and_congr Iff.rfl ⟨fun h p hp hne hle => ?_, fun h p hp hle => ?_⟩
      · have hlt := ps_lt hp
        refine h p (List.mem_filter.2 ⟨hbef p hlt (le_mir (by omega) (by omega) hle hne), by unfold isPs; exact decide_eq_true hp⟩) hle
      · have h1 := List.mem_filter.1 hp
        refine h p (by have := h1.2; unfold isPs at this; exact of_decide_eq_true this) (fun e => hnot (e ▸ h1.1)) hle
    rw [stemTo_succ, htk, List.filter_append, List.map_append]
    by_cases h : (lecN n).getD k 0 ∈ psTo cl (2 ^ n)
    · rw [if_pos (key.2 h), ih]
      have : isPs cl n ((lecN n).getD k 0) = true := by unfold isPs; exact decide_eq_true h
      rw [List.filter_cons_of_pos this]; rfl
    · rw [if_neg (fun h1 => h (key.1 h1)), ih]
      have : ¬ isPs cl n ((lecN n).getD k 0) = true := by unfold isPs; rw [decide_eq_false h]; decide
      rw [List.filter_cons_of_neg this]; simp
theorem mirror_mir : ∀ m : Nat, m < 256 → mirror m = mir m := by decide +kernel
theorem pseudo_lec {a : Int} {rs : List Int} (hc : isCtx a rs = true) : pseudoN a rs = (lecN a.toNat).filter (isPs (clo a rs) a.toNat) := by
  have h6 := isCtx_parts hc
  have hb := pseudo_base hc
  have hn : a.toNat ≤ 6 := by omega
  refine up_unique _ _ ?_ (List.Pairwise.sublist List.filter_sublist (lecN_up hn)) fun x => ?_
  · have h1 := pseudo_asc hc
    unfold Up pseudoN
    rw [List.pairwise_map]
    refine List.Pairwise.imp_of_mem (fun {x y} hx hy h => ?_) h1
    obtain ⟨u, hu, rfl⟩ := (pseudo_mem hc).1 hx
    obtain ⟨v, hv, rfl⟩ := (pseudo_mem hc).1 hy
    have := psN_256 hc hu
    have := psN_256 hc hv
    unfold key at h
    rw [Int.toNat_natCast, Int.toNat_natCast] at h ⊢
    rw [mirror_mir u (by omega), mirror_mir v (by omega)] at h
    exact h
  · rw [hb.mem, List.mem_filter, lecN_mem hn]
    unfold isPs
    rw [decide_eq_true_eq]
    exact ⟨fun h => ⟨ps_lt h, h⟩, fun h => h.2⟩
/-- Gone through to the end they are the stem base. -/
theorem stemTo_all {a : Int} {rs : List Int} (hc : isCtx a rs = true) : stemTo (clo a rs) (lecN a.toNat) (2 ^ a.toNat) = stemOf a rs := by
  have h6 := isCtx_parts hc
  rw [stemTo_eq (by omega) _ (Nat.le_refl _), List.take_of_length_le (by rw [lecN_len]; exact Nat.le_refl _), ← pseudo_lec hc]; rfl
/-- The first numbers of the rules are the pseudo-closed sets. -/
theorem stemOf_fst {a : Int} {rs : List Int} (hc : isCtx a rs = true) : (stemOf a rs).map Prod.fst = pseudo a rs := by
  rw [← pseudo_nat hc]
  unfold stemOf
  rw [List.map_map]
  rfl
theorem stemBase_fst (a : Int) (rs : List Int) : (stemBase a rs).map Prod.fst = pseudoIntents a rs := by
  unfold stemBase pseudoIntents
  split
  · rename_i h; exact stemOf_fst h
  · rfl
/-- What is closed and what is not are all sets. -/
theorem open_closed (cl : Nat → Nat) : ∀ k, openN cl k + ((List.range k).filter fun x => cl x == x).length = k
  | 0 => rfl
  | k + 1 => by
    have ih := open_closed cl k
    rw [List.range_succ, List.filter_append, List.length_append]
    unfold openN
    by_cases h : cl k = k
    · rw [if_pos h, List.filter_cons_of_pos (by simpa using h)]; simp; omega
    · rw [if_neg h, List.filter_cons_of_neg (by simpa using h)]; simp; omega
theorem closed_len {n : Nat} {cl : Nat → Nat} (C : Clo n cl) : (closedFrom n cl (cl 0)).length = ((List.range (2 ^ n)).filter fun x => cl x == x).length := by
  refine List.Perm.length_eq ((List.perm_ext_iff_of_nodup ?_ ((List.nodup_range).filter _)).2 fun x => ?_)
  · exact (up_closedFrom n cl (cl 0)).imp fun h e => by rw [e] at h; omega
  · rw [mem_closedFrom C.n8, List.mem_filter, List.mem_range, beq_iff_eq]
    exact ⟨fun h => ⟨h.1, h.2.1⟩, fun h => ⟨h.1, h.2, closedFrom_first C h.1 h.2⟩⟩
theorem countRules_eq {a : Int} {rs : List Int} (hc : isCtx a rs = true) : countRules a rs = ((2 ^ a.toNat : Nat) : Int) - ((closedFrom a.toNat (clo a rs) (clo a rs 0)).length : Int) := by
  have h1 := open_closed (clo a rs) (2 ^ a.toNat)
  rw [← closed_len (clo_ok hc)] at h1
  rw [countRules, if_pos hc]
  omega
end Go.Proofs.Ythodmmckekgkdaa.Stem
