/-
  Chapter 7's functions as functions of numbers: rows without some objects, rows without some attributes, repeated sets, common parts.
-/
import Derived.Test.YthodmmckekgkdaaComp
import Derived.Test.YthodmmckekgkdaaDerPure
import Derived.Test.YthodmmckekgkdaaElems
namespace Go.Proofs.Ythodmmckekgkdaa.Ctx
open Go Go.RowKit Mem Sets Elems
set_option maxRecDepth 100000

/-- The rows of those of the first k objects that are not in s. -/
def dropTo (rs : List Int) (s : Int) : Nat → List Int
  | 0 => []
  | k + 1 => if bit s k = true then dropTo rs s k else dropTo rs s k ++ [rs.getD k 0]
theorem dropTo_yes {rs : List Int} {s : Int} {k : Nat} (h : bit s k = true) : dropTo rs s (k + 1) = dropTo rs s k := if_pos h
theorem dropTo_no {rs : List Int} {s : Int} {k : Nat} (h : bit s k = false) : dropTo rs s (k + 1) = dropTo rs s k ++ [rs.getD k 0] := if_neg (by simp [h])
theorem dropTo_len (rs : List Int) (s : Int) (k : Nat) : (dropTo rs s k).length ≤ k := by
  induction k with
  | zero => simp [dropTo]
  | succ k ih =>
    unfold dropTo
    split
    · omega
    · simp; omega
theorem mem_dropTo {rs : List Int} {s : Int} {x : Int} {k : Nat} : x ∈ dropTo rs s k ↔ ∃ j, j < k ∧ bit s j = false ∧ rs.getD j 0 = x := by
  induction k with
  | zero => simp [dropTo]
  | succ k ih =>
    cases h : bit s k with
    | true =>
      rw [dropTo_yes h, ih]
      constructor
      · rintro ⟨j, h1, h2⟩; exact ⟨j, by omega, h2⟩
      · rintro ⟨j, h1, h2, h3⟩
        rcases Nat.lt_or_eq_of_le (Nat.le_of_lt_succ h1) with h' | rfl
        · exact ⟨j, h', h2, h3⟩
        · rw [h] at h2; simp at h2
    | false =>
      rw [dropTo_no h, List.mem_append, ih, List.mem_singleton]
      constructor
      · rintro (⟨j, h1, h2⟩ | rfl)
        · exact ⟨j, by omega, h2⟩
        · exact ⟨k, by omega, h, rfl⟩
      · rintro ⟨j, h1, h2, h3⟩
        rcases Nat.lt_or_eq_of_le (Nat.le_of_lt_succ h1) with h' | rfl
        · exact .inl ⟨j, h', h2, h3⟩
        · exact .inr h3.symm
theorem isCtx_of {a : Int} {rs : List Int} (h0 : 0 ≤ a) (h6 : a ≤ 6) (h8 : rs.length ≤ 8) (h : ∀ x ∈ rs, isSet a x = true) : isCtx a rs = true := by
  simp only [isCtx, Bool.and_eq_true, decide_eq_true_eq, List.all_eq_true]
  exact ⟨⟨⟨h0, h6⟩, h8⟩, h⟩
theorem isCtx_mem {a : Int} {rs : List Int} (h : isCtx a rs = true) {x : Int} (hx : x ∈ rs) : isSet a x = true := by
  simp only [isCtx, Bool.and_eq_true, decide_eq_true_eq, List.all_eq_true] at h
  exact h.2 x hx
theorem getD_mem {rs : List Int} {k : Nat} (h : k < rs.length) : rs.getD k 0 ∈ rs := by
  rw [List.getD_eq_getElem?_getD, List.getElem?_eq_getElem h]; exact List.getElem_mem h
theorem isCtx_sub {a : Int} {rs l : List Int} (h : isCtx a rs = true) (h8 : l.length ≤ 8) (hl : ∀ x ∈ l, x ∈ rs) : isCtx a l = true :=
  isCtx_of (isCtx_parts h).1 (isCtx_parts h).2.1 h8 fun x hx => isCtx_mem h (hl x hx)
theorem dropTo_sub {rs : List Int} {s : Int} {x : Int} (h : x ∈ dropTo rs s rs.length) : x ∈ rs := by
  obtain ⟨j, h1, -, rfl⟩ := mem_dropTo.1 h; exact getD_mem h1
theorem dropTo_ctx {a : Int} {rs : List Int} (h : isCtx a rs = true) (s : Int) : isCtx a (dropTo rs s rs.length) = true :=
  isCtx_sub h (Nat.le_trans (dropTo_len _ _ _) (isCtx_parts h).2.2.1) fun _ hx => dropTo_sub hx
def dropO (a : Int) (rs : List Int) (s : Int) : Option (Int × List Int) := if isCtx a rs = true ∧ isSet rs.length s = true then some (a, dropTo rs s rs.length) else none

/-- The elements of s that are in keep, numbered anew, and how many elements keep has, as far as below e. -/
def packTo (s keep : Int) : Nat → Nat × Nat
  | 0 => (0, 0)
  | e + 1 => if bit keep e = true then (if bit s e = true then (packTo s keep e).1 ||| 2 ^ (packTo s keep e).2 else (packTo s keep e).1, (packTo s keep e).2 + 1) else packTo s keep e
theorem packTo_no {s keep : Int} {e : Nat} (h : bit keep e = false) : packTo s keep (e + 1) = packTo s keep e := if_neg (by simp [h])
theorem packTo_yes {s keep : Int} {e : Nat} (h : bit keep e = true) (hs : bit s e = true) : packTo s keep (e + 1) = ((packTo s keep e).1 ||| 2 ^ (packTo s keep e).2, (packTo s keep e).2 + 1) := by rw [packTo, if_pos h, if_pos hs]
theorem packTo_skip {s keep : Int} {e : Nat} (h : bit keep e = true) (hs : bit s e = false) : packTo s keep (e + 1) = ((packTo s keep e).1, (packTo s keep e).2 + 1) := by rw [packTo, if_pos h, if_neg (by simp [hs])]
theorem packTo_le (s keep : Int) (e : Nat) : (packTo s keep e).2 ≤ e := by
  induction e with
  | zero => simp [packTo]
  | succ e ih =>
    unfold packTo
    split
    · simp; omega
    · omega
theorem packTo_lt (s keep : Int) (e : Nat) : (packTo s keep e).1 < 2 ^ (packTo s keep e).2 := by
  induction e with
  | zero => simp [packTo]
  | succ e ih =>
    unfold packTo
    split
    · simp only
      have h1 : 2 ^ (packTo s keep e).2 < 2 ^ ((packTo s keep e).2 + 1) := Nat.pow_lt_pow_right (by omega) (by omega)
      split
      · exact Nat.or_lt_two_pow (by omega) h1
      · omega
    · exact ih
def pack (s keep : Int) : Nat := (packTo s keep 8).1
def packRows (rs : List Int) (keep : Int) (k : Nat) : List Int := (rs.take k).map fun r => ((pack r keep : Nat) : Int)
theorem packRows_step (rs : List Int) (keep : Int) (k : Nat) (hk : k < rs.length) : packRows rs keep (k + 1) = packRows rs keep k ++ [((pack (rs.getD k 0) keep : Nat) : Int)] := by
  simp only [packRows, List.take_add_one, List.getD, List.getElem?_eq_getElem hk, Option.toList_some, List.map_append, List.map_cons, List.map_nil, Option.getD_some]
theorem packRows_length (rs : List Int) (keep : Int) (k : Nat) (hk : k ≤ rs.length) : (packRows rs keep k).length = k := by simp [packRows]; omega
theorem packTo_count : ∀ keep : Nat, keep < 256 → (packTo 0 (keep : Int) 8).2 = pop keep := by decide +kernel
theorem packTo_snd (s t keep : Int) (e : Nat) : (packTo s keep e).2 = (packTo t keep e).2 := by
  induction e with
  | zero => rfl
  | succ e ih => unfold packTo; split <;> simp [ih]
theorem count_nat {k : Nat} (hk : k < 256) : count (k : Int) = (pop k : Int) := by rw [count, isSet8_true ⟨by omega, by omega⟩, Int.toNat_natCast]; rfl
theorem pack_lt (s : Int) {k : Nat} (hk : k < 256) : pack s k < 2 ^ pop k := by
  have h := packTo_lt s k 8
  rwa [packTo_snd s 0 k 8, packTo_count k hk] at h
theorem pop_64 : ∀ k : Nat, k < 64 → pop k ≤ 6 := by decide +kernel
/-- What is kept when the attributes of a set are dropped. -/
def keepOf (a s : Int) : Int := full a - s
theorem keepOf_nat {a : Int} {rs : List Int} {s : Int} (hc : isCtx a rs = true) (hs : isSet a s = true) : ∃ k : Nat, keepOf a s = k ∧ k < 64 := by
  have hp := isCtx_parts hc
  obtain ⟨n, rfl, hn, -, -⟩ := isSet_to_nat hs
  have h64 : 2 ^ a.toNat ≤ 2 ^ 6 := Nat.pow_le_pow_right (by omega) (by omega)
  rw [keepOf, full_nat hp.1 (by omega)]
  exact ⟨2 ^ a.toNat - 1 - n, by omega, by omega⟩
def dropA (a : Int) (rs : List Int) (s : Int) : Option (Int × List Int) := if isCtx a rs = true ∧ isSet a s = true then some (count (keepOf a s), packRows rs (keepOf a s) rs.length) else none
theorem packRows_ctx {a : Int} {rs : List Int} {s : Int} (hc : isCtx a rs = true) (hs : isSet a s = true) : isCtx (count (keepOf a s)) (packRows rs (keepOf a s) rs.length) = true := by
  obtain ⟨k, hk, hlt⟩ := keepOf_nat hc hs
  rw [hk, count_nat (by omega)]
  have h6 := pop_64 k hlt
  refine isCtx_of (by omega) (by omega) (by rw [packRows_length _ _ _ (Nat.le_refl _)]; exact (isCtx_parts hc).2.2.1) fun x hx => ?_
  obtain ⟨r, -, rfl⟩ := List.mem_map.1 hx
  exact isSet_of_nat (by omega) (by omega) (by rw [Int.toNat_natCast]; exact pack_lt r (by omega))

/-- The rows of the first k objects, each once. -/
def dedTo (rs : List Int) : Nat → List Int
  | 0 => []
  | k + 1 => if (dedTo rs k).contains (rs.getD k 0) = true then dedTo rs k else dedTo rs k ++ [rs.getD k 0]
/-- The places below k at which a number of the list stands again. -/
def dupTo (xs : List Int) : Nat → Nat
  | 0 => 0
  | k + 1 => if (xs.take k).contains (xs.getD k 0) = true then dupTo xs k ||| 2 ^ k else dupTo xs k
theorem dedTo_yes {rs : List Int} {k : Nat} (h : (dedTo rs k).contains (rs.getD k 0) = true) : dedTo rs (k + 1) = dedTo rs k := if_pos h
theorem dedTo_no {rs : List Int} {k : Nat} (h : (dedTo rs k).contains (rs.getD k 0) = false) : dedTo rs (k + 1) = dedTo rs k ++ [rs.getD k 0] := if_neg (by simp only [h]; simp)
theorem dupTo_yes {rs : List Int} {k : Nat} (h : (rs.take k).contains (rs.getD k 0) = true) : dupTo rs (k + 1) = dupTo rs k ||| 2 ^ k := if_pos h
theorem dupTo_no {rs : List Int} {k : Nat} (h : (rs.take k).contains (rs.getD k 0) = false) : dupTo rs (k + 1) = dupTo rs k := if_neg (by simp only [h]; simp)
theorem dedTo_len (rs : List Int) (k : Nat) : (dedTo rs k).length ≤ k := by
  induction k with
  | zero => simp [dedTo]
  | succ k ih =>
    unfold dedTo
    split
    · omega
    · simp; omega
theorem dupTo_lt (xs : List Int) (k : Nat) : dupTo xs k < 2 ^ k := by
  induction k with
  | zero => simp [dupTo]
  | succ k ih =>
    have h1 : 2 ^ k < 2 ^ (k + 1) := Nat.pow_lt_pow_right (by omega) (by omega)
    unfold dupTo
    split
    · exact Nat.or_lt_two_pow (by omega) h1
    · omega
theorem take_mem {xs : List Int} {x : Int} {k : Nat} (hk : k < xs.length) : x ∈ xs.take (k + 1) ↔ x ∈ xs.take k ∨ x = xs.getD k 0 := by
  rw [List.take_add_one, List.getD_eq_getElem?_getD, List.getElem?_eq_getElem hk, Option.toList_some, List.mem_append, List.mem_singleton]; rfl
theorem mem_dedTo {rs : List Int} {x : Int} : ∀ {k : Nat}, k ≤ rs.length → (x ∈ dedTo rs k ↔ x ∈ rs.take k)
  | 0, _ => by simp [dedTo]
  | k + 1, hk => by
    have ih := mem_dedTo (rs := rs) (x := x) (k := k) (by omega)
    rw [take_mem (by omega)]
    by_cases h : (dedTo rs k).contains (rs.getD k 0) = true
    · rw [dedTo_yes h, ih]
      refine ⟨.inl, fun h' => h'.elim id fun e => ?_⟩
      subst e
      exact (mem_dedTo (by omega)).1 (List.contains_iff_mem.1 h)
    · rw [dedTo_no (by simpa using h), List.mem_append, ih, List.mem_singleton]
theorem dup_contains {rs : List Int} {k : Nat} (hk : k ≤ rs.length) (x : Int) : (dedTo rs k).contains x = (rs.take k).contains x := by
  rw [Bool.eq_iff_iff, List.contains_iff_mem, List.contains_iff_mem, mem_dedTo hk]
theorem dupTo_bit (xs : List Int) (k j : Nat) : (dupTo xs k).testBit j = (decide (j < k) && (xs.take j).contains (xs.getD j 0)) := by
  induction k with
  | zero => simp [dupTo]
  | succ k ih =>
    cases h : (xs.take k).contains (xs.getD k 0) with
    | true =>
      rw [dupTo_yes h, Nat.testBit_or, ih, Nat.testBit_two_pow]
      by_cases hj : k = j
      · subst hj; rw [h]; simp
      · have : decide (j < k + 1) = decide (j < k) := by rw [decide_eq_decide]; omega
        rw [this]; simp [hj]
    | false =>
      rw [dupTo_no h, ih]
      by_cases hj : k = j
      · subst hj; rw [h]; simp
      · have : decide (j < k + 1) = decide (j < k) := by rw [decide_eq_decide]; omega
        rw [this]
/-- Dropping what stands again leaves each once. -/
theorem drop_dup (rs : List Int) {n : Nat} (hn : n ≤ rs.length) : ∀ k, k ≤ n → dropTo rs ((dupTo rs n : Nat) : Int) k = dedTo rs k
  | 0, _ => rfl
  | k + 1, hk => by
    have ih := drop_dup rs hn k (by omega)
    have hb : bit ((dupTo rs n : Nat) : Int) k = (rs.take k).contains (rs.getD k 0) := by
      show (dupTo rs n).testBit k = _
      rw [dupTo_bit, decide_eq_true (by omega : k < n), Bool.true_and]
    cases h : (rs.take k).contains (rs.getD k 0) with
    | true => rw [dropTo_yes (hb.trans h), ih, dedTo_yes (by rw [dup_contains (by omega), h])]
    | false => rw [dropTo_no (hb.trans h), ih, dedTo_no (by rw [dup_contains (by omega), h])]
theorem dedTo_ctx {a : Int} {rs : List Int} (h : isCtx a rs = true) : isCtx a (dedTo rs rs.length) = true :=
  isCtx_sub h (Nat.le_trans (dedTo_len _ _) (isCtx_parts h).2.2.1) fun _ hx => by have := (mem_dedTo (Nat.le_refl _)).1 hx; rwa [List.take_length] at this
/-- The columns of all attributes. -/
abbrev cols (a : Int) (rs : List Int) : List Int := dualTo rs a.toNat
theorem cols_get {a : Int} {rs : List Int} {m : Nat} (hm : m < a.toNat) : (cols a rs).getD m 0 = ((colTo rs m rs.length : Nat) : Int) := by
  simp [cols, dualTo, List.getD_eq_getElem?_getD, List.getElem?_map, List.getElem?_range hm]
/-- Equal columns: the attributes whose column stands ahead. -/
def twins (a : Int) (rs : List Int) : Nat := dupTo (cols a rs) a.toNat
theorem twins_isSet {a : Int} {rs : List Int} (h : isCtx a rs = true) : isSet a ((twins a rs : Nat) : Int) = true :=
  isSet_of_nat (isCtx_parts h).1 (by have := isCtx_parts h; omega) (dupTo_lt _ _)
def clarify (a : Int) (rs : List Int) : Option (Int × List Int) := if isCtx a rs = true then dropA a (dedTo rs rs.length) ((twins a (dedTo rs rs.length) : Nat) : Int) else none

/-- What a start and those of the first k numbers that hold x and are not x have in common. -/
def cpTo (f : Nat) (x : Int) (xs : List Int) : Nat → Nat
  | 0 => f
  | k + 1 => if xs.getD k 0 ≠ x ∧ (xs.getD k 0).toNat &&& x.toNat = x.toNat then cpTo f x xs k &&& (xs.getD k 0).toNat else cpTo f x xs k
theorem cpTo_yes {f : Nat} {x : Int} {xs : List Int} {k : Nat} (h : xs.getD k 0 ≠ x ∧ (xs.getD k 0).toNat &&& x.toNat = x.toNat) : cpTo f x xs (k + 1) = cpTo f x xs k &&& (xs.getD k 0).toNat := if_pos h
theorem cpTo_no {f : Nat} {x : Int} {xs : List Int} {k : Nat} (h : ¬ (xs.getD k 0 ≠ x ∧ (xs.getD k 0).toNat &&& x.toNat = x.toNat)) : cpTo f x xs (k + 1) = cpTo f x xs k := if_neg h
theorem cpTo_lt {f n : Nat} (h : f < n) (x : Int) (xs : List Int) (k : Nat) : cpTo f x xs k < n := by
  induction k with
  | zero => exact h
  | succ k ih =>
    unfold cpTo
    split
    · exact Nat.lt_of_le_of_lt Nat.and_le_left ih
    · exact ih
/-- The number at place k is the common part of the greater ones. -/
def isCp (f : Nat) (xs : List Int) (k : Nat) : Bool := ((cpTo f (xs.getD k 0) xs xs.length : Nat) : Int) == xs.getD k 0
/-- The places below k of such numbers. -/
def cmTo (f : Nat) (xs : List Int) : Nat → Nat
  | 0 => 0
  | k + 1 => if isCp f xs k = true then cmTo f xs k ||| 2 ^ k else cmTo f xs k
theorem cmTo_yes {f : Nat} {xs : List Int} {k : Nat} (h : isCp f xs k = true) : cmTo f xs (k + 1) = cmTo f xs k ||| 2 ^ k := if_pos h
theorem cmTo_no {f : Nat} {xs : List Int} {k : Nat} (h : isCp f xs k = false) : cmTo f xs (k + 1) = cmTo f xs k := if_neg (by simp [h])
theorem cmTo_lt (f : Nat) (xs : List Int) (k : Nat) : cmTo f xs k < 2 ^ k := by
  induction k with
  | zero => simp [cmTo]
  | succ k ih =>
    have h1 : 2 ^ k < 2 ^ (k + 1) := Nat.pow_lt_pow_right (by omega) (by omega)
    unfold cmTo
    split
    · exact Nat.or_lt_two_pow (by omega) h1
    · omega
theorem cmTo_bit (f : Nat) (xs : List Int) (k j : Nat) : (cmTo f xs k).testBit j = (decide (j < k) && isCp f xs j) := by
  induction k with
  | zero => simp [cmTo]
  | succ k ih =>
    cases h : isCp f xs k with
    | true =>
      rw [cmTo_yes h, Nat.testBit_or, ih, Nat.testBit_two_pow]
      by_cases hj : k = j
      · subst hj; rw [h]; simp
      · have : decide (j < k + 1) = decide (j < k) := by rw [decide_eq_decide]; omega
        rw [this]; simp [hj]
    | false =>
      rw [cmTo_no h, ih]
      by_cases hj : k = j
      · subst hj; rw [h]; simp
      · have : decide (j < k + 1) = decide (j < k) := by rw [decide_eq_decide]; omega
        rw [this]
abbrev fullA (a : Int) : Nat := 2 ^ a.toNat - 1
abbrev fullO (rs : List Int) : Nat := 2 ^ rs.length - 1
def redO (a : Int) (rs : List Int) (g : Int) : Bool := if isCtx a rs = true ∧ 0 ≤ g ∧ g < rs.length then isCp (fullA a) rs g.toNat else false
def redA (a : Int) (rs : List Int) (m : Int) : Bool := if isCtx a rs = true ∧ 0 ≤ m ∧ m < a then isCp (fullO rs) (cols a rs) m.toNat else false
/-- The reducible objects, the reducible attributes. -/
def redOs (a : Int) (rs : List Int) : Nat := cmTo (fullA a) rs rs.length
def redAs (a : Int) (rs : List Int) : Nat := cmTo (fullO rs) (cols a rs) a.toNat
theorem redOs_isSet {a : Int} {rs : List Int} (h : isCtx a rs = true) : isSet rs.length ((redOs a rs : Nat) : Int) = true :=
  isSet_of_nat (by omega) (by have := isCtx_parts h; omega) (by rw [Int.toNat_natCast]; exact cmTo_lt _ _ _)
theorem redAs_isSet {a : Int} {rs : List Int} (h : isCtx a rs = true) : isSet a ((redAs a rs : Nat) : Int) = true :=
  isSet_of_nat (isCtx_parts h).1 (by have := isCtx_parts h; omega) (cmTo_lt _ _ _)
/-- What is left of a context without its reducible objects, and then without what is reducible of its attributes. -/
def thin (a : Int) (rs : List Int) : Option (Int × List Int) := dropA a (dropTo rs ((redOs a rs : Nat) : Int) rs.length) ((redAs a (dropTo rs ((redOs a rs : Nat) : Int) rs.length) : Nat) : Int)
def reduce (a : Int) (rs : List Int) : Option (Int × List Int) := (clarify a rs).bind fun p => thin p.1 p.2
end Go.Proofs.Ythodmmckekgkdaa.Ctx
