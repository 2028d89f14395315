/-
  The lectic order as an order of numbers; sorted lists without repetition are told by what they hold. (Pure: no memory.)
-/
import Derived.Test.YthodmmckekgkdaaMirror
import Derived.Lib.SlicesCompact
import Derived.Sort.Statements
namespace Go.Proofs.Ythodmmckekgkdaa.Lectic
open Go Go.RowKit Sets
set_option maxRecDepth 100000

theorem xor_nat (m k : Nat) (hm : m < 256) (hk : k < 256) : bits .xor .i64 (m : Int) (k : Int) = ((m ^^^ k : Nat) : Int) := by
  have hx : m ^^^ k < 256 := Nat.xor_lt_two_pow (n := 8) hm hk
  have e : bits .xor .i64 (m : Int) (k : Int) = IntKind.i64.wrap ((BitVec.ofNat 64 m ^^^ BitVec.ofNat 64 k).toNat : Nat) := by
    simp only [bits, BitVec.ofInt_natCast]; rfl
  rw [e, BitVec.toNat_xor, BitVec.toNat_ofNat, BitVec.toNat_ofNat, Nat.mod_eq_of_lt (by omega), Nat.mod_eq_of_lt (by omega), IntKind.wrap_i64]
  omega
theorem before_mirror (m k : Nat) (hm : m < 256) (hk : k < 256) : before (m : Int) (k : Int) = decide (mirror m < mirror k) := by
  have hx : m ^^^ k < 256 := Nat.xor_lt_two_pow (n := 8) hm hk
  rw [before, isSet8_true ⟨by omega, by omega⟩, isSet8_true ⟨by omega, by omega⟩, beforeB, xor_nat m k hm hk, least_low _ hx, and_nat k _ hk (low_lt _ hx), ← mirror_low m hm k hk]
  simp only [Bool.true_and]
  rw [Bool.eq_iff_iff]
  simp only [bne_iff_ne, ne_eq]
  omega

/-- Strictly ascending by the key. -/
def Asc (key : Int → Nat) (l : List Int) : Prop := l.Pairwise fun x y => key x < key y
/-- Two strictly ascending lists that hold the same are the same. -/
theorem asc_unique (key : Int → Nat) : ∀ (l r : List Int), Asc key l → Asc key r → (∀ x, x ∈ l ↔ x ∈ r) → l = r
  | [], [], _, _, _ => rfl
  | [], y :: r, _, _, h => absurd ((h y).2 (by simp)) (by simp)
  | x :: l, [], _, _, h => absurd ((h x).1 (by simp)) (by simp)
  | x :: l, y :: r, hl, hr, h => by
    have hl' := List.pairwise_cons.1 hl
    have hr' := List.pairwise_cons.1 hr
    have hxy : x = y := by
      rcases List.mem_cons.1 ((h x).1 (by simp)) with e | hx
      · exact e
      · rcases List.mem_cons.1 ((h y).2 (by simp)) with e | hy
        · exact e.symm
        · have a := hl'.1 y hy
          have b := hr'.1 x hx
          omega
    subst hxy
    refine congrArg (x :: ·) (asc_unique key l r hl'.2 hr'.2 fun z => ?_)
    constructor
    · intro hz
      rcases List.mem_cons.1 ((h z).1 (by simp [hz])) with e | h1
      · subst e; have := hl'.1 z hz; omega
      · exact h1
    · intro hz
      rcases List.mem_cons.1 ((h z).2 (by simp [hz])) with e | h1
      · subst e; have := hr'.1 z hz; omega
      · exact h1

/-- A list of sets in lectic order, each once: by insertion, as the model does. -/
def key (x : Int) : Nat := mirror x.toNat
def place (out : List Int) (x : Int) : Nat := (out.takeWhile fun y => before y x).length
def ins (out : List Int) (x : Int) : List Int := if x ∈ out then out else out.take (place out x) ++ x :: out.drop (place out x)
def sortTo (xs : List Int) (k : Nat) : List Int := (xs.take k).foldl ins []
def sortLectic (xs : List Int) : List Int := if xs.all (isSet 8) = true then sortTo xs xs.length else []
theorem sortTo_step (xs : List Int) (k : Nat) (hk : k < xs.length) : sortTo xs (k + 1) = ins (sortTo xs k) (xs.getD k 0) := by
  unfold sortTo
  rw [List.take_add_one, List.getElem?_eq_getElem hk, List.foldl_append]
  simp [List.getD, List.getElem?_eq_getElem hk]
theorem ins_mem (out : List Int) (x z : Int) : z ∈ ins out x ↔ z ∈ out ∨ z = x := by
  unfold ins
  split
  · constructor
    · exact .inl
    · rintro (h | h)
      · exact h
      · rw [h]; assumption
  · rw [List.mem_append, List.mem_cons]
    constructor
    · rintro (h | h | h)
      · exact .inl (List.mem_of_mem_take h)
      · exact .inr h
      · exact .inl (List.mem_of_mem_drop h)
    · rintro (h | h)
      · rw [← List.take_append_drop (place out x) out, List.mem_append] at h
        rcases h with h | h
        · exact .inl h
        · exact .inr (.inr h)
      · exact .inr (.inl h)
theorem sortTo_mem (xs : List Int) : ∀ k, k ≤ xs.length → ∀ z, z ∈ sortTo xs k ↔ z ∈ xs.take k := by
  intro k
  induction k with
  | zero => intro _ z; simp [sortTo]
  | succ k ih =>
    intro hk z
    rw [sortTo_step xs k (by omega), ins_mem, ih (by omega), List.take_add_one, List.getElem?_eq_getElem (by omega : k < xs.length)]
    simp only [List.getD, List.getElem?_eq_getElem (by omega : k < xs.length), Option.getD_some, Option.toList_some, List.mem_append, List.mem_singleton]
theorem place_le (l : List Int) (x : Int) : place l x ≤ l.length := (List.takeWhile_sublist _).length_le
theorem sortTo_le (xs : List Int) : ∀ k, (sortTo xs k).length ≤ k := by
  intro k
  induction k with
  | zero => simp [sortTo]
  | succ k ih =>
    by_cases hk : k < xs.length
    · rw [sortTo_step xs k hk]
      unfold ins
      split
      · omega
      · simp only [List.length_append, List.length_cons, List.length_take, List.length_drop]
        have : place (sortTo xs k) (xs.getD k 0) ≤ (sortTo xs k).length := place_le _ _
        omega
    · have : sortTo xs (k + 1) = sortTo xs k := by
        unfold sortTo
        rw [List.take_of_length_le (by omega), List.take_of_length_le (by omega)]
      rw [this]; omega
theorem key_before (x y : Int) (hx : 0 ≤ x ∧ x ≤ 255) (hy : 0 ≤ y ∧ y ≤ 255) : before x y = decide (key x < key y) := by
  obtain ⟨m, rfl⟩ := Int.eq_ofNat_of_zero_le hx.1
  obtain ⟨k, rfl⟩ := Int.eq_ofNat_of_zero_le hy.1
  exact before_mirror m k (by omega) (by omega)
theorem key_inj (x y : Int) (hx : 0 ≤ x ∧ x ≤ 255) (hy : 0 ≤ y ∧ y ≤ 255) (h : key x = key y) : x = y := by
  obtain ⟨m, rfl⟩ := Int.eq_ofNat_of_zero_le hx.1
  obtain ⟨k, rfl⟩ := Int.eq_ofNat_of_zero_le hy.1
  have h1 := mirror_inj m (by omega)
  have h2 := mirror_inj k (by omega)
  simp only [key, Int.toNat_natCast] at h
  rw [h, h2] at h1
  omega
theorem asc_ins (out : List Int) (x : Int) (ho : Asc key out) (hs : ∀ y ∈ out, 0 ≤ y ∧ y ≤ 255) (hx : 0 ≤ x ∧ x ≤ 255) : Asc key (ins out x) := by
  unfold ins
  split
  · exact ho
  · rename_i hn
    have hp : ∀ (l : List Int), Asc key l → (∀ y ∈ l, 0 ≤ y ∧ y ≤ 255) → x ∉ l → (∀ y ∈ l.take (place l x), key y < key x) ∧ (∀ y ∈ l.drop (place l x), key x < key y) := by
      intro l
      induction l with
      | nil => intro _ _ _; simp
      | cons a l ih =>
        intro h1 h2 h3
        have h1' := List.pairwise_cons.1 h1
        have ha := h2 a (by simp)
        have hk := key_before a x ha hx
        cases hb : before a x with
        | true =>
          rw [hb] at hk
          have hlt : key a < key x := by simpa using hk.symm
          have hpl : place (a :: l) x = place l x + 1 := by simp [place, hb]
          rw [hpl]
          have := ih h1'.2 (fun y hy => h2 y (by simp [hy])) (fun h => h3 (by simp [h]))
          refine ⟨fun y hy => ?_, fun y hy => this.2 y (by simpa using hy)⟩
          rw [List.take_succ_cons, List.mem_cons] at hy
          rcases hy with e | hy
          · rw [e]; exact hlt
          · exact this.1 y hy
        | false =>
          rw [hb] at hk
          have hge : ¬ key a < key x := by simpa using hk.symm
          have hne : key a ≠ key x := fun e => h3 (by rw [key_inj a x ha hx e]; simp)
          have hpl : place (a :: l) x = 0 := by simp [place, hb]
          rw [hpl]
          refine ⟨by simp, fun y hy => ?_⟩
          simp only [List.drop_zero, List.mem_cons] at hy
          rcases hy with e | hy
          · rw [e]; omega
          · have := h1'.1 y hy; omega
    obtain ⟨p1, p2⟩ := hp out ho hs hn
    have ho' : Asc key (out.take (place out x) ++ out.drop (place out x)) := by rw [List.take_append_drop]; exact ho
    obtain ⟨q1, q2, q3⟩ := List.pairwise_append.1 ho'
    refine List.pairwise_append.2 ⟨q1, List.pairwise_cons.2 ⟨p2, q2⟩, fun a ha b hb => ?_⟩
    rcases List.mem_cons.1 hb with e | hb
    · rw [e]; exact p1 a ha
    · exact q3 a ha b hb
theorem asc_sortTo (xs : List Int) (hs : ∀ x ∈ xs, 0 ≤ x ∧ x ≤ 255) : ∀ k, k ≤ xs.length → Asc key (sortTo xs k) := by
  intro k
  induction k with
  | zero => intro _; simp [sortTo, Asc]
  | succ k ih =>
    intro hk
    rw [sortTo_step xs k (by omega)]
    refine asc_ins _ _ (ih (by omega)) (fun y hy => hs y (List.mem_of_mem_take ((sortTo_mem xs k (by omega) y).1 hy))) (hs _ ?_)
    simp only [List.getD, List.getElem?_eq_getElem (by omega : k < xs.length), Option.getD_some]
    exact List.getElem_mem _

/-! The sorted list of the library, with its repetitions struck. -/
theorem compact_mem {α : Type} [Inhabited α] [DecidableEq α] (d : Array α) : ∀ m, m ≤ d.size → ∀ z, z ∈ Lib.compactUpTo d m ↔ ∃ j, j < m ∧ d[j]! = z := by
  intro m
  induction m with
  | zero => intro _ z; simp [Lib.compactUpTo]
  | succ m ih =>
    intro hm z
    rw [Lib.compactUpTo_succ, List.mem_append, ih (by omega)]
    constructor
    · rintro (⟨j, hj, e⟩ | h)
      · exact ⟨j, by omega, e⟩
      · split at h
        · exact ⟨m, by omega, (List.mem_singleton.1 h).symm⟩
        · cases h
    · rintro ⟨j, hj, e⟩
      by_cases hjm : j = m
      · subst hjm
        by_cases hk : Lib.keeps d j = true
        · rw [if_pos hk]; exact .inr (by simp [e])
        · simp only [Lib.keeps, decide_eq_true_eq, not_or, Decidable.not_not] at hk
          exact .inl ⟨j - 1, by omega, by rw [← hk.2]; exact e⟩
      · exact .inl ⟨j, by omega, e⟩
/-- Of a list whose keys ascend weakly and tell its elements, what is left ascends strictly. -/
theorem compact_asc (zs : List Int) (k : Int → Nat) (hw : zs.Pairwise fun x y => k x ≤ k y) (hi : ∀ x ∈ zs, ∀ y ∈ zs, k x = k y → x = y) : Asc k (Lib.compact zs) := by
  have at_ : ∀ j, j < zs.length → zs.toArray[j]! = zs.getD j 0 := fun j hj => by simp [List.getD, hj]
  have mem_ : ∀ j, j < zs.length → zs.getD j 0 ∈ zs := fun j hj => by simp only [List.getD, List.getElem?_eq_getElem hj, Option.getD_some]; exact List.getElem_mem hj
  have le_ : ∀ i j, i < j → j < zs.length → k (zs.getD i 0) ≤ k (zs.getD j 0) := fun i j hij hj => by
    have := List.pairwise_iff_getElem.1 hw i j (by omega) hj hij
    simpa [List.getD, List.getElem?_eq_getElem hj, List.getElem?_eq_getElem (by omega : i < zs.length)] using this
  have key_ : ∀ m, m ≤ zs.length → Asc k (Lib.compactUpTo zs.toArray m) ∧ ∀ x ∈ Lib.compactUpTo zs.toArray m, ∃ j, j < m ∧ zs.getD j 0 = x := by
    intro m
    induction m with
    | zero => intro _; simp [Lib.compactUpTo, Asc]
    | succ m ih =>
      intro hm
      obtain ⟨h1, h2⟩ := ih (by omega)
      rw [Lib.compactUpTo_succ]
      by_cases hk : Lib.keeps zs.toArray m = true
      · rw [if_pos hk, at_ m (by omega)]
        refine ⟨List.pairwise_append.2 ⟨h1, by simp, fun a ha b hb => ?_⟩, fun x hx => ?_⟩
        · obtain ⟨j, hj, rfl⟩ := h2 a ha
          rw [List.mem_singleton.1 hb]
          simp only [Lib.keeps, decide_eq_true_eq] at hk
          rcases hk with h0 | hne
          · omega
          · rw [at_ m (by omega), at_ (m - 1) (by omega)] at hne
            have l1 : k (zs.getD j 0) ≤ k (zs.getD (m - 1) 0) := by
              by_cases e : j = m - 1
              · rw [e]; exact Nat.le_refl _
              · exact le_ j (m - 1) (by omega) (by omega)
            have l2 := le_ (m - 1) m (by omega) (by omega)
            have l3 : k (zs.getD (m - 1) 0) ≠ k (zs.getD m 0) := fun e => hne (hi _ (mem_ m (by omega)) _ (mem_ (m - 1) (by omega)) e.symm)
            omega
        · rcases List.mem_append.1 hx with hx | hx
          · obtain ⟨j, hj, e⟩ := h2 x hx
            exact ⟨j, by omega, e⟩
          · exact ⟨m, by omega, (List.mem_singleton.1 hx).symm⟩
      · rw [if_neg hk, List.append_nil]
        exact ⟨h1, fun x hx => by obtain ⟨j, hj, e⟩ := h2 x hx; exact ⟨j, by omega, e⟩⟩
  exact (key_ zs.length (Nat.le_refl _)).1
/-- What the library makes of a list of sets is what the model makes. -/
theorem sorted_same (xs zs : List Int) (hs : ∀ x ∈ xs, 0 ≤ x ∧ x ≤ 255) (hp : zs.Perm xs) (hw : zs.Pairwise fun x y => key x ≤ key y) : Lib.compact zs = sortTo xs xs.length := by
  have hz : ∀ x ∈ zs, 0 ≤ x ∧ x ≤ 255 := fun x hx => hs x (hp.mem_iff.1 hx)
  refine asc_unique key _ _ (compact_asc zs key hw fun x hx y hy e => key_inj x y (hz x hx) (hz y hy) e) (asc_sortTo xs hs xs.length (Nat.le_refl _)) fun x => ?_
  rw [sortTo_mem xs xs.length (Nat.le_refl _), List.take_length, ← hp.mem_iff]
  unfold Lib.compact
  rw [compact_mem zs.toArray zs.length (by simp)]
  constructor
  · rintro ⟨j, hj, rfl⟩
    have : zs.toArray[j]! = zs[j] := by simp [hj]
    rw [this]; exact List.getElem_mem hj
  · intro hx
    obtain ⟨j, hj, rfl⟩ := List.getElem_of_mem hx
    exact ⟨j, hj, by simp [hj]⟩
end Go.Proofs.Ythodmmckekgkdaa.Lectic
