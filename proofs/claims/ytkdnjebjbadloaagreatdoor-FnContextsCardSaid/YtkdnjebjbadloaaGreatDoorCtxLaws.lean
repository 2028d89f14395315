/-
  The dual of the dual, the complement of the complement, and the text of a context read again: pure.
-/
import Derived.Test.YtkdnjebjbadloaaGreatDoorComp
import Derived.Test.YtkdnjebjbadloaaGreatDoorPctxPure
namespace Go.Proofs.YtkdnjebjbadloaaGreatDoor.CtxLaws
open Go Mem Sets Elems Text Joins Strs Ctx Sets2 CtxText Cuts Parse Rowsp Pctx
set_option maxRecDepth 100000

theorem colTo_bit (rs : List Int) (m : Int) (k g : Nat) : (colTo rs m k).testBit g = (decide (g < k) && bit (rs.getD g 0) m) := by
  induction k with
  | zero => simp [colTo]
  | succ k ih =>
    unfold colTo
    by_cases hb : bit (rs.getD k 0) m = true
    · rw [if_pos hb, Nat.testBit_or, ih, Nat.testBit_two_pow]
      by_cases hg : k = g
      · subst hg; simp at hb ⊢; exact hb
      · have : decide (g < k + 1) = decide (g < k) := by rw [decide_eq_decide]; omega
        simp [hg, this]
    · rw [if_neg hb, ih]
      by_cases hg : k = g
      · subst hg; simp at hb ⊢; exact hb
      · have : decide (g < k + 1) = decide (g < k) := by rw [decide_eq_decide]; omega
        rw [this]
theorem dualTo_get (rs : List Int) (k m : Nat) (hm : m < k) : (dualTo rs k).getD m 0 = ((colTo rs m rs.length : Nat) : Int) := by
  simp [dualTo, List.getD, hm]
theorem isSet_nat {a x : Nat} (ha : a ≤ 8) (hx : x < 2 ^ a) : isSet (a : Int) (x : Int) = true := by
  simp only [isSet, decide_eq_true_eq]
  refine ⟨⟨by omega, by omega⟩, by omega, ?_⟩
  have e : (2 : Int) ^ ((a : Int)).toNat = ((2 ^ a : Nat) : Int) := by simp
  rw [e]; omega
theorem isSet_nat_lt {a : Nat} {x : Int} (h : isSet (a : Int) x = true) : ∃ n : Nat, x = n ∧ n < 2 ^ a := by
  simp only [isSet, decide_eq_true_eq] at h
  obtain ⟨⟨h0, h1⟩, h2, h3⟩ := h
  obtain ⟨n, rfl⟩ := Int.eq_ofNat_of_zero_le h2
  have e : (2 : Int) ^ ((a : Int)).toNat = ((2 ^ a : Nat) : Int) := by simp
  rw [e] at h3
  exact ⟨n, rfl, by omega⟩
theorem dual_isCtx {a : Int} {rs : List Int} (h : isCtx a rs = true) (h6 : rs.length ≤ 6) : isCtx (rs.length : Int) (dualTo rs a.toNat) = true := by
  obtain ⟨h0, h1, h8, hrow⟩ := isCtx_parts h
  simp only [isCtx, Bool.and_eq_true, decide_eq_true_eq, dualTo_length]
  refine ⟨⟨⟨by omega, by omega⟩, by omega⟩, ?_⟩
  rw [List.all_eq_true]
  intro x hx
  simp only [dualTo, List.mem_map, List.mem_range] at hx
  obtain ⟨m, _, rfl⟩ := hx
  exact isSet_nat (by omega) (colTo_lt rs m rs.length)
theorem dual_dual {a : Int} {rs : List Int} {n : Int} {cs : List Int} (h : dual a rs = some (n, cs)) : dual n cs = some (a, rs) := by
  unfold dual at h
  split at h
  · rename_i hc
    cases h
    obtain ⟨h0, h1, h8, hrow⟩ := isCtx_parts hc.1
    obtain ⟨b, rfl⟩ := Int.eq_ofNat_of_zero_le h0
    unfold dual
    rw [if_pos ⟨dual_isCtx hc.1 hc.2, by rw [dualTo_length]; omega⟩, dualTo_length]
    congr 2
    apply List.ext_getElem
    · rw [dualTo_length]; simp
    · intro g hg1 hg2
      obtain ⟨x, hx, hlt⟩ := isSet_nat_lt (hrow g hg2)
      have e1 : (dualTo (dualTo rs (b : Int).toNat) ((rs.length : Int)).toNat)[g] = (dualTo (dualTo rs (b : Int).toNat) ((rs.length : Int)).toNat).getD g 0 := by
        rw [List.getD, List.getElem?_eq_getElem hg1, Option.getD_some]
      have e2 : rs[g] = rs.getD g 0 := by rw [List.getD, List.getElem?_eq_getElem hg2, Option.getD_some]
      rw [e1, e2, hx, dualTo_get _ _ g (by simpa using hg2), dualTo_length]
      congr 1
      apply Nat.eq_of_testBit_eq
      intro m
      rw [colTo_bit]
      by_cases hm : m < b
      · rw [dualTo_get rs _ m (by simpa using hm)]
        simp only [bit, Int.toNat_natCast]
        rw [colTo_bit]
        simp only [bit, Int.toNat_natCast]
        rw [hx]
        simp [hm, hg2]
      · have : x.testBit m = false := Nat.testBit_lt_two_pow (Nat.lt_of_lt_of_le hlt (Nat.pow_le_pow_right (by omega) (by omega)))
        rw [this]
        simp [hm]
  · cases h
theorem comp_comp {a : Int} {rs : List Int} {n : Int} {cs : List Int} (h : comp a rs = some (n, cs)) : comp n cs = some (a, rs) := by
  unfold comp at h
  split at h
  · rename_i hc
    cases h
    have hc2 := hc
    obtain ⟨h0, h1, h8, hrow⟩ := isCtx_parts hc
    obtain ⟨b, rfl⟩ := Int.eq_ofNat_of_zero_le h0
    have hf : full (b : Int) = ((2 ^ b - 1 : Nat) : Int) := by
      rw [full, if_pos ⟨by omega, by omega⟩]
      have e : (2 : Int) ^ ((b : Int)).toNat = ((2 ^ b : Nat) : Int) := by simp
      have := Nat.one_le_two_pow (n := b)
      rw [e]; omega
    have hcc : isCtx (b : Int) (compTo (b : Int) rs rs.length) = true := by
      simp only [isCtx, Bool.and_eq_true, decide_eq_true_eq] at hc ⊢
      refine ⟨⟨hc.1.1, by rw [compTo_length _ _ _ (Nat.le_refl _)]; exact hc.1.2⟩, ?_⟩
      rw [List.all_eq_true]
      intro x hx
      simp only [compTo, List.take_length, List.mem_map] at hx
      obtain ⟨r, hr, rfl⟩ := hx
      obtain ⟨y, rfl, hy⟩ := isSet_nat_lt (List.all_eq_true.1 hc.2 r hr)
      rw [hf]
      have e : ((2 ^ b - 1 : Nat) : Int) - (y : Int) = ((2 ^ b - 1 - y : Nat) : Int) := by omega
      rw [e]
      exact isSet_nat (by omega) (by omega)
    unfold comp
    rw [if_pos hcc]
    congr 2
    simp only [compTo, List.take_length, List.length_map]
    conv => rhs; rw [← List.map_id rs]
    rw [List.take_of_length_le (by simp)]
    rw [List.map_map]
    apply List.map_congr_left
    intro r _
    show full (b : Int) - (full (b : Int) - r) = r
    omega
  · cases h
theorem parse_setText (s : Int) (hs : 0 ≤ s ∧ s ≤ 255) : parse (setText s) = some s := by
  obtain ⟨m, rfl⟩ := Int.eq_ofNat_of_zero_le hs.1
  have key : ∀ m : Nat, m < 256 → parse (setText (m : Int)) = some (m : Int) := by decide +kernel
  exact key m (by omega)
theorem cuts_join {c : UInt8} : ∀ {ps : List (List UInt8)}, ps ≠ [] → (∀ p ∈ ps, c ∉ p) → cuts c (Lib.join ps [c]) = ps
  | [], h, _ => absurd rfl h
  | [p], _, h => by
    have : Lib.join [p] [c] = p := by simp [Lib.join]
    rw [this, cuts_none c p (h p (by simp))]
  | p :: q :: r, _, h => by
    have : Lib.join (p :: q :: r) [c] = p ++ c :: Lib.join (q :: r) [c] := by simp [Lib.join]
    rw [this, cuts_hit c _ _ (h p (by simp)), cuts_join (by simp) (fun x hx => h x (by simp [List.mem_cons] at hx ⊢; exact .inr hx))]
theorem setText_no44 (s : Int) : (44 : UInt8) ∉ setText s := fun h => by
  rcases text_letters s 44 h with h | h
  · exact absurd h (by decide)
  · exact absurd h (by decide)
theorem mem_join {c x : UInt8} : ∀ {ps : List (List UInt8)}, x ∈ Lib.join ps [c] → x = c ∨ ∃ p ∈ ps, x ∈ p
  | [], h => by simp [Lib.join] at h
  | [p], h => by
    have e : Lib.join [p] [c] = p := by simp [Lib.join]
    rw [e] at h
    exact .inr ⟨p, by simp, h⟩
  | p :: q :: r, h => by
    have e : Lib.join (p :: q :: r) [c] = p ++ c :: Lib.join (q :: r) [c] := by simp [Lib.join]
    rw [e] at h
    rcases List.mem_append.1 h with h | h
    · exact .inr ⟨p, by simp, h⟩
    · rcases List.mem_cons.1 h with h | h
      · exact .inl h
      · rcases mem_join h with h | ⟨y, h1, h2⟩
        · exact .inl h
        · exact .inr ⟨y, by simp [List.mem_cons] at h1 ⊢; exact .inr h1, h2⟩
theorem rowsOf_setsText {rs : List Int} (h : allSets rs = true) : rowsOf (setsText rs) = some rs := by
  unfold setsText
  rw [if_pos h]
  by_cases h0 : rs = []
  · subst h0; rfl
  · rw [if_neg h0]
    have hne : texts rs ≠ [] := by simpa [texts] using h0
    have hcut : cuts 44 (Lib.join (texts rs) [44]) = texts rs := cuts_join hne (fun p hp => by
      simp only [texts, List.mem_map] at hp
      obtain ⟨s, _, rfl⟩ := hp
      exact setText_no44 s)
    have hx : ∀ s ∈ rs, parse (setText s) = some s := fun s hs => by
      have := List.all_eq_true.1 h s hs
      simp [isSet] at this
      exact parse_setText s (by omega)
    unfold rowsOf
    rw [if_neg, hcut, if_pos]
    · congr 1
      simp only [vals, texts, List.map_map]
      conv => rhs; rw [← List.map_id rs]
      apply List.map_congr_left
      intro s hs
      simp [hx s hs]
    · simp only [good, texts, List.all_map, List.all_eq_true]
      intro s hs
      simp [hx s hs]
    · intro he
      have h110 : (110 : UInt8) ∈ Lib.join (texts rs) [44] := by rw [he]; decide
      rcases mem_join h110 with h1 | ⟨p, hp, h2⟩
      · exact absurd h1 (by decide)
      · simp only [texts, List.mem_map] at hp
        obtain ⟨s, _, rfl⟩ := hp
        rcases text_letters s 110 h2 with h3 | h3
        · exact absurd h3 (by decide)
        · exact absurd h3 (by decide)
theorem itoa_digit : ∀ a : Nat, a < 7 → (32 : UInt8) ∉ Lib.itoa a := by decide +kernel
/-- A context's text is read again; the text of what is no context is not. -/
theorem prog_text (a : Int) (rs : List Int) : prog (ctxText a rs) = if isCtx a rs = true then some (a, rs) else none := by
  by_cases h : isCtx a rs = true
  · rw [if_pos h]
    obtain ⟨h0, h1, -, -⟩ := isCtx_parts h
    obtain ⟨b, rfl⟩ := Int.eq_ofNat_of_zero_le h0
    have e : ctxText (b : Int) rs = Lib.itoa b ++ 32 :: setsText rs := by simp [ctxText, h]
    rw [prog, e, cut_some (itoa_digit b (by omega)), if_pos rfl, progOf, rowsOf_setsText (allSets_isCtx h), (NumParse.must_iff _ 0 999999 (by omega) (by omega) (b : Int)).2 ⟨rfl, by omega, by omega⟩]
    simp [h]
  · rw [if_neg h, ctxText, if_neg h]
    rfl
end Go.Proofs.YtkdnjebjbadloaaGreatDoor.CtxLaws
