/-
  Texts of rules (pure).
-/
import Derived.Test.YthodmmckekgkdaaRuleP
import Derived.Test.YthodmmckekgkdaaParseS
import Derived.Test.YthodmmckekgkdaaJoinS
import Derived.Test.YthodmmckekgkdaaCuts
namespace Go.Proofs.Ythodmmckekgkdaa.Rule
open Go Go.RowKit Mem Sets Ctx Tab Elems Text Joins Strs Cuts Parse
set_option maxRecDepth 100000

theorem cuts_join {c : UInt8} : ∀ {ps : List (List UInt8)}, ps ≠ [] → (∀ p ∈ ps, c ∉ p) → cuts c (Lib.join ps [c]) = ps
  | [], h, _ => absurd rfl h
  | [p], _, h => by
    have : Lib.join [p] [c] = p := by simp [Lib.join]
    rw [this, cuts_none c p (h p (by simp))]
  | p :: q :: r, _, h => by
    have : Lib.join (p :: q :: r) [c] = p ++ c :: Lib.join (q :: r) [c] := by simp [Lib.join]
    rw [this, cuts_hit c _ _ (h p (by simp)), cuts_join (by simp) (fun x hx => h x (by simp [List.mem_cons] at hx ⊢; exact .inr hx))]
theorem mem_join {c x : UInt8} : ∀ {ps : List (List UInt8)}, x ∈ Lib.join ps [c] → x = c ∨ ∃ p ∈ ps, x ∈ p
  | [], h => by simp [Lib.join] at h
  | [p], h => by
    have e : Lib.join [p] [c] = p := by simp [Lib.join]
    rw [e] at h
    exact .inr ⟨p, by simp, h⟩
  | p :: q :: r, h => by
    have e : Lib.join (p :: q :: r) [c] = p ++ c :: Lib.join (q :: r) [c] := by simp [Lib.join]
    rw [e] at h
    rcases List.mem_append.1 h with h | h
    · exact .inr ⟨p, by simp, h⟩
    · rcases List.mem_cons.1 h with h | h
      · exact .inl h
      · rcases mem_join h with h | ⟨y, h1, h2⟩
        · exact .inl h
        · exact .inr ⟨y, by simp [List.mem_cons] at h1 ⊢; exact .inr h1, h2⟩
theorem parse_setText (s : Int) (hs : 0 ≤ s ∧ s ≤ 255) : parse (setText s) = some s := by
  obtain ⟨m, rfl⟩ := Int.eq_ofNat_of_zero_le hs.1
  have key : ∀ m : Nat, m < 256 → parse (setText (m : Int)) = some (m : Int) := by decide +kernel
  exact key m (by omega)
theorem parse_text {p : List UInt8} {s : Int} (h : parse p = some s) : setText s = p := by
  unfold parse at h
  split at h
  · cases h; assumption
  · cases h
theorem part_le {c : UInt8} {l : List UInt8} {k : Nat} (h : l.length ≤ 1048576) : ((cuts c l).getD k []).length ≤ 1048576 := by
  have hm : ∀ (l : List UInt8), ∀ p ∈ cuts c l, p.length ≤ l.length := by
    intro l
    induction l with
    | nil => intro p hp; simp [cuts] at hp; subst hp; simp
    | cons b l ih =>
      intro p hp
      unfold cuts at hp
      split at hp
      · rcases List.mem_cons.1 hp with rfl | hp
        · simp
        · have := ih p hp; simp; omega
      · cases hc : cuts c l with
        | nil => exact absurd hc (cuts_ne c l)
        | cons q r =>
          rw [hc] at hp ih
          rcases List.mem_cons.1 hp with rfl | hp
          · have := ih q (by simp); simp; omega
          · have := ih p (by simp [hp]); simp; omega
  by_cases hk : k < (cuts c l).length
  · rw [List.getD, List.getElem?_eq_getElem hk, Option.getD_some]
    have := hm l _ (List.getElem_mem hk)
    omega
  · rw [List.getD, List.getElem?_eq_none (by omega)]; simp

theorem isSet8_bounds {x : Int} (h : isSet 8 x = true) : 0 ≤ x ∧ x ≤ 255 := by
  have h8 := isSet8 x
  rw [h] at h8
  simpa using h8.symm
def ruleText (p : PInt) : List UInt8 := if isR 8 p = true then setText p.1 ++ 62 :: setText p.2 else []
theorem ruleText_le (p : PInt) : (ruleText p).length ≤ 17 := by
  unfold ruleText
  split
  · have h1 := setText_le p.1
    have h2 := setText_le p.2
    simp only [List.length_append, List.length_cons]
    omega
  · simp
theorem ruleText_nil (p : PInt) : ruleText p = [] ↔ isR 8 p = false := by
  unfold ruleText
  cases h : isR 8 p with
  | true => simp
  | false => simp
theorem ruleText_mem {p : PInt} {x : UInt8} (h : x ∈ ruleText p) : x = 62 ∨ x = 45 ∨ (97 ≤ x.toNat ∧ x.toNat ≤ 104) := by
  unfold ruleText at h
  split at h
  · rcases List.mem_append.1 h with h | h
    · exact .inr (text_letters _ x h)
    · rcases List.mem_cons.1 h with h | h
      · exact .inl h
      · exact .inr (text_letters _ x h)
  · cases h
def parseRule (t : List UInt8) : Option PInt := match cuts 62 t with
  | [a, b] => (parse a).bind fun x => (parse b).map fun y => (x, y)
  | _ => none
theorem parseRule_two {t a b : List UInt8} (h : cuts 62 t = [a, b]) : parseRule t = (parse a).bind fun x => (parse b).map fun y => (x, y) := by unfold parseRule; rw [h]
theorem parseRule_no {t : List UInt8} (h : (cuts 62 t).length ≠ 2) : parseRule t = none := by
  unfold parseRule
  split
  · rename_i a b he; rw [he] at h; exact absurd rfl h
  · rfl
theorem text_no62 (s : Int) : (62 : UInt8) ∉ setText s := fun h => by
  rcases text_letters s 62 h with h | h
  · exact absurd h (by decide)
  · exact absurd h (by decide)
theorem parse_ruleText {p : PInt} (h : isR 8 p = true) : parseRule (ruleText p) = some p := by
  have h2 := h
  unfold isR at h2
  rw [Bool.and_eq_true] at h2
  unfold parseRule
  rw [ruleText, if_pos h, cuts_hit 62 _ _ (text_no62 _), cuts_none 62 _ (text_no62 _)]
  simp only [parse_setText _ (isSet8_bounds h2.1), parse_setText _ (isSet8_bounds h2.2), Option.bind_some, Option.map_some]
def ruleTexts (l : List PInt) : List (List UInt8) := l.map ruleText
def rulesText (l : List PInt) : List UInt8 := if l = [] then [110, 111, 110, 101] else if allIn 8 l = true then joined (ruleTexts l) [32] else []
def goodR (ps : List (List UInt8)) : Bool := ps.all fun p => (parseRule p).isSome
def valsR (ps : List (List UInt8)) : List PInt := ps.map fun p => (parseRule p).getD (0, 0)
def parseRules (t : List UInt8) : Option (List PInt) := if t = [110, 111, 110, 101] then some [] else if goodR (cuts 32 t) = true ∧ (cuts 32 t).length ≤ 40 then some (valsR (cuts 32 t)) else none
theorem join_texts_le (l : List PInt) : (Lib.join (ruleTexts l) [32]).length ≤ 18 * l.length := by
  induction l with
  | nil => simp [ruleTexts, Lib.join]
  | cons p r ih =>
    have hp := ruleText_le p
    cases r with
    | nil =>
      have : Lib.join (ruleTexts [p]) [32] = ruleText p := by simp [ruleTexts, Lib.join]
      rw [this]; simp; omega
    | cons q r =>
      have e : Lib.join (ruleTexts (p :: q :: r)) [32] = ruleText p ++ 32 :: Lib.join (ruleTexts (q :: r)) [32] := by simp [ruleTexts, Lib.join]
      rw [e]
      simp only [List.length_append, List.length_cons] at ih ⊢
      omega
/-- A text of rules is read again. -/
theorem parse_rulesText {l : List PInt} (h : allIn 8 l = true) (h40 : l.length ≤ 40) : parseRules (rulesText l) = some l := by
  unfold rulesText
  by_cases h0 : l = []
  · subst h0; rfl
  · rw [if_neg h0, if_pos h]
    have hj : joined (ruleTexts l) [32] = Lib.join (ruleTexts l) [32] := by
      unfold joined
      rw [if_neg]
      have := join_texts_le l
      omega
    have hne : ruleTexts l ≠ [] := by simpa [ruleTexts] using h0
    have hcut : cuts 32 (Lib.join (ruleTexts l) [32]) = ruleTexts l := cuts_join hne (fun p hp => by
      simp only [ruleTexts, List.mem_map] at hp
      obtain ⟨s, _, rfl⟩ := hp
      intro hm
      rcases ruleText_mem hm with h | h | h
      · exact absurd h (by decide)
      · exact absurd h (by decide)
      · exact absurd h (by decide))
    have hx : ∀ p ∈ l, parseRule (ruleText p) = some p := fun p hp => parse_ruleText (List.all_eq_true.1 h p hp)
    rw [hj, parseRules, if_neg, hcut, if_pos]
    · congr 1
      simp only [valsR, ruleTexts, List.map_map]
      conv => rhs; rw [← List.map_id l]
      apply List.map_congr_left
      intro p hp
      simp [hx p hp]
    · refine ⟨?_, by simpa [ruleTexts] using h40⟩
      simp only [goodR, ruleTexts, List.all_map, List.all_eq_true]
      intro p hp
      simp [hx p hp]
    · intro he
      have h110 : (110 : UInt8) ∈ Lib.join (ruleTexts l) [32] := by rw [he]; decide
      rcases mem_join h110 with h1 | ⟨p, hp, h2⟩
      · exact absurd h1 (by decide)
      · simp only [ruleTexts, List.mem_map] at hp
        obtain ⟨s, _, rfl⟩ := hp
        rcases ruleText_mem h2 with h | h | h
        · exact absurd h (by decide)
        · exact absurd h (by decide)
        · exact absurd h (by decide)
theorem goodR_take {ps : List (List UInt8)} {k : Nat} (hk : k < ps.length) (h : goodR (ps.take k) = true) {s : PInt} (hs : parseRule (ps.getD k []) = some s) : goodR (ps.take (k + 1)) = true := by
  unfold goodR at *
  rw [List.take_add_one, List.getElem?_eq_getElem hk, List.all_append, h]
  simp only [List.getD, List.getElem?_eq_getElem hk, Option.getD_some] at hs
  simp [hs]
theorem valsR_take {ps : List (List UInt8)} {k : Nat} (hk : k < ps.length) {s : PInt} (hs : parseRule (ps.getD k []) = some s) : valsR (ps.take (k + 1)) = valsR (ps.take k) ++ [s] := by
  unfold valsR
  rw [List.take_add_one, List.getElem?_eq_getElem hk, List.map_append]
  simp only [List.getD, List.getElem?_eq_getElem hk, Option.getD_some] at hs
  simp [hs]
theorem badR_at {ps : List (List UInt8)} {k : Nat} (hk : k < ps.length) (hs : parseRule (ps.getD k []) = none) : goodR ps = false := by
  unfold goodR
  simp only [List.getD, List.getElem?_eq_getElem hk, Option.getD_some] at hs
  rw [List.all_eq_false]
  exact ⟨ps[k], List.getElem_mem hk, by simp [hs]⟩
end Go.Proofs.Ythodmmckekgkdaa.Rule
