/-
  Reading a context's text, as functions on lists of bytes: what the program does and what the model does come to the same.
-/
import Derived.Test.YtkdnjebjbadloaaGreatDoorCtxText
import Derived.Test.YtkdnjebjbadloaaGreatDoorRowsp
import Derived.Test.YtkdnjebjbadloaaGreatDoorNumPure
import Derived.Test.YtkdnjebjbadloaaGreatDoorNumParse
import Derived.Test.YtkdnjebjbadloaaGreatDoorCuts
import Derived.Shelf.Strings.Shaped
namespace Go.Proofs.YtkdnjebjbadloaaGreatDoor.Pctx
open Go Mem Sets Elems Text Joins Strs Ctx Sets2 CtxText Cuts Parse Rowsp
set_option maxRecDepth 100000

theorem join_cuts (c : UInt8) (l : List UInt8) : Lib.join (cuts c l) [c] = l := by
  induction l with
  | nil => rfl
  | cons b l ih =>
    have hne := cuts_ne c l
    unfold cuts
    cases hk : cuts c l with
    | nil => exact absurd hk hne
    | cons h t =>
      rw [hk, Lib.join_cons] at ih
      split
      · rename_i hb
        subst hb
        rw [Lib.join_cons, List.nil_append]
        simp only [Lib.joinTail, List.map_cons, List.flatten_cons] at ih ⊢
        rw [List.append_assoc, ih]
        rfl
      · rw [Lib.join_cons, List.cons_append, ih]
theorem mem_cuts (c x : UInt8) (l : List UInt8) (hx : x ∈ l) (hn : x ≠ c) : ∃ p ∈ cuts c l, x ∈ p := by
  induction l with
  | nil => cases hx
  | cons b l ih =>
    unfold cuts
    split
    · rename_i h
      subst h
      rcases List.mem_cons.1 hx with rfl | hx
      · exact absurd rfl hn
      · obtain ⟨p, h1, h2⟩ := ih hx
        exact ⟨p, List.mem_cons_of_mem _ h1, h2⟩
    · cases hc : cuts c l with
      | nil => exact absurd hc (cuts_ne c l)
      | cons p q =>
        rcases List.mem_cons.1 hx with rfl | hx
        · exact ⟨x :: p, by simp, by simp⟩
        · obtain ⟨y, h1, h2⟩ := ih hx
          rw [hc] at h1
          rcases List.mem_cons.1 h1 with rfl | h1
          · exact ⟨b :: y, by simp, by simp [h2]⟩
          · exact ⟨y, by simp [h1], h2⟩
theorem split_at {c : UInt8} {l : List UInt8} (h : c ∈ l) : ∃ p r, l = p ++ c :: r ∧ c ∉ p := by
  induction l with
  | nil => cases h
  | cons b l ih =>
    by_cases hb : b = c
    · subst hb; exact ⟨[], l, rfl, by simp⟩
    · rcases List.mem_cons.1 h with rfl | h
      · exact absurd rfl hb
      · obtain ⟨p, r, rfl, hp⟩ := ih h
        exact ⟨b :: p, r, rfl, by simp [hp, Ne.symm hb]⟩

theorem rowsOf_text {r : List UInt8} {rs : List Int} (h : rowsOf r = some rs) (hs : allSets rs = true) : setsText rs = r := by
  unfold rowsOf at h
  split at h
  · cases h; subst r; rfl
  · split at h
    · rename_i h1 h2
      cases h
      unfold setsText
      rw [if_pos hs, if_neg (by unfold vals; simpa using cuts_ne 44 r), texts_vals h2, join_cuts]
    · cases h
theorem rowsOf_space {r : List UInt8} (h : (32 : UInt8) ∈ r) : rowsOf r = none := by
  unfold rowsOf
  rw [if_neg (by rintro rfl; revert h; decide), if_neg]
  intro hg
  rcases good_mem hg (mem_cuts 44 32 r h (by decide)) with h | h
  · exact absurd h (by decide)
  · exact absurd h (by decide)
theorem allSets_isCtx {a : Int} {rs : List Int} (h : isCtx a rs = true) : allSets rs = true := by
  rw [isCtx, Bool.and_eq_true, List.all_eq_true] at h
  rw [allSets, List.all_eq_true]
  intro x hx
  have := isSet_le (h.2 x hx)
  simp [isSet]
  omega
/-- What the program makes of the two sides of the first space. -/
noncomputable def progOf (p r : List UInt8) : Option (Int × List Int) :=
  (NumParse.must p 0 999999).bind fun n => (rowsOf r).bind fun rs => if isCtx n rs = true then some (n, rs) else none
noncomputable def prog (l : List UInt8) : Option (Int × List Int) := if (Lib.cut l [32]).2.2 = true then progOf (Lib.cut l [32]).1 (Lib.cut l [32]).2.1 else none
/-- What the model makes of the two words. -/
def modOf (l p r : List UInt8) : Option (Int × List Int) :=
  (rowsOf r).bind fun rs => (NumPure.rd p 12).bind fun n => if ctxText n rs = l then some (n, rs) else none
def mod (l : List UInt8) : Option (Int × List Int) := match cuts 32 l with
  | [p, r] => modOf l p r
  | _ => none
theorem index_at (c : UInt8) (p r : List UInt8) (h : c ∉ p) : Lib.index (p ++ c :: r) [c] = p.length := by
  induction p with
  | nil => rw [List.nil_append, Lib.index]; simp [List.isPrefixOf]
  | cons b p ih =>
    simp only [List.mem_cons, not_or] at h
    have hp : ([c] : List UInt8).isPrefixOf (b :: (p ++ c :: r)) = false := by simp [List.isPrefixOf, h.1]
    have h2 : (((p.length : Int)) == -1) = false := by simp
    rw [List.cons_append, Lib.index, hp, ih h.2, h2]
    simp
theorem index_no (c : UInt8) (l : List UInt8) (h : c ∉ l) : Lib.index l [c] = -1 := by
  induction l with
  | nil => rfl
  | cons b l ih =>
    simp only [List.mem_cons, not_or] at h
    have hp : ([c] : List UInt8).isPrefixOf (b :: l) = false := by simp [List.isPrefixOf, h.1]
    rw [Lib.index, hp, ih h.2]
    simp
theorem cut_some {p r : List UInt8} (h : (32 : UInt8) ∉ p) : Lib.cut (p ++ 32 :: r) [32] = (p, r, true) := by
  unfold Lib.cut
  rw [index_at 32 p r h, if_pos (by omega)]
  simp
theorem cut_none {l : List UInt8} (h : (32 : UInt8) ∉ l) : (Lib.cut l [32]).2.2 = false := by
  unfold Lib.cut
  rw [index_no 32 l h]
  rfl
theorem same (l : List UInt8) : prog l = mod l := by
  by_cases h : (32 : UInt8) ∈ l
  · obtain ⟨p, r, rfl, hp⟩ := split_at h
    unfold prog mod
    rw [cut_some hp, cuts_hit 32 p r hp, if_pos rfl]
    by_cases hr : (32 : UInt8) ∈ r
    · obtain ⟨p2, r2, rfl, hp2⟩ := split_at hr
      rw [cuts_hit 32 p2 r2 hp2]
      have : progOf p (p2 ++ 32 :: r2) = none := by
        unfold progOf
        rw [rowsOf_space hr]
        cases NumParse.must p 0 999999 <;> rfl
      simp only [this]
      cases hc : cuts 32 r2 with
      | nil => exact absurd hc (cuts_ne 32 r2)
      | cons a b => rfl
    · rw [cuts_none 32 r hr]
      simp only [progOf, modOf]
      cases hrs : rowsOf r with
      | none => cases NumParse.must p 0 999999 <;> rfl
      | some rs =>
        simp only [Option.bind_some]
        have key : ∀ n : Int, (NumParse.must p 0 999999 = some n ∧ isCtx n rs = true) ↔ (NumPure.rd p 12 = some n ∧ ctxText n rs = p ++ 32 :: r) := by
          intro n
          rw [NumParse.must_iff p 0 999999 (by omega) (by omega) n, NumPure.rd_iff p 12 (by omega) n]
          constructor
          · rintro ⟨⟨h1, h2, h3⟩, h4⟩
            refine ⟨⟨h1, by omega⟩, ?_⟩
            unfold ctxText
            rw [if_pos h4, rowsOf_text hrs (allSets_isCtx h4), h1]
            simp
          · rintro ⟨⟨h1, h2⟩, h4⟩
            have hc : isCtx n rs = true := by
              cases hb : isCtx n rs with
              | true => rfl
              | false => rw [ctxText, hb] at h4; simp at h4
            have := isCtx_parts hc
            exact ⟨⟨h1, by omega, by omega⟩, hc⟩
        have k1 : ∀ x : Option (Int × List Int), (x = ((NumParse.must p 0 999999).bind fun n => if isCtx n rs = true then some (n, rs) else none)) → ∀ n, x = some (n, rs) ↔ (NumParse.must p 0 999999 = some n ∧ isCtx n rs = true) := by
          rintro x rfl n
          cases NumParse.must p 0 999999 with
          | none => simp
          | some m =>
            simp only [Option.bind_some, Option.some.injEq]
            by_cases hb : isCtx m rs = true
            · rw [if_pos hb]; simp; rintro rfl; exact hb
            · rw [if_neg hb]; simp; rintro rfl; simpa using hb
        have k2 : ∀ x : Option (Int × List Int), (x = ((NumPure.rd p 12).bind fun n => if ctxText n rs = p ++ 32 :: r then some (n, rs) else none)) → ∀ n, x = some (n, rs) ↔ (NumPure.rd p 12 = some n ∧ ctxText n rs = p ++ 32 :: r) := by
          rintro x rfl n
          cases NumPure.rd p 12 with
          | none => simp
          | some m =>
            simp only [Option.bind_some, Option.some.injEq]
            by_cases hb : ctxText m rs = p ++ 32 :: r
            · rw [if_pos hb]; simp; rintro rfl; exact hb
            · rw [if_neg hb]; simp; rintro rfl; exact hb
        generalize hx : ((NumParse.must p 0 999999).bind fun n => if isCtx n rs = true then some (n, rs) else none) = x
        generalize hy : ((NumPure.rd p 12).bind fun n => if ctxText n rs = p ++ 32 :: r then some (n, rs) else none) = y
        have e1 := k1 x hx.symm
        have e2 := k2 y hy.symm
        have hx2 : x = none ∨ ∃ n, x = some (n, rs) := by
          subst hx
          cases NumParse.must p 0 999999 with
          | none => left; rfl
          | some m =>
            simp only [Option.bind_some]
            by_cases hb : isCtx m rs = true
            · rw [if_pos hb]; exact .inr ⟨m, rfl⟩
            · rw [if_neg hb]; exact .inl rfl
        have hy2 : y = none ∨ ∃ n, y = some (n, rs) := by
          subst hy
          cases NumPure.rd p 12 with
          | none => left; rfl
          | some m =>
            simp only [Option.bind_some]
            by_cases hb : ctxText m rs = p ++ 32 :: r
            · rw [if_pos hb]; exact .inr ⟨m, rfl⟩
            · rw [if_neg hb]; exact .inl rfl
        have e3 : ∀ n, x = some (n, rs) ↔ y = some (n, rs) := fun n => (e1 n).trans ((key n).trans (e2 n).symm)
        rcases hx2 with h1 | ⟨n, h1⟩
        · rcases hy2 with h2 | ⟨m, h2⟩
          · rw [h1, h2]
          · exact absurd ((e3 m).2 h2) (by rw [h1]; simp)
        · rw [h1, (e3 n).1 h1]
  · unfold prog mod
    rw [cut_none h, cuts_none 32 l h]
    simp
end Go.Proofs.YtkdnjebjbadloaaGreatDoor.Pctx
