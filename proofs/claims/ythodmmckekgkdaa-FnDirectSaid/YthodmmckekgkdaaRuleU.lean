/-
  Chapter 9 of the model: texts of rules.
-/
import Derived.Test.YthodmmckekgkdaaRuleS
import Derived.Test.YthodmmckekgkdaaRuleT
import Derived.BigQuiet
namespace Go.Proofs.Ythodmmckekgkdaa.Rule
open Go Go.RowKit Mem Sets Ctx Tab Elems Text Joins Strs Cuts Parse
set_option maxRecDepth 100000

theorem join_text62 (l r : List UInt8) (B : ByteArray) (h : B = ⟨#[62]⟩) : Value.string (⟨l.toArray⟩ ++ B ++ ⟨r.toArray⟩) = Value.string ⟨(l ++ 62 :: r).toArray⟩ := by
  subst h
  rw [show l ++ 62 :: r = l ++ [62] ++ r by simp]
  congr 1
theorem texts_step (l : List PInt) (k : Nat) (hk : k < l.length) : strs (ruleTexts (l.take (k + 1))) = strs (ruleTexts (l.take k)) ++ [.string ⟨(ruleText (rl l k)).toArray⟩] := by
  rw [List.take_add_one, List.getElem?_eq_getElem hk, rl, List.getD_eq_getElem?_getD, List.getElem?_eq_getElem hk]
  simp only [ruleTexts, strs, List.map_append, Option.toList_some, List.map_cons, List.map_nil, Option.getD_some]
end Go.Proofs.Ythodmmckekgkdaa.Rule
