/-
  Chapter 11 of the model: the shortest list.
-/
import Derived.Test.YthodmmckekgkdaaInfS
namespace Go.Proofs.Ythodmmckekgkdaa.Infer
open Go Go.RowKit Mem Sets Ctx Tab Rule Stem Lectic
set_option maxRecDepth 100000

theorem areR_nn {n : Int} {l : List PInt} (h : areR n l = true) : 0 ≤ n ∧ n ≤ 6 ∧ l.length ≤ 40 := by
  unfold areR at h
  rw [Bool.and_eq_true, Bool.and_eq_true, decide_eq_true_eq, decide_eq_true_eq] at h
  omega
/-- The shortest list; none where the rules are no rules of n elements. -/
def shortRules (n : Int) (l : List PInt) : List PInt := if areR n l = true then shortOf n.toNat l else []
theorem short_nat {n : Nat} {l : List PInt} (hn : n ≤ 8) : asInts (shortN n l) = shortP n l := by
  unfold shortN asInts
  rw [List.map_map]
  refine (List.map_congr_left fun z hz => ?_).trans (List.map_id _)
  obtain ⟨x, -, rfl⟩ := (sortPs_mem hn).1 hz
  show ((((x : Nat) : Int).toNat : Nat) : Int) = id ((x : Nat) : Int)
  rw [Int.toNat_natCast]; rfl
theorem shortOf_plen (n : Nat) (l : List PInt) : (shortOf n l).length = (shortP n l).length := by rw [shortOf, List.length_map, shortN, List.length_map]
theorem short_get {n : Nat} {l : List PInt} (hn : n ≤ 8) {k : Nat} (hk : k < (shortP n l).length) : ∃ x : Nat, x < 2 ^ n ∧ (shortP n l).getD k 0 = (x : Int) ∧ (shortOf n l).take (k + 1) = (shortOf n l).take k ++ [((x : Int), ((clN n l x : Nat) : Int))] := by
  have hkN : k < (shortN n l).length := by rw [shortN, List.length_map]; exact hk
  have hkS : k < (shortOf n l).length := by rw [shortOf_plen]; exact hk
  have hm : (shortN n l)[k] ∈ shortN n l := List.getElem_mem hkN
  have h1 : (shortP n l).getD k 0 = (((shortN n l)[k] : Nat) : Int) := by
    rw [List.getD_eq_getElem?_getD, ← short_nat hn, List.getElem?_map, List.getElem?_eq_getElem hkN]; rfl
  have h2 : (shortOf n l)[k] = ruleOf (clN n l) (shortN n l)[k] := by simp [shortOf]
  refine ⟨(shortN n l)[k], (shortN_base hn).lt hm, h1, ?_⟩
  rw [List.take_add_one, List.getElem?_eq_getElem hkS, h2]; rfl
theorem shortP_len {n : Nat} {l : List PInt} (h : areR (n : Int) l = true) : (shortP n l).length ≤ 32 := by
  rw [← shortOf_plen]; exact shortOf_len h
end Go.Proofs.Ythodmmckekgkdaa.Infer
