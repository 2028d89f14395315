/-
  A list of bytes cut at each place of one byte; the same as the standard library's own splitting.
-/
import Derived.Lib.Split
import Derived.Lib.SplitLaws
namespace Go.Proofs.Ythodmmckekgkdaa.Cuts
open Go
set_option maxRecDepth 100000

def cuts (c : UInt8) : List UInt8 → List (List UInt8)
  | [] => [[]]
  | b :: l => if b = c then [] :: cuts c l else match cuts c l with
    | [] => [[b]]
    | h :: t => (b :: h) :: t
theorem cuts_ne (c : UInt8) (l : List UInt8) : cuts c l ≠ [] := by
  cases l with
  | nil => simp [cuts]
  | cons b l =>
    unfold cuts
    split
    · simp
    · split <;> simp
theorem cuts_none (c : UInt8) (l : List UInt8) (h : c ∉ l) : cuts c l = [l] := by
  induction l with
  | nil => rfl
  | cons b l ih =>
    simp only [List.mem_cons, not_or] at h
    rw [cuts, if_neg (Ne.symm h.1), ih h.2]
theorem cuts_hit (c : UInt8) (p r : List UInt8) (h : c ∉ p) : cuts c (p ++ c :: r) = p :: cuts c r := by
  induction p with
  | nil => rw [List.nil_append, cuts, if_pos rfl]
  | cons b p ih =>
    simp only [List.mem_cons, not_or] at h
    rw [List.cons_append, cuts, if_neg (Ne.symm h.1), ih h.2]
theorem cuts_length (c : UInt8) (l : List UInt8) : (cuts c l).length ≤ l.length + 1 := by
  induction l with
  | nil => simp [cuts]
  | cons b l ih =>
    unfold cuts
    split
    · simp; omega
    · split
      · simp
      · rename_i h t he
        rw [he] at ih
        simp at ih ⊢
        omega
theorem splitK_cuts (c : UInt8) (l : List UInt8) : Lib.splitK [c] 0 (Lib.count l [c]) l = cuts c l := by
  induction l with
  | nil => rw [Lib.count_one]; rfl
  | cons b l ih =>
    by_cases h : b = c
    · subst h
      have hix : Lib.index (b :: l) [b] = 0 := by rw [Lib.index]; simp [List.isPrefixOf]
      rw [Lib.count_cons_eq, Nat.add_comm 1, Lib.splitK, hix, if_neg (by decide), cuts, if_pos rfl]
      simpa using ih
    · rw [Lib.count_cons_ne b c l h, cuts, if_neg h]
      have hp : ([c] : List UInt8).isPrefixOf (b :: l) = false := by simp [List.isPrefixOf, Ne.symm h]
      have hix : Lib.index (b :: l) [c] = if Lib.index l [c] == -1 then -1 else Lib.index l [c] + 1 := by rw [Lib.index, hp]; simp
      cases hk : Lib.count l [c] with
      | zero =>
        rw [hk] at ih
        rw [← ih]
        rfl
      | succ k =>
        rw [hk] at ih
        by_cases hm : Lib.index l [c] = -1
        · rw [Lib.count_miss hm] at hk; cases hk
        · have hge := Lib.index_ge l [c]
          obtain ⟨j, hj⟩ : ∃ j : Nat, Lib.index l [c] = j := ⟨(Lib.index l [c]).toNat, by omega⟩
          have hb1 : ((j : Int) == -1) = false := by simp
          have hb2 : (((j : Int) + 1) == -1) = false := by simp; omega
          have hb3 : ((j : Int) + 1).toNat = j + 1 := by omega
          rw [Lib.splitK, hj, hb1] at ih
          rw [Lib.splitK, hix, hj, hb1]
          simp only [Bool.false_eq_true, if_false, hb2, hb3, Int.toNat_natCast, Nat.add_zero, List.length_cons, List.length_nil, Nat.zero_add] at ih ⊢
          rw [← ih]
          first | rfl | done
theorem splitB_cuts (c : UInt8) (s : ByteArray) : (Lib.splitB ⟨#[c]⟩ 0 (Lib.countB s ⟨#[c]⟩) s).map Value.string = (cuts c s.data.toList).map fun l => .string ⟨l.toArray⟩ := by
  rw [← splitK_cuts, show ([c] : List UInt8) = (⟨#[c]⟩ : ByteArray).data.toList from rfl, ← Lib.splitB_data, List.map_map]
  rfl
theorem splitB_cuts_len (c : UInt8) (s : ByteArray) : Lib.countB s ⟨#[c]⟩ + 1 = (cuts c s.data.toList).length := by
  have h := congrArg List.length (splitB_cuts c s)
  rw [List.length_map, List.length_map, Lib.splitB_all ⟨#[c]⟩ (Nat.le_refl 1) 0 _ s rfl] at h
  exact h
end Go.Proofs.Ythodmmckekgkdaa.Cuts
