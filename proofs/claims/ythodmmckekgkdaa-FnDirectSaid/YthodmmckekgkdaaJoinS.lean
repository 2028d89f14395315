/-
  Join of the program and of the model: a row of strings put together with a separator, and nothing if that is longer than the limit.
-/
import Derived.Test.YthodmmckekgkdaaStrs
import Derived.Lib.AppendStr
import Derived.Lib.Join
import Derived.Laws.BytesArg
namespace Go.Proofs.Ythodmmckekgkdaa.Joins
open Go Go.RowKit Mem Strs
set_option maxRecDepth 100000

abbrev bs (l : List UInt8) : List Value := l.map fun b => Value.int .u8 b.toNat
theorem strCells_eq (l : List UInt8) : Lib.strCells ⟨l.toArray⟩ = bs l := by simp [Lib.strCells, bs]
theorem infoB : (Try.prog.info? 5).map (fun i => (i.zero, i.size, i.bytes)) = some (some (.int .u8 0), 1, 1) := by kernel_rfl
/-- What is returned. -/
def joined (xs : List (List UInt8)) (sep : List UInt8) : List UInt8 := if (Lib.join xs sep).length > 1048576 then [] else Lib.join xs sep
theorem join_first (xs : List (List UInt8)) (sep : List UInt8) (h : 0 < xs.length) : Lib.join (xs.take 1) sep = xs.getD 0 [] := by
  cases xs with
  | nil => cases h
  | cons x r => simp [Lib.join_one]
theorem join_next (xs : List (List UInt8)) (sep : List UInt8) (k : Nat) (h0 : 0 < k) (h : k < xs.length) : Lib.join (xs.take (k + 1)) sep = Lib.join (xs.take k) sep ++ sep ++ xs.getD k [] := by
  cases xs with
  | nil => cases h
  | cons x r =>
    obtain ⟨j, rfl⟩ : ∃ j, k = j + 1 := ⟨k - 1, by omega⟩
    simp only [List.length_cons] at h
    rw [List.take_succ_cons, List.take_succ_cons, Lib.join_cons, Lib.join_cons, Lib.joinTail_take_succ sep r j (r.getD j []) (by simp [List.getD, List.getElem?_eq_getElem (by omega : j < r.length)])]
    simp [List.append_assoc]
theorem join_mono (xs : List (List UInt8)) (sep : List UInt8) (k : Nat) : (Lib.join (xs.take k) sep).length ≤ (Lib.join xs sep).length := by
  cases xs with
  | nil => simp
  | cons x r =>
    cases k with
    | zero => simp [Lib.join_nil]
    | succ j =>
      rw [List.take_succ_cons, Lib.join_cons, Lib.join_cons, List.length_append, List.length_append]
      have := Lib.joinTail_take_le sep r j
      omega
theorem joined_long (xs : List (List UInt8)) (sep : List UInt8) (k : Nat) (h : 1048576 < (Lib.join (xs.take k) sep).length) : joined xs sep = [] := by
  unfold joined
  rw [if_pos (Nat.lt_of_lt_of_le h (join_mono xs sep k))]
theorem str_bs (l : List UInt8) : strOfNums (l.map fun b => (b.toNat : Int)) = ⟨l.toArray⟩ := by
  apply ByteArray.ext
  apply Array.toList_inj.1
  rw [strOfNums_data, List.map_map]
  show _ = l
  conv => rhs; rw [← List.map_id l]
  apply List.map_congr_left
  intro b _
  simp

/-- The string of an owned row of bytes. -/
theorem conv_own {w : World} {base n : Nat} {v : Value} {l : List UInt8} (h : w.ownsRow base 5 1 v n (bs l)) :
    (convert 22 9 v).run Try.prog w = .ok (.string ⟨l.toArray⟩) w := by
  have hl : n = l.length := by have := h.1; simp [bs] at this; omega
  rcases h.2 with ⟨rfl, h0⟩ | ⟨g, cap, cur, rfl, _⟩
  · have : l = [] := List.length_eq_zero_iff.1 (by omega)
    subst this
    exact run_convert_bytes_nil (P := Try.prog) w 22 5 Try.underlying22 Try.underlying5 0 0 9 Try.underlying9
  · have := run_convert_bytes_arg (P := Try.prog) w 22 5 Try.underlying22 Try.underlying5 g 0 n cap (l.map fun b => (b.toNat : Int)) (by simp [hl]) (fun i hi => by
      rw [Nat.zero_add, h.cellAt i (by omega)]
      simp [bs, List.getD, List.getElem?_eq_getElem (by omega : i < l.length)]) 9 Try.underlying9
    rw [this, str_bs]

theorem own_form {w : World} {base n : Nat} {e : TypeId} {v : Value} {cs : List Value} (h : w.ownsRow base e 1 v n cs) : ∃ a c, v = .slice a n c := by
  rcases h.2 with ⟨rfl, h0⟩ | ⟨g, cap, cur, rfl, _⟩
  · exact ⟨none, 0, by rw [h0]⟩
  · exact ⟨_, _, rfl⟩

end Go.Proofs.Ythodmmckekgkdaa.Joins
