/-
  SetText of the program and of the model: the letters of a set's elements.
-/
import Derived.Test.YthodmmckekgkdaaElems
import Derived.Laws.BytesArg
import Derived.WalkSpells
import Derived.BigRegion
namespace Go.Proofs.Ythodmmckekgkdaa.Text
open Go Go.RowKit Mem Sets Elems
set_option maxRecDepth 100000

def chars (xs : List Int) : List UInt8 := xs.map fun x => UInt8.ofNat (97 + x.toNat)
def setText (s : Int) : List UInt8 := if isSet 8 s then (if s = 0 then [45] else chars (elems s)) else []
theorem elems_bound (s : Int) (j : Nat) (hj : j < (elems s).length) : 0 ≤ (elems s).getD j 0 ∧ (elems s).getD j 0 ≤ 7 := by
  have hm : (elems s).getD j 0 ∈ elems s := by
    rw [List.getD, List.getElem?_eq_getElem hj]; exact List.getElem_mem hj
  simp only [elems, elemsTo, List.mem_map, List.mem_filter, List.mem_range] at hm
  obtain ⟨e, ⟨he, _⟩, hx⟩ := hm
  simp only [elems, elemsTo] at hx ⊢
  omega
theorem elems_ne (s : Int) (hs : 0 ≤ s ∧ s ≤ 255) (h0 : s ≠ 0) : elems s ≠ [] := by
  obtain ⟨m, rfl⟩ := Int.eq_ofNat_of_zero_le hs.1
  have key : ∀ m : Nat, m < 256 → m ≠ 0 → (elems (m : Int)).isEmpty = false := by decide +kernel
  have := key m (by omega) (by omega)
  intro hc
  rw [hc] at this
  cases this
theorem chars_step (xs : List Int) (k : Nat) (hk : k < xs.length) : chars (xs.take (k + 1)) = chars (xs.take k) ++ [UInt8.ofNat (97 + (xs.getD k 0).toNat)] := by
  simp only [chars, List.take_add_one, List.getD, List.getElem?_eq_getElem hk, Option.toList_some, List.map_append, List.map_cons, List.map_nil, Option.getD_some]
theorem cases8 {n : Int} (h : 0 ≤ n ∧ n ≤ 7) : n = 0 ∨ n = 1 ∨ n = 2 ∨ n = 3 ∨ n = 4 ∨ n = 5 ∨ n = 6 ∨ n = 7 := by omega

theorem push_letter (l : List UInt8) (B : ByteArray) (c : UInt8) (h : B = ⟨#[c]⟩) : Value.string (⟨l.toArray⟩ ++ B) = Value.string ⟨(l ++ [c]).toArray⟩ := by
  subst h
  have : (⟨l.toArray⟩ : ByteArray) ++ ⟨#[c]⟩ = ⟨(l ++ [c]).toArray⟩ := by apply ByteArray.ext; simp [ByteArray.data_append]
  rw [this]

abbrev bytes (xs : List Int) : List Value := (xs.map fun x => 97 + x).map (Value.int .u8)
theorem bytes_step (xs : List Int) (k : Nat) (hk : k < xs.length) : bytes (xs.take (k + 1)) = bytes (xs.take k) ++ [.int .u8 (97 + xs.getD k 0)] := by
  simp only [bytes, List.take_add_one, List.getD, List.getElem?_eq_getElem hk, Option.toList_some, List.map_append, List.map_cons, List.map_nil, Option.getD_some]
theorem infoB : (Try.prog.info? 5).map (fun i => (i.zero, i.size, i.bytes)) = some (some (.int .u8 0), 1, 1) := by kernel_rfl
theorem str_chars (xs : List Int) (h : ∀ j, j < xs.length → 0 ≤ xs.getD j 0 ∧ xs.getD j 0 ≤ 7) : strOfNums (xs.map fun x => 97 + x) = ⟨(chars xs).toArray⟩ := by
  apply ByteArray.ext
  apply Array.toList_inj.1
  rw [strOfNums_data]
  simp only [chars, List.map_map]
  apply List.map_congr_left
  intro x hx
  obtain ⟨j, hj, rfl⟩ := List.getElem_of_mem hx
  have := h j hj
  simp only [List.getD, List.getElem?_eq_getElem hj, Option.getD_some] at this
  simp only [Function.comp]
  congr 1
  omega

end Go.Proofs.Ythodmmckekgkdaa.Text
