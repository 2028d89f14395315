/-
  The concepts of a context by their intents (pure).
-/
import Derived.Test.YtdkgmjbhkifcbaaConc6
namespace Go.Proofs.Ytdkgmjbhkifcbaa.Tab
open Go Go.RowKit Mem Sets Ctx
set_option maxRecDepth 100000

/-- The objects that have all attributes of a set. -/
abbrev E (rs : List Int) (x : Nat) : Nat := extTo rs (x : Int) rs.length
theorem count64 : ∀ n, n ≤ 6 → (allSets.filter fun y => decide (y < 2 ^ n)).length ≤ 64 := by decide +kernel
theorem closed_len {a : Int} {rs : List Int} : (closedList a rs).length ≤ 64 := by
  unfold closedList
  split
  · rename_i hi
    have h6 : a.toNat ≤ 6 := by have := isCtx_parts hi; omega
    refine Nat.le_trans ?_ (count64 a.toNat h6)
    unfold closedFrom
    rw [← List.countP_eq_length_filter, ← List.countP_eq_length_filter]
    exact List.countP_mono_left fun x _ h => by simp at h; simp [h]
  · simp
theorem con_len {a : Int} {rs : List Int} : (concepts a rs).length = (closedList a rs).length := by rw [concepts_cf, List.length_map]
theorem concepts_64 (a : Int) (rs : List Int) : (concepts a rs).length ≤ 64 := by rw [con_len]; exact closed_len
theorem con_ctx {a : Int} {rs : List Int} {i : Nat} (h : i < (concepts a rs).length) : isCtx a rs = true := by
  cases hi : isCtx a rs with
  | true => rfl
  | false => simp [concepts, hi] at h
theorem con_mem {a : Int} {rs : List Int} (hc : isCtx a rs = true) {x : Nat} : x ∈ closedList a rs ↔ x < 2 ^ a.toNat ∧ clo a rs x = x := by
  have C := clo_ok hc
  rw [closedList, if_pos hc, mem_closedFrom C.n8]
  exact ⟨fun h => ⟨h.1, h.2.1⟩, fun h => ⟨h.1, h.2, closedFrom_first C h.1 h.2⟩⟩
/-- The intent of concept i. -/
def it (a : Int) (rs : List Int) (i : Nat) : Nat := (closedList a rs).getD i 0
theorem it_mem {a : Int} {rs : List Int} {i : Nat} (h : i < (concepts a rs).length) : it a rs i ∈ closedList a rs := by
  rw [con_len] at h
  rw [it, List.getD_eq_getElem?_getD, List.getElem?_eq_getElem h]
  exact List.getElem_mem h
theorem it_ok {a : Int} {rs : List Int} {i : Nat} (h : i < (concepts a rs).length) : it a rs i < 2 ^ a.toNat ∧ clo a rs (it a rs i) = it a rs i := (con_mem (con_ctx h)).1 (it_mem h)
theorem it_ex {a : Int} {rs : List Int} (hc : isCtx a rs = true) {x : Nat} (hx : x < 2 ^ a.toNat) (hk : clo a rs x = x) : ∃ i, i < (concepts a rs).length ∧ it a rs i = x := by
  obtain ⟨i, hi, he⟩ := List.getElem_of_mem ((con_mem hc).2 ⟨hx, hk⟩)
  refine ⟨i, by rw [con_len]; exact hi, ?_⟩
  rw [it, List.getD_eq_getElem?_getD, List.getElem?_eq_getElem hi]
  exact he
theorem con_get {a : Int} {rs : List Int} {i : Nat} (h : i < (concepts a rs).length) : (concepts a rs).getD i (0, 0) = (((E rs (it a rs i) : Nat) : Int), ((it a rs i : Nat) : Int)) := by
  have hc := con_ctx h
  have hk := it_ok h
  have h' := h
  rw [con_len] at h'
  have hp := isCtx_parts hc
  have he : cf a rs (it a rs i) = (((E rs (it a rs i) : Nat) : Int), ((it a rs i : Nat) : Int)) := by rw [cf, extent, if_pos ⟨hc, isSet_of_nat hp.1 (by omega) hk.1⟩]
  rw [← he, concepts_cf, List.getD_eq_getElem?_getD, List.getElem?_map, List.getElem?_eq_getElem h', it, List.getD_eq_getElem?_getD, List.getElem?_eq_getElem h']
  rfl
theorem E_256 {a : Int} {rs : List Int} (hc : isCtx a rs = true) (x : Nat) : E rs x < 256 := extTo_256 hc _
theorem E_anti' {rs : List Int} {x y : Nat} (h : Le y x) : Le (E rs x) (E rs y) := fun g hg => (memE' rs y g).2 ⟨((memE' rs x g).1 hg).1, fun j hj => ((memE' rs x g).1 hg).2 j (h j hj)⟩
theorem E_le {a : Int} {rs : List Int} {i j : Nat} (hi : i < (concepts a rs).length) (hj : j < (concepts a rs).length) : Le (E rs (it a rs i)) (E rs (it a rs j)) ↔ Le (it a rs j) (it a rs i) := by
  refine ⟨fun h => ?_, E_anti'⟩
  rw [← (it_ok hi).2, ← (it_ok hj).2]
  exact fun b hb => I_anti a rs _ _ h b hb
theorem in_eq {a : Int} {rs : List Int} {i : Nat} (h : i < (concepts a rs).length) : ((concepts a rs).getD i (0, 0)).2 = ((it a rs i : Nat) : Int) := by rw [con_get h]
end Go.Proofs.Ytdkgmjbhkifcbaa.Tab
