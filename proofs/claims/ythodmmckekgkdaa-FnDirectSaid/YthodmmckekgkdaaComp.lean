/-
  ComplementContext of the program and of the model.
-/
import Derived.Test.YthodmmckekgkdaaDual
import Derived.Deep.RegionHeld3
namespace Go.Proofs.Ythodmmckekgkdaa.Ctx
open Go Go.RowKit Mem Sets
set_option maxRecDepth 100000
attribute [local go_sem ↓] Go.wp_at_zero Go.wp_at_succ

theorem andNot_full (a r : Int) (h : isSet a r = true) : bits .andNot .i64 (full a) r = full a - r := by
  simp only [isSet, decide_eq_true_eq] at h
  obtain ⟨⟨h0, h1⟩, h2, h3⟩ := h
  obtain ⟨n, rfl⟩ := Int.eq_ofNat_of_zero_le h0
  obtain ⟨m, rfl⟩ := Int.eq_ofNat_of_zero_le h2
  have key : ∀ n : Nat, n < 9 → ∀ m : Nat, m < 256 → (m : Int) ≤ 2 ^ ((n : Int)).toNat - 1 → bits .andNot .i64 (full n) m = full n - m := by decide +kernel
  have hm : (m : Int) ≤ 255 := (isSet_le (a := n) (s := m) (by simp only [isSet, decide_eq_true_eq]; exact ⟨⟨h0, h1⟩, h2, h3⟩)).2
  exact key n (by omega) m (by omega) h3
theorem full_bounds (a : Int) : 0 ≤ full a ∧ full a ≤ 255 := by
  unfold full
  split
  · rename_i h
    rcases cases9 h with rfl | rfl | rfl | rfl | rfl | rfl | rfl | rfl | rfl <;> decide
  · omega
def compTo (a : Int) (rs : List Int) (k : Nat) : List Int := (rs.take k).map fun r => full a - r
theorem compTo_step (a : Int) (rs : List Int) (k : Nat) (hk : k < rs.length) : compTo a rs (k + 1) = compTo a rs k ++ [full a - rs.getD k 0] := by
  simp only [compTo, List.take_add_one, List.getD, List.getElem?_eq_getElem hk, Option.toList_some, List.map_append, List.map_cons, List.map_nil, Option.getD_some]
theorem compTo_length (a : Int) (rs : List Int) (k : Nat) (hk : k ≤ rs.length) : (compTo a rs k).length = k := by simp [compTo]; omega
def comp (a : Int) (rs : List Int) : Option (Int × List Int) := if isCtx a rs = true then some (a, compTo a rs rs.length) else none

theorem keepc {w w' : World} {B : Nat} {p q r : Addr} {x y z : Value} (hb : Below B w w') (h : w.cell? p = some x ∧ w.cell? q = some y ∧ w.cell? r = some z) (hp : p.block < B) (hq : q.block < B) (hr : r.block < B) :
    w'.cell? p = some x ∧ w'.cell? q = some y ∧ w'.cell? r = some z :=
  ⟨(hb.cell hp).trans h.1, (hb.cell hq).trans h.2.1, (hb.cell hr).trans h.2.2⟩
end Go.Proofs.Ythodmmckekgkdaa.Ctx
