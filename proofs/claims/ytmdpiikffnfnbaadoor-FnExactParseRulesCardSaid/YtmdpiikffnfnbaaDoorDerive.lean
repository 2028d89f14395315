/-
  Chapter 4's functions, one contract each, of the program and of the model: IntentOf, ExtentOf, ClosureOf, ObjectClosure, IsClosed.
-/
import Derived.Test.YtmdpiikffnfnbaaDoorCol
import Derived.Test.YtmdpiikffnfnbaaDoorDerPure
namespace Go.Proofs.YtmdpiikffnfnbaaDoor.Ctx
open Go Go.RowKit Mem Sets
set_option maxRecDepth 100000

theorem and_row (x : Nat) (y : Int) (hx : x < 256) (hy : 0 ≤ y ∧ y ≤ 255) : bits .and .i64 (x : Int) y = ((x &&& y.toNat : Nat) : Int) := by
  obtain ⟨n, rfl⟩ := Int.eq_ofNat_of_zero_le hy.1
  rw [and_nat x n hx (by omega)]; rfl
theorem row_and (y s : Int) (hy : 0 ≤ y ∧ y ≤ 255) (hs : 0 ≤ s ∧ s ≤ 255) : (bits .and .i64 y s == s) = decide (y.toNat &&& s.toNat = s.toNat) := by
  obtain ⟨n, rfl⟩ := Int.eq_ofNat_of_zero_le hy.1
  obtain ⟨m, rfl⟩ := Int.eq_ofNat_of_zero_le hs.1
  rw [and_nat n m (by omega) (by omega), Bool.eq_iff_iff]
  simp only [beq_iff_eq, decide_eq_true_eq, Int.toNat_natCast]
  omega
theorem and_lt (x y : Nat) (hx : x < 256) : x &&& y < 256 := Nat.lt_of_le_of_lt Nat.and_le_left hx

theorem keepq {w w' : World} {B : Nat} {p q : Addr} {x y : Value} (hb : Below B w w') (h : w.cell? p = some x ∧ w.cell? q = some y) (hp : p.block < B) (hq : q.block < B) : w'.cell? p = some x ∧ w'.cell? q = some y :=
  ⟨(hb.cell hp).trans h.1, (hb.cell hq).trans h.2⟩
end Go.Proofs.YtmdpiikffnfnbaaDoor.Ctx
