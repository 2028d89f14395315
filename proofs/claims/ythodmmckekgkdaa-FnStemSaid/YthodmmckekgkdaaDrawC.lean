/-
  Draws: a context, a context with a number.
-/
import Derived.Test.YthodmmckekgkdaaDraw3
import Derived.Deep.DeepCutAuto
namespace Go.Proofs.Ythodmmckekgkdaa.Draw
open Go Go.RowKit Mem Sets Elems Text Strs Ctx
set_option maxRecDepth 100000
attribute [local go_sem ↓] Go.wp_at_zero Go.wp_at_succ

/-- A world behind W in which nothing of W has turned but the cursor at p. -/
structure PastC (W : World) (B p : Nat) where
  w : World
  a : Apart p (p + 1) W w
  c : Cur w B p
theorem PastC.cell {W : World} {B p : Nat} {q : Addr} {v : Value} (h : W.cell? q = some v) (hb : q.block < W.heap.size) (hp : q.block ≠ p) (z : PastC W B p) : z.w.cell? q = some v := (World.cell?_of_block (w := W) (z.a.block q.block hb (by omega))).trans h
theorem PastC.free {W : World} {B p : Nat} {q : Addr} {b : Bool} (h : W.frozen? q = b) (hb : q.block < W.heap.size) (hp : q.block ≠ p) (z : PastC W B p) : z.w.frozen? q = b := (World.frozen?_of_block (w := W) (z.a.block q.block hb (by omega))).trans h
theorem PastC.size {W : World} {B p : Nat} (z : PastC W B p) : W.heap.size ≤ z.w.heap.size := z.a.size
def PastC.start {W : World} {B p : Nat} (c : Cur W B p) : PastC W B p := ⟨W, Apart.refl _ _ _, c⟩
def PastC.drew {W : World} {B p : Nat} (z : PastC W B p) : PastC W B p := ⟨z.w.drew, z.a.drew, z.c.below (Below.refl z.w.heap.size z.w).drew z.c.lt⟩
theorem PastC.below {W w' : World} {B p : Nat} (z : PastC W B p) (b : Below z.w.heap.size z.w w') : ∃ y : PastC W B p, w' = y.w := ⟨⟨w', z.a.trans (Apart.of_below b (Nat.le_refl _)), z.c.below b z.c.lt⟩, rfl⟩
theorem PastC.turn {W w' : World} {B p : Nat} (z : PastC W B p) (a : Apart p (p + 1) z.w w') (c : Cur w' B p) : ∃ y : PastC W B p, w' = y.w := ⟨⟨w', z.a.trans a, c⟩, rfl⟩
theorem l1BelowC {W : World} {B p : Nat} (n : Nat) (z : PastC W B p) (h1 : 1 ≤ n) (hn : n ≤ 1000000000) :
    Calls Try.prog 95 #[.pointer (some ⟨p, 0, none⟩), .int .i64 n] z.w fun e w' => ∃ x : Nat, e = .returned (.int .i64 x) ∧ x < n ∧ ∃ y : PastC W B p, w' = y.w :=
  (l1Below B p n z.w z.c h1 hn).mono fun _ _ ⟨x, he, hx, c, a⟩ => ⟨x, he, hx, z.turn a c⟩
theorem curSet2 {w : World} {B p : Nat} (h : Cur w B p) {q : Addr} (hq : q.block < p) (hB : B ≤ q.block) (u : Value) : Cur (w.setCell q u) B p := by
  obtain ⟨v, xs, i, h, h1, h2, h3⟩ := h
  exact ⟨v, xs, i, h, (Below.heap_setCell _ _ _ _ (by omega)).trans h1, h2.below ((Below.refl B w).setCell hB u) (Nat.le_refl _), h3⟩
theorem own_setB {e : TypeId} {w : World} {lo hi : Nat} {v : Value} {cs : List Value} (h : Mem.Own e w lo hi v cs) {q : Addr} (hq : q.block < lo ∨ hi ≤ q.block) (u : Value) : Mem.Own e (w.setCell q u) lo hi v cs := own_set h hq u
end Go.Proofs.Ythodmmckekgkdaa.Draw
