/-
  Draws of sets, lists of sets and bent texts: each call returns a value of its kind, turns its cursor, and nothing else that was there.
-/
import Derived.Test.YthodmmckekgkdaaDraw
import Derived.Test.YthodmmckekgkdaaText
import Derived.Test.YthodmmckekgkdaaStrs
namespace Go.Proofs.Ythodmmckekgkdaa.Draw
open Go Go.RowKit Mem Sets Elems Text Strs
set_option maxRecDepth 100000

theorem Cur.le {w : World} {B p : Nat} (h : Cur w B p) : B ≤ p := by
  obtain ⟨v, xs, i, x, e1, e2, e3, e4, e5, e6⟩ := h
  exact e6
theorem Cur.alloc {w : World} {B p : Nat} (h : Cur w B p) (o : Obj) : Cur (w.alloc o) B p := h.below ((Below.refl _ _).alloc (Nat.le_refl _) o) h.lt
theorem apartAlloc (p : Nat) (w : World) (o : Obj) : Apart p (p + 1) w (w.alloc o) := Apart.of_below ((Below.refl w.heap.size w).alloc (Nat.le_refl _) o) (Nat.le_refl _)

theorem Apart.thenBelow2 {lo hi B : Nat} {a b c : World} (h : Apart lo hi a b) (k : Below B b c) (hB : b.heap.size ≤ B) : Apart lo hi a c :=
  ⟨k.os.trans h.os, k.tape.trans h.tape, k.output.trans h.output, Nat.le_trans h.size k.size, fun j hj ho => (k.block j (by have := h.size; omega)).trans (h.block j hj ho)⟩
theorem Apart.thenGrown2 {lo hi : Nat} {a b c : World} {row : Option Nat} (h : Apart lo hi a b) (k : b.grownBy c row) (hr : ∀ q, row = some q → a.heap.size ≤ q) : Apart lo hi a c :=
  ⟨k.os.trans h.os, k.tape.trans h.tape, k.output.trans h.output, Nat.le_trans h.size k.size, fun j hj ho => (k.block j (by have := h.size; omega) (fun e => by have := hr j e.symm; omega)).trans (h.block j hj ho)⟩
theorem cur_grown {w w' : World} {B p : Nat} {row : Option Nat} (h : Cur w B p) (k : w.grownBy w' row) (h1 : ∀ q, row = some q → q ≠ p) (h2 : ∀ q, row = some q → B ≤ q) : Cur w' B p := by
  have hl := h.lt
  obtain ⟨v, xs, i, x, e1, e2, e3, e4, e5, e6⟩ := h
  refine ⟨v, xs, i, x, (k.block p hl (fun e => h1 p e.symm rfl)).trans e1, ?_, e3, e4, e5, e6⟩
  obtain ⟨m1, a, cap, m2, m3⟩ := e2
  refine ⟨m1, a, cap, m2, fun hn => ?_⟩
  obtain ⟨b, off, ha, hlt, hc⟩ := m3 hn
  refine ⟨b, off, ha, hlt, fun j hj => ?_⟩
  rw [← hc j hj]
  have hb := k.block b (by omega) (fun e => by have := h2 b e.symm; omega)
  unfold World.cell?
  simp only [hb]

theorem pickLit (B p : Nat) (xs : List Int) (n : Nat) (hx : xs.length = n) (h1 : 1 ≤ n) (hn : n ≤ 1000) (cs : Array Value) (hcs : cs = (ints xs).toArray) (w : World) (hc : Cur w B p) :
    Calls Try.prog 96 #[.pointer (some ⟨p, 0, none⟩), .slice (some ⟨w.heap.size, 0, none⟩) n n] (w.alloc (.cells cs 3)) fun e w' => ∃ j : Nat, e = .returned (.int .i64 (xs.getD j 0)) ∧ j < n ∧ Cur w' B p ∧ Apart p (p + 1) w w' := by
  subst hcs
  have hl : (ints xs).length = n := by simp [ints, hx]
  have ho : Own 3 (w.alloc (.cells (ints xs).toArray 3)) w.heap.size (w.alloc (.cells (ints xs).toArray 3)).heap.size (.slice (some ⟨w.heap.size, 0, none⟩) n n) (ints xs) :=
    Own.made (World.ownsRow_lit w (e := 3) (size := 1) (base := w.heap.size) (ints xs).toArray n (Nat.le_refl _) (by unfold maxLen; omega) (by simp [hl]))
  have hlt := hc.lt
  refine (l1PickInt B p _ xs w.heap.size _ _ (hc.alloc _) ho hlt (by omega) (by omega)).mono ?_
  rintro e w' ⟨j, rfl, hj, c, a⟩
  exact ⟨j, rfl, by omega, c, (apartAlloc p w _).trans a⟩
theorem l2Bent (B p : Nat) (w : World) (hc : Cur w B p) :
    Calls Try.prog 97 #[.pointer (some ⟨p, 0, none⟩)] w fun e w' => ∃ x : Int, e = .returned (.int .i64 x) ∧ Cur w' B p ∧ Apart p (p + 1) w w' := by
  go_enter Try.func97, Try.ntmps97
  go_wp2_with fail
  refine (l1Once B p 8 _ hc (by omega) (by omega)).mono ?_
  rintro e w1 ⟨b, rfl, c1, a1⟩
  cases b with
  | true =>
    go_wp2_with fail
    refine (pickLit B p [-1, 256, 1000, -9223372036854775808] 4 rfl (by omega) (by omega) _ rfl w1 c1).mono ?_
    rintro e w2 ⟨j, rfl, hj, c2, a2⟩
    generalize ([-1, 256, 1000, -9223372036854775808] : List Int).getD j 0 = x
    go_wp2_with fail
    go_ret
    exact ⟨x, rfl, c2, a1.trans a2⟩
  | false =>
    go_wp2_with fail
    refine (l1Below B p 256 _ c1 (by omega) (by omega)).mono ?_
    rintro e w2 ⟨x, rfl, hx, c2, a2⟩
    go_wp2_with fail
    go_ret
    exact ⟨x, rfl, c2, a1.trans a2⟩

/-- What a draw over a code returns. -/
theorem newCur (v : Value) (xs : List Int) (B : Nat) (w : World) (hr : Reads w B v (u8s xs)) (hB : B ≤ w.heap.size) (hx : ∀ j, j < xs.length → 0 ≤ xs.getD j 0 ∧ xs.getD j 0 ≤ 255) (hn : xs.length ≤ 1048576) :
    Calls Try.prog 54 #[v] w fun e w' => ∃ p, e = .returned (.pointer (some ⟨p, 0, none⟩)) ∧ w.heap.size ≤ p ∧ Cur w' B p ∧ w.heap.size + 1 ≤ w'.heap.size ∧ Below w.heap.size w w' :=
  (l1New v xs B w hr hB hx hn).mono fun e w' h => ⟨_, h.1, Nat.le_refl _, h.2.1, by have := h.2.2.1; omega, h.2.2.2⟩
end Go.Proofs.Ythodmmckekgkdaa.Draw
