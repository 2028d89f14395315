/-
  Draws of contexts: each call returns a context of its kind, turns its cursor, and nothing else that was there.
-/
import Derived.Test.YthodmmckekgkdaaDraw2
import Derived.Test.YthodmmckekgkdaaDual
import Derived.Test.YthodmmckekgkdaaDerPure
namespace Go.Proofs.Ythodmmckekgkdaa.Draw
open Go Go.RowKit Mem Sets Elems Text Strs Ctx
set_option maxRecDepth 100000
attribute [local go_sem ↓] Go.wp_at_zero Go.wp_at_succ

theorem boxA {w w' : World} {g lo hi : Nat} {t : TypeId} {cs : Array Value} (h : BoxAt w g t cs) (ha : Apart lo hi w w') (hg : g < lo ∨ hi ≤ g) : BoxAt w' g t cs := (ha.block g h.lt hg).trans h
theorem apartSet {lo hi : Nat} {a b : World} (h : Apart lo hi a b) {q : Addr} (hq : a.heap.size ≤ q.block) (u : Value) : Apart lo hi a (b.setCell q u) :=
  ⟨h.os, h.tape, h.output, by simpa using h.size, fun j hj ho => (Below.heap_setCell b q u j (by omega)).trans (h.block j hj ho)⟩

/-- A context in the making: its box at block g, the box of the result at block r, its rows above lo in a block of their own, the cursor. -/
structure Mk (w0 w : World) (B p g r lo : Nat) (a : Int) (v : Value) (rs : List Int) (cs : Array Value) : Prop where
  box : BoxAt w g 26 #[.int .i64 a, v]
  res : BoxAt w r 26 cs
  own : w.ownsRow lo 3 1 v rs.length (ints rs)
  cur : Cur w B p
  apart : Apart p (p + 1) w0 w
  hp : p < w0.heap.size
  hg : w0.heap.size ≤ g
  hr : w0.heap.size ≤ r
  hgr : g ≠ r
  hl : w0.heap.size ≤ lo
  hs : lo ≤ w.heap.size
  hne : ∀ q, v.ownBlock = some q → q ≠ g ∧ q ≠ r
theorem Mk.drew {w0 w : World} {B p g r lo : Nat} {a : Int} {v : Value} {rs : List Int} {cs : Array Value} (h : Mk w0 w B p g r lo a v rs cs) : Mk w0 w.drew B p g r lo a v rs cs :=
  ⟨h.box, h.res, h.own, h.cur, h.apart.drew, h.hp, h.hg, h.hr, h.hgr, h.hl, h.hs, h.hne⟩
theorem Mk.turn {w0 w w2 : World} {B p g r lo : Nat} {a : Int} {v : Value} {rs : List Int} {cs : Array Value} (h : Mk w0 w B p g r lo a v rs cs) (a2 : Apart p (p + 1) w w2) (c2 : Cur w2 B p) : Mk w0 w2 B p g r lo a v rs cs :=
  ⟨boxA h.box a2 (.inr (by have := h.hp; have := h.hg; omega)), boxA h.res a2 (.inr (by have := h.hp; have := h.hr; omega)),
   ownsRow_same h.own fun q hq => a2.block q (h.own.lt q hq).2 (.inr (by have := (h.own.lt q hq).1; have := h.hp; have := h.hl; omega)),
   c2, h.apart.trans a2, h.hp, h.hg, h.hr, h.hgr, h.hl, Nat.le_trans h.hs a2.size, h.hne⟩
theorem Mk.alloc {w0 w : World} {B p g r lo : Nat} {a : Int} {v : Value} {rs : List Int} {cs : Array Value} (h : Mk w0 w B p g r lo a v rs cs) (o : Obj) : Mk w0 (w.alloc o) B p g r lo a v rs cs :=
  h.turn (apartAlloc p w o) (h.cur.alloc o)
theorem ownSet {w : World} {lo n : Nat} {v : Value} {cs : List Value} {e : TypeId} (h : w.ownsRow lo e 1 v n cs) {q : Addr} (hq : ∀ k, v.ownBlock = some k → k ≠ q.block) (u : Value) : (w.setCell q u).ownsRow lo e 1 v n cs :=
  ownsRow_same h fun k hk => Below.heap_setCell w q u k (hq k hk)
theorem curSet {w : World} {B p : Nat} (h : Cur w B p) {q : Addr} (hq : p < q.block) (u : Value) : Cur (w.setCell q u) B p :=
  h.apart (apart_setCell (lo := q.block) (hi := q.block + 1) (Apart.refl _ _ _) (q := q) (Nat.le_refl _) (Nat.lt_succ_self _) u) hq
/-- Behind an append, ahead of its store, and behind its store. -/
theorem Mk.grown {w0 w w3 : World} {B p g r lo : Nat} {a : Int} {v : Value} {rs : List Int} {cs : Array Value} {x : Int} {n b c H : Nat} (h : Mk w0 w B p g r lo a v rs cs) (hg : w.grownBy w3 v.ownBlock) (hn : n = rs.length + 1) (ho : w3.ownsRow lo 3 1 (.slice (some ⟨b, 0, none⟩) n c) n (ints rs ++ [.int .i64 x])) (hat : v.ownBlock = some b ∨ b = H) (hH : H = w.heap.size) :
    BoxAt w3 g 26 #[.int .i64 a, v] ∧ Mk w0 (w3.setCell ⟨g, 1, none⟩ (.slice (some ⟨b, 0, none⟩) n c)) B p g r lo a (.slice (some ⟨b, 0, none⟩) n c) (rs ++ [x]) cs := by
  have hgg := h.hg
  have hp := h.hp
  have ha := h.apart.size
  have hl := h.hl
  have hbl := h.box.lt
  have hrl := h.res.lt
  have e1 := h.box.grown hg (fun e => (h.hne g e.symm).1 rfl)
  have e2 := h.res.grown hg (fun e => (h.hne r e.symm).2 rfl)
  have hc := cur_grown h.cur hg (fun q hq e => by have := (h.own.lt q hq).1; omega) (fun q hq => by have := (h.own.lt q hq).1; have := h.cur.le; omega)
  have hap := Apart.thenGrown2 h.apart hg (fun q hq => by have := (h.own.lt q hq).1; omega)
  have hb : b ≠ g ∧ b ≠ r := by
    rcases hat with hat | hat
    · exact h.hne b hat
    · subst hat; subst hH; exact ⟨by omega, by omega⟩
  refine ⟨e1, e1.set 1 _, e2.far h.hgr.symm _, ?_, curSet hc (q := ⟨g, 1, none⟩) (by show p < g; omega) _, apartSet hap (q := ⟨g, 1, none⟩) hgg _, h.hp, h.hg, h.hr, h.hgr, h.hl, by have := hg.size; have := h.hs; simp; omega, fun q hq => by cases hq; exact hb⟩
  have := ownSet ho (q := ⟨g, 1, none⟩) (fun k hk => by cases hk; exact hb.1) (.slice (some ⟨b, 0, none⟩) n c)
  rw [hn] at this ⊢
  simpa [ints] using this
/-- A store into the number of attributes. -/
theorem Mk.setA {w0 w : World} {B p g r lo : Nat} {a : Int} {v : Value} {rs : List Int} {cs : Array Value} (h : Mk w0 w B p g r lo a v rs cs) (x : Int) : Mk w0 (w.setCell ⟨g, 0, none⟩ (.int .i64 x)) B p g r lo x v rs cs := by
  have hgg := h.hg
  have hp := h.hp
  exact ⟨h.box.set 0 (.int .i64 x), h.res.far h.hgr.symm _, ownSet h.own (q := ⟨g, 0, none⟩) (fun k hk => (h.hne k hk).1) _, curSet h.cur (q := ⟨g, 0, none⟩) (by show p < g; omega) _, apartSet h.apart (q := ⟨g, 0, none⟩) hgg _, h.hp, h.hg, h.hr, h.hgr, h.hl, by have := h.hs; simpa using this, h.hne⟩
/-- The end: the context is stored into the result's box. -/
theorem Mk.done {w0 w : World} {B p g r lo : Nat} {a : Int} {v : Value} {rs : List Int} {cs : Array Value} (h : Mk w0 w B p g r lo a v rs cs) (x y : Value) :
    Own 3 ((w.setCell ⟨r, 0, none⟩ x).setCell ⟨r, 1, none⟩ y) w0.heap.size ((w.setCell ⟨r, 0, none⟩ x).setCell ⟨r, 1, none⟩ y).heap.size v (ints rs) ∧ Cur ((w.setCell ⟨r, 0, none⟩ x).setCell ⟨r, 1, none⟩ y) B p ∧ Apart p (p + 1) w0 ((w.setCell ⟨r, 0, none⟩ x).setCell ⟨r, 1, none⟩ y) := by
  have hrr := h.hr
  have hp := h.hp
  refine ⟨?_, ?_, apartSet (apartSet h.apart (q := ⟨r, 0, none⟩) hrr _) (q := ⟨r, 1, none⟩) hrr _⟩
  · have := Own.made (ownSet (ownSet h.own (q := ⟨r, 0, none⟩) (fun k hk => (h.hne k hk).2) x) (q := ⟨r, 1, none⟩) (fun k hk => (h.hne k hk).2) y)
    exact this.mono h.hl (Nat.le_refl _)
  · exact curSet (curSet h.cur (q := ⟨r, 0, none⟩) (by show p < r; omega) _) (q := ⟨r, 1, none⟩) (by show p < r; omega) _

theorem shlA (a : Nat) (ha : a ≤ 8) : IntKind.i64.wrap (2 ^ min (IntKind.u64.wrap (a : Int)).toNat 64) = ((2 ^ a : Nat) : Int) := by
  have key : ∀ a : Nat, a < 9 → IntKind.i64.wrap (2 ^ min (IntKind.u64.wrap (a : Int)).toNat 64) = ((2 ^ a : Nat) : Int) := by decide +kernel
  exact key a (by omega)
theorem all_app {rs : List Int} {a x : Int} (h : rs.all (isSet a) = true) (hx : isSet a x = true) : (rs ++ [x]).all (isSet a) = true := by
  rw [List.all_append, h]; simp [hx]
set_option maxHeartbeats 1600000 in
theorem l3Make (B p a m : Nat) (w : World) (hc : Cur w B p) (ha : a ≤ 8) (hm : m ≤ 1000) :
    Calls Try.prog 112 #[.pointer (some ⟨p, 0, none⟩), .int .i64 a, .int .i64 m] w fun e w' => ∃ v rs, e = .returned (ctx a v) ∧ rs.length ≤ m ∧ rs.all (isSet a) = true ∧ Own 3 w' w.heap.size w'.heap.size v (ints rs) ∧ Cur w' B p ∧ Apart p (p + 1) w w' := by
  obtain ⟨i0, hi, hz0, hz1, hz2⟩ := info_parts Ints.info
  have hp := hc.lt
  have hs := shlA a ha
  have ha2 : 1 ≤ 2 ^ a := Nat.pow_pos (by omega)
  have ha3 : 2 ^ a ≤ 256 := pow_le8 ha
  have HL : Hid (∀ (w : World) (hc : Cur w B p), Calls Try.prog 95 #[.pointer (some ⟨p, 0, none⟩), .int .i64 (IntKind.i64.wrap (2 ^ min (IntKind.u64.wrap (a : Int)).toNat 64))] w fun e w' => ∃ x : Nat, e = .returned (.int .i64 x) ∧ x < 2 ^ a ∧ Cur w' B p ∧ Apart p (p + 1) w w') := Lib.hid (fun w hc => by rw [hs]; exact l1Below B p (2 ^ a) w hc ha2 (by omega))
  have HM : Hid (∀ (w : World) (hc : Cur w B p), Calls Try.prog 95 #[.pointer (some ⟨p, 0, none⟩), .int .i64 ((m : Int) + 1)] w fun e w' => ∃ x : Nat, e = .returned (.int .i64 x) ∧ x < m + 1 ∧ Cur w' B p ∧ Apart p (p + 1) w w') := Lib.hid (fun w hc => by have := l1Below B p (m + 1) w hc (by omega) (by omega); rwa [show ((m + 1 : Nat) : Int) = (m : Int) + 1 by omega] at this)
  have HS : Hid (∀ x : Nat, x < 2 ^ a → isSet (a : Int) (x : Int) = true) := Lib.hid (fun x hx => isSet_of_nat (by omega) (by omega) hx)
  have HO : Hid (∀ x y : Nat, x < 2 ^ a → y < 2 ^ a → isSet (a : Int) (bits .or .i64 (x : Int) (y : Int)) = true) := Lib.hid (fun x y hx hy => by rw [or_nat x y (by omega) (by omega)]; exact isSet_of_nat (by omega) (by omega) (Nat.or_lt_two_pow hx hy))
  have HM0 : Hid (Mk w ((w.alloc (.cells #[.int .i64 0, .slice none 0 0] 26)).alloc (.cells #[.int .i64 a, .slice none 0 0] 26)) B p (w.heap.size + 1) w.heap.size (w.heap.size + 2) a (.slice none 0 0) [] #[.int .i64 0, .slice none 0 0]) := Lib.hid
    ⟨by have := BoxAt.new (w.alloc (.cells #[.int .i64 0, .slice none 0 0] 26)) 26 #[.int .i64 a, .slice none 0 0]; simpa using this, (BoxAt.new w _ _).alloc _, World.ownsRow_nil _ _ _ _, (hc.alloc _).alloc _, (apartAlloc p w _).trans (apartAlloc p _ _), hp, by omega, by omega, by omega, by omega, by simp, fun q hq => by cases hq⟩
  clear hc ha2 ha3 hs
  go_enter Try.func112, Try.ntmps112
  go_wp2_with fail
  refine (HM.out _ HM0.out.cur).mono ?_
  rintro e w1 ⟨n, rfl, hn, c1, a1⟩
  have HM1 := Lib.hid (HM0.out.turn a1 c1)
  clear c1 a1 HM0
  go_wp2_with fail
  go_loopw [9] (fun i wr => ∃ (k : Nat) (rs : List Int) (v : Value), k ≤ n ∧ i = .int .i64 k ∧ Hid (rs.length = k) ∧ Hid (rs.all (isSet a) = true) ∧ Hid (Mk w wr B p (w.heap.size + 1) w.heap.size (w.heap.size + 2) a v rs #[.int .i64 0, .slice none 0 0])) (fun i _ => n - (intOf i).toNat)
  case atStart => exact ⟨0, [], _, Nat.zero_le _, rfl, Lib.hid rfl, Lib.hid rfl, HM1⟩
  case round =>
    obtain ⟨k, rs, v, hk, rfl, hrl, hall, M⟩ := hrel
    obtain ⟨av, cv, rfl⟩ := owns_form M.out.own
    rw [hrl.out] at M
    by_cases hlt : k < n
    · go_wp2_with fail
      refine (l1Once B p 2 _ M.out.cur (by omega) (by omega)).mono ?_
      rintro e w2 ⟨b, rfl, c2, a2⟩
      have M2 := Lib.hid (M.out.turn a2 c2)
      clear c2 a2
      have d1 : w2.cell? ⟨w.heap.size + 1, 1, none⟩ = some (.slice av k cv) := M2.out.box.cell 1
      have f1 : w2.frozen? ⟨w.heap.size + 1, 1, none⟩ = false := M2.out.box.free 1
      have HK1 : Hid (k + 1 ≤ maxLen) := Lib.hid (by unfold maxLen; omega)
      have HK2 : Hid ((k + 1) * 8 ≤ 140737488355328) := Lib.hid (by omega)
      have HO2 : Hid (∀ w', Mk w w' B p (w.heap.size + 1) w.heap.size (w.heap.size + 2) a (.slice av k cv) rs #[.int .i64 0, .slice none 0 0] → w'.ownsRow (w.heap.size + 2) 3 1 (.slice av k cv) k (ints rs)) := Lib.hid (fun w' h => by have := h.own; rwa [hrl.out] at this)
      have hrl1 : Hid (k + 1 = rs.length + 1) := Lib.hid (by have := hrl.out; omega)
      cases b with
      | true =>
        go_wp2_with fail
        go_region_law (first | (refine step_append_lies _ (by rfl) _ _ _ (by rfl) (w.heap.size + 2) 3 i0 (.int .i64 0) 1 8 Try.underlying24 hi hz0 hz1 hz2 rfl (by decide) _ k _ (by rfl) ((HO2.out _ m3).alloc _) ⟨w3.heap.size, 0, none⟩ 1 1 [.int .i64 x] (by rfl) (by rfl) (news1 _ _ _) (one1 _ _) Nat.one_pos HK1.out HK2.out (m3.alloc _).hs _ rfl ?_; intro g cap w4 hown4 hgrow hat hlt4; have m4 := (m3.alloc _).grown hgrow hrl1.out hown4 hat rfl; have d4 : w4.cell? ⟨w.heap.size + 1, 1, none⟩ = some (.slice av k cv) := m4.1.cell 1; have f4 : w4.frozen? ⟨w.heap.size + 1, 1, none⟩ = false := m4.1.free 1) | (go_simp; go_wp2_with (go_at_call 95; refine (HL.out w2.drew M2.out.drew.cur).mono ?_; rintro e w3 ⟨x, rfl, hx, c3, a3⟩; have m3 := M2.out.drew.turn a3 c3; have z3 := m3.box.lt; have d3 : w3.cell? ⟨w.heap.size + 1, 1, none⟩ = some (.slice av k cv) := m3.box.cell 1)) | fail)
        all_goals
          have M5 := Lib.hid m4.2
          have HX := Lib.hid (all_app hall.out (HS.out x hx))
          clear m3 m4 d3 z3 c3 a3 hown4 hgrow hat hlt4
          go_wp2_with fail
          go_roundw
          case rel => exact ⟨k + 1, rs ++ [(x : Int)], _, by omega, by simp, Lib.hid (by simp [hrl.out]), HX, M5⟩
          case measure => simp [intOf]; omega
      | false =>
        go_wp2_with fail
        go_region_law (first | (refine step_append_lies _ (by rfl) _ _ _ (by rfl) (w.heap.size + 2) 3 i0 (.int .i64 0) 1 8 Try.underlying24 hi hz0 hz1 hz2 rfl (by decide) _ k _ (by rfl) ((HO2.out _ m3).alloc _) ⟨w3.heap.size, 0, none⟩ 1 1 [.int .i64 (bits .or .i64 (x : Int) (y : Int))] (by rfl) (by rfl) (news1 _ _ _) (one1 _ _) Nat.one_pos HK1.out HK2.out (m3.alloc _).hs _ rfl ?_; intro g cap w4 hown4 hgrow hat hlt4; have m4 := (m3.alloc _).grown hgrow hrl1.out hown4 hat rfl; have d4 : w4.cell? ⟨w.heap.size + 1, 1, none⟩ = some (.slice av k cv) := m4.1.cell 1; have f4 : w4.frozen? ⟨w.heap.size + 1, 1, none⟩ = false := m4.1.free 1) | (go_simp; go_wp2_with (first | (go_at_call 95; refine (HL.out wy my.cur).mono ?_; rintro e w3 ⟨y, rfl, hy, c3, a3⟩; have m3 := my.turn a3 c3; have z3 := m3.box.lt; have d3 : w3.cell? ⟨w.heap.size + 1, 1, none⟩ = some (.slice av k cv) := m3.box.cell 1) | (go_at_call 95; refine (HL.out w2.drew M2.out.drew.cur).mono ?_; rintro e wy ⟨x, rfl, hx, cy, ay⟩; have my := M2.out.drew.turn ay cy; have zy := my.box.lt; have dy : wy.cell? ⟨w.heap.size + 1, 1, none⟩ = some (.slice av k cv) := my.box.cell 1))) | fail)
        all_goals
          have M5 := Lib.hid m4.2
          have HX := Lib.hid (all_app hall.out (HO.out x y hx hy))
          clear m3 m4 d3 z3 dy zy my cy ay c3 a3 hown4 hgrow hat hlt4
          go_wp2_with fail
          go_roundw
          case rel => exact ⟨k + 1, rs ++ [bits .or .i64 (x : Int) (y : Int)], _, by omega, by simp, Lib.hid (by simp [hrl.out]), HX, M5⟩
          case measure => simp [intOf]; omega
    · have hkn : Hid (rs.length ≤ m) := Lib.hid (by have := hrl.out; omega)
      have c0 : wr.cell? ⟨w.heap.size + 1, 0, none⟩ = some (.int .i64 a) := M.out.box.cell 0
      have c1 : wr.cell? ⟨w.heap.size + 1, 1, none⟩ = some (.slice av k cv) := M.out.box.cell 1
      have e0 : wr.cell? ⟨w.heap.size, 0, none⟩ = some (.int .i64 0) := M.out.res.cell 0
      have e1 : wr.cell? ⟨w.heap.size, 1, none⟩ = some (.slice none 0 0) := M.out.res.cell 1
      have f0 : wr.frozen? ⟨w.heap.size, 0, none⟩ = false := M.out.res.free 0
      have f1 : wr.frozen? ⟨w.heap.size, 1, none⟩ = false := M.out.res.free 1
      go_wp2_with fail
      refine bodyPost_ret (v := ctx a (.slice av k cv)) (by simp [results, Try.results112, go_sem, e0, e1]) rfl ⟨_, rs, rfl, hkn.out, hall.out, M.out.done _ _⟩
theorem pickLitAt (B p : Nat) (xs : List Int) (n : Nat) (hx : xs.length = n) (h1 : 1 ≤ n) (hn : n ≤ 1000) (cs : Array Value) (hcs : cs = (ints xs).toArray) (w : World) (q : Nat) (hq : w.heap.size = q) (hc : Cur w B p) :
    Calls Try.prog 96 #[.pointer (some ⟨p, 0, none⟩), .slice (some ⟨q, 0, none⟩) n n] (w.alloc (.cells cs 3)) fun e w' => ∃ j : Nat, e = .returned (.int .i64 (xs.getD j 0)) ∧ j < n ∧ Cur w' B p ∧ Apart p (p + 1) w w' := by
  subst hq
  exact pickLit B p xs n hx h1 hn cs hcs w hc
theorem pick9 : ∀ j : Nat, j < 9 → ∃ a : Nat, ([0, 1, 2, 3, 3, 4, 4, 5, 5] : List Int).getD j 0 = (a : Int) ∧ a ≤ 5 := by
  intro j hj
  match j, hj with
  | 0, _ => exact ⟨0, rfl, by omega⟩
  | 1, _ => exact ⟨1, rfl, by omega⟩
  | 2, _ => exact ⟨2, rfl, by omega⟩
  | 3, _ => exact ⟨3, rfl, by omega⟩
  | 4, _ => exact ⟨3, rfl, by omega⟩
  | 5, _ => exact ⟨4, rfl, by omega⟩
  | 6, _ => exact ⟨4, rfl, by omega⟩
  | 7, _ => exact ⟨5, rfl, by omega⟩
  | 8, _ => exact ⟨5, rfl, by omega⟩
theorem l3Draw (B p : Nat) (w : World) (hc : Cur w B p) :
    Calls Try.prog 80 #[.pointer (some ⟨p, 0, none⟩)] w fun e w' => ∃ (a : Nat) (v : Value) (rs : List Int), e = .returned (ctx a v) ∧ a ≤ 5 ∧ rs.length ≤ 6 ∧ rs.all (isSet a) = true ∧ Own 3 w' w.heap.size w'.heap.size v (ints rs) ∧ Cur w' B p ∧ Apart p (p + 1) w w' := by
  have hp := hc.lt
  go_enter Try.func80, Try.ntmps80
  go_wp2_with fail
  refine (pickLitAt B p [0, 1, 2, 3, 3, 4, 4, 5, 5] 9 rfl (by omega) (by omega) _ rfl _ (w.heap.size + 1) (by simp) (hc.alloc _)).mono ?_
  rintro e w1 ⟨j, rfl, hj, c1, a1⟩
  obtain ⟨a, ha, ha5⟩ := pick9 j hj
  rw [ha]
  have hb1 := boxA (BoxAt.new w 26 #[.int .i64 0, .slice none 0 0]) a1 (.inr (by omega))
  have A1 := Lib.hid ((apartAlloc p w _).trans a1)
  have hz1 : w.heap.size + 1 ≤ w1.heap.size := by have := a1.size; simpa using this
  clear a1 ha hc
  go_wp2_with fail
  refine (l3Make B p a 6 _ c1 (by omega) (by omega)).mono ?_
  rintro e w2 ⟨v, rs, rfl, hl6, hall, o, c2, a2⟩
  obtain ⟨av, cv, rfl⟩ := own_form o
  have hb2 := boxA hb1 a2 (.inr (by omega))
  have e0 : w2.cell? ⟨w.heap.size, 0, none⟩ = some (.int .i64 0) := hb2.cell 0
  have e1 : w2.cell? ⟨w.heap.size, 1, none⟩ = some (.slice none 0 0) := hb2.cell 1
  have f0 : w2.frozen? ⟨w.heap.size, 0, none⟩ = false := hb2.free 0
  have f1 : w2.frozen? ⟨w.heap.size, 1, none⟩ = false := hb2.free 1
  have O := Lib.hid o
  have A2 := Lib.hid (A1.out.trans a2)
  have hz2 := a2.size
  have C2 := Lib.hid c2
  clear o a2 c2 hb1 hb2 A1
  go_wp2_with fail
  refine bodyPost_ret (v := ctx a (.slice av rs.length cv)) (by simp [results, Try.results80, go_sem, e0, e1]) rfl ⟨a, _, rs, rfl, ha5, hl6, hall, ?_, ?_, apartSet (apartSet A2.out (q := ⟨w.heap.size, 0, none⟩) (Nat.le_refl _) _) (q := ⟨w.heap.size, 1, none⟩) (Nat.le_refl _) _⟩
  · exact (own_set (own_set O.out (.inl (by show w.heap.size < _; omega)) _) (.inl (by show w.heap.size < _; omega)) _).mono (by omega) (by simp)
  · exact curSet (curSet C2.out (q := ⟨w.heap.size, 0, none⟩) (by show p < w.heap.size; omega) _) (q := ⟨w.heap.size, 1, none⟩) (by show p < w.heap.size; omega) _
theorem pick4 : ∀ j : Nat, j < 4 → ∃ a : Int, ([-1, 0, 2, 7] : List Int).getD j 0 = a ∧ -1 ≤ a ∧ a ≤ 7 := by
  intro j hj
  match j, hj with
  | 0, _ => exact ⟨-1, rfl, by omega, by omega⟩
  | 1, _ => exact ⟨0, rfl, by omega, by omega⟩
  | 2, _ => exact ⟨2, rfl, by omega, by omega⟩
  | 3, _ => exact ⟨7, rfl, by omega, by omega⟩
/-- The length of the rows of the context at block g. -/
def lenAt (w : World) (g : Nat) : Nat := match w.cell? ⟨g, 1, none⟩ with | some (.slice _ n _) => n | _ => 0
set_option maxHeartbeats 1600000 in
theorem l3Bent (B p : Nat) (w : World) (hc : Cur w B p) :
    Calls Try.prog 53 #[.pointer (some ⟨p, 0, none⟩)] w fun e w' => ∃ (a : Int) (v : Value) (rs : List Int), e = .returned (ctx a v) ∧ -1 ≤ a ∧ a ≤ 7 ∧ rs.length ≤ 9 ∧ Own 3 w' w.heap.size w'.heap.size v (ints rs) ∧ Cur w' B p ∧ Apart p (p + 1) w w' := by
  obtain ⟨i0, hi, hz0, hz1, hz2⟩ := info_parts Ints.info
  have hp := hc.lt
  go_enter Try.func53, Try.ntmps53
  go_wp2_with fail
  refine (l3Draw B p _ (hc.alloc _)).mono ?_
  rintro e w1 ⟨a, v, rs, rfl, ha, hl, hall, o, c1, a1⟩
  have hz1 : w.heap.size + 1 ≤ w1.heap.size := by have := a1.size; simpa using this
  have hM : Mk w (w1.alloc (.cells #[.int .i64 a, v] 26)) B p w1.heap.size w.heap.size (w.heap.size + 1) a v rs #[.int .i64 0, .slice none 0 0] :=
    ⟨BoxAt.new _ _ _, (boxA (BoxAt.new w 26 #[.int .i64 0, .slice none 0 0]) a1 (.inr (by omega))).alloc _, by
      have := (o.below ((Below.refl w1.heap.size w1).alloc (Nat.le_refl _) (.cells #[.int .i64 a, v] 26)) (Nat.le_refl _)).1
      simpa [ints] using this, c1.alloc _, ((apartAlloc p w _).trans a1).trans (apartAlloc p _ _), hp, by omega, by omega, by omega, by omega, by simp; omega,
      fun q hq => ⟨by have := o.2 q hq; omega, by have := (o.1.lt q hq).1; simp at this; omega⟩⟩
  have M := Lib.hid hM
  clear hM o c1 a1 hc hall
  obtain ⟨av, cv, rfl⟩ := owns_form M.out.own
  have HL0 := Lib.hid hl
  obtain ⟨n, hn⟩ : ∃ n, rs.length = n := ⟨_, rfl⟩
  rw [hn] at M hl ⊢
  have HN := Lib.hid hn
  clear hn
  obtain ⟨g, hg⟩ : ∃ g, w1.heap.size = g := ⟨_, rfl⟩
  go_wp2_with fail
  generalize w1.alloc (.cells #[.int .i64 a, .slice av n cv] 26) = W at M ⊢
  rw [hg] at M
  have hgr : w.heap.size < g := by omega
  clear hg hz1
  refine (l1Below B p 14 _ M.out.cur (by omega) (by omega)).mono ?_
  rintro e w2 ⟨x, rfl, hx, c2, a2⟩
  have M2 := Lib.hid (M.out.turn a2 c2)
  clear c2 a2 M
  have q0 : w2.cell? ⟨g, 0, none⟩ = some (.int .i64 a) := M2.out.box.cell 0
  have q1 : w2.cell? ⟨g, 1, none⟩ = some (.slice av n cv) := M2.out.box.cell 1
  have hfull : n = rs.length := HN.out.symm
  have HNE : Hid (n = rs.length) := Lib.hid hfull
  clear hfull
  by_cases h0 : x = 0
  · subst h0
    go_wp2_with fail
    refine (pickLit B p [-1, 0, 2, 7] 4 rfl (by omega) (by omega) _ rfl w2 M2.out.cur).mono ?_
    rintro e w3 ⟨j, rfl, hj, c3, a3⟩
    obtain ⟨y, hy, hy1, hy2⟩ := pick4 j hj
    rw [hy]
    have m3 := M2.out.turn a3 c3
    have k0 : w3.cell? ⟨g, 0, none⟩ = some (.int .i64 a) := m3.box.cell 0
    have k1 : w3.cell? ⟨g, 1, none⟩ = some (.slice av n cv) := m3.box.cell 1
    have fk : w3.frozen? ⟨g, 0, none⟩ = false := m3.box.free 0
    have M3 := Lib.hid (m3.setA y)
    clear m3 hy c3 a3
    have c0 : (w3.setCell ⟨g, 0, none⟩ (.int .i64 y)).cell? ⟨g, 0, none⟩ = some (.int .i64 (y)) := M3.out.box.cell 0
    have c1 : (w3.setCell ⟨g, 0, none⟩ (.int .i64 y)).cell? ⟨g, 1, none⟩ = some (.slice av n cv) := M3.out.box.cell 1
    have e0 : (w3.setCell ⟨g, 0, none⟩ (.int .i64 y)).cell? ⟨w.heap.size, 0, none⟩ = some (.int .i64 0) := M3.out.res.cell 0
    have e1 : (w3.setCell ⟨g, 0, none⟩ (.int .i64 y)).cell? ⟨w.heap.size, 1, none⟩ = some (.slice none 0 0) := M3.out.res.cell 1
    have f0 : (w3.setCell ⟨g, 0, none⟩ (.int .i64 y)).frozen? ⟨w.heap.size, 0, none⟩ = false := M3.out.res.free 0
    have f1 : (w3.setCell ⟨g, 0, none⟩ (.int .i64 y)).frozen? ⟨w.heap.size, 1, none⟩ = false := M3.out.res.free 1
    go_wp2_with fail
    refine bodyPost_ret (v := ctx (y) (.slice av n cv)) (by simp [results, Try.results53, go_sem, e0, e1]) rfl ⟨y, _, _, rfl, hy1, hy2, by have := HNE.out; omega, M3.out.done _ _⟩
  · by_cases h1 : x = 1
    · subst h1
      have HK1 : Hid (n + 1 ≤ maxLen) := Lib.hid (by unfold maxLen; omega)
      have HK2 : Hid ((n + 1) * 8 ≤ 140737488355328) := Lib.hid (by omega)
      have HO2 : Hid (∀ w', Mk w w' B p g w.heap.size (w.heap.size + 1) a (.slice av n cv) rs #[.int .i64 0, .slice none 0 0] → w'.ownsRow (w.heap.size + 1) 3 1 (.slice av n cv) n (ints rs)) := Lib.hid (fun w' h => by have := h.own; rwa [← HNE.out] at this)
      have hrl1 : Hid (n + 1 = rs.length + 1) := Lib.hid (by have := HNE.out; omega)
      go_wp2_with fail
      go_region_law (first | (refine step_append_lies _ (by rfl) _ _ _ (by rfl) (w.heap.size + 1) 3 i0 (.int .i64 0) 1 8 Try.underlying24 hi hz0 hz1 hz2 rfl (by decide) _ n _ (by rfl) ((HO2.out _ m3).alloc _) ⟨w3.heap.size, 0, none⟩ 1 1 [.int .i64 x] (by rfl) (by rfl) (news1 _ _ _) (one1 _ _) Nat.one_pos HK1.out HK2.out (m3.alloc _).hs _ rfl ?_; intro g2 cap w4 hown4 hgrow hat hlt4; have m4 := (m3.alloc _).grown hgrow hrl1.out hown4 hat rfl; have d4 : w4.cell? ⟨g, 1, none⟩ = some (.slice av n cv) := m4.1.cell 1; have f4 : w4.frozen? ⟨g, 1, none⟩ = false := m4.1.free 1) | (go_simp; go_wp2_with (go_at_call 97; refine (l2Bent B p w2.drew M2.out.drew.cur).mono ?_; rintro e w3 ⟨x, rfl, c3, a3⟩; have m3 := M2.out.drew.turn a3 c3; have z3 := m3.box.lt; have d3 : w3.cell? ⟨g, 1, none⟩ = some (.slice av n cv) := m3.box.cell 1)) | fail)
      all_goals
        have M3 := Lib.hid m4.2
        have d5 : w4.cell? ⟨g, 0, none⟩ = some (.int .i64 a) := m4.1.cell 0
        clear m3 m4 d3 z3 c3 a3 hown4 hgrow hat hlt4
        have c0 : (w4.setCell ⟨g, 1, none⟩ (.slice (some ⟨g2, 0, none⟩) (n + 1) cap)).cell? ⟨g, 0, none⟩ = some (.int .i64 (a)) := M3.out.box.cell 0
        have c1 : (w4.setCell ⟨g, 1, none⟩ (.slice (some ⟨g2, 0, none⟩) (n + 1) cap)).cell? ⟨g, 1, none⟩ = some (.slice (some ⟨g2, 0, none⟩) (n + 1) cap) := M3.out.box.cell 1
        have e0 : (w4.setCell ⟨g, 1, none⟩ (.slice (some ⟨g2, 0, none⟩) (n + 1) cap)).cell? ⟨w.heap.size, 0, none⟩ = some (.int .i64 0) := M3.out.res.cell 0
        have e1 : (w4.setCell ⟨g, 1, none⟩ (.slice (some ⟨g2, 0, none⟩) (n + 1) cap)).cell? ⟨w.heap.size, 1, none⟩ = some (.slice none 0 0) := M3.out.res.cell 1
        have f0 : (w4.setCell ⟨g, 1, none⟩ (.slice (some ⟨g2, 0, none⟩) (n + 1) cap)).frozen? ⟨w.heap.size, 0, none⟩ = false := M3.out.res.free 0
        have f1 : (w4.setCell ⟨g, 1, none⟩ (.slice (some ⟨g2, 0, none⟩) (n + 1) cap)).frozen? ⟨w.heap.size, 1, none⟩ = false := M3.out.res.free 1
        go_wp2_with fail
        refine bodyPost_ret (v := ctx (a) (.slice (some ⟨g2, 0, none⟩) (n + 1) cap)) (by simp [results, Try.results53, go_sem, e0, e1]) rfl ⟨a, _, _, rfl, by omega, by omega, by have := HNE.out; simp; omega, M3.out.done _ _⟩
    · by_cases h2 : x = 2
      · subst h2
        have hmn : n ≤ 9 := by omega
        have hmn2 : Hid (rs.length ≤ 9) := Lib.hid (by have := HNE.out; omega)
        go_wp2_with fail
        go_loopw [] (fun wr => ∃ (k : Nat) (ys : List Int) (u : Value), k ≤ 9 ∧ Hid (ys.length = k) ∧ Hid (Mk w wr B p g w.heap.size (w.heap.size + 1) a u ys #[.int .i64 0, .slice none 0 0])) (fun wr => 9 - lenAt wr g)
        case atStart => exact ⟨n, rs, _, hmn, Lib.hid HNE.out.symm, M2⟩
        case round =>
          obtain ⟨k, ys, u, hk, hyl, M3⟩ := hrel
          obtain ⟨au, cu, rfl⟩ := owns_form M3.out.own
          rw [hyl.out] at M3
          have k0 : wr.cell? ⟨g, 0, none⟩ = some (.int .i64 a) := M3.out.box.cell 0
          have k1 : wr.cell? ⟨g, 1, none⟩ = some (.slice au k cu) := M3.out.box.cell 1
          by_cases hlt : k < 9
          · have fk : wr.frozen? ⟨g, 1, none⟩ = false := M3.out.box.free 1
            have HK1 : Hid (k + 1 ≤ maxLen) := Lib.hid (by unfold maxLen; omega)
            have HK2 : Hid ((k + 1) * 8 ≤ 140737488355328) := Lib.hid (by omega)
            have HO2 : Hid (∀ w', Mk w w' B p g w.heap.size (w.heap.size + 1) a (.slice au k cu) ys #[.int .i64 0, .slice none 0 0] → w'.ownsRow (w.heap.size + 1) 3 1 (.slice au k cu) k (ints ys)) := Lib.hid (fun w' h => by have := h.own; rwa [hyl.out] at this)
            have hrl1 : Hid (k + 1 = ys.length + 1) := Lib.hid (by have := hyl.out; omega)
            go_wp2_with (at_builtin; refine wpList_append_lies _ rfl _ _ _ rfl (w.heap.size + 1) 3 i0 (.int .i64 0) 1 8 Try.underlying24 hi hz0 hz1 hz2 rfl (by decide) _ k _ rfl ((HO2.out _ M3.out).alloc _) ⟨wr.heap.size, 0, none⟩ 1 1 [.int .i64 0] rfl rfl (news1 _ _ _) (one1 _ _) Nat.one_pos HK1.out HK2.out (M3.out.alloc _).hs _ rfl ?_)
            intro g2 cap w4 hown4 hgrow hat hlt4
            have m4 := (M3.out.alloc _).grown hgrow hrl1.out hown4 hat (by simp)
            have d4 : w4.cell? ⟨g, 1, none⟩ = some (.slice au k cu) := m4.1.cell 1
            have f4 : w4.frozen? ⟨g, 1, none⟩ = false := m4.1.free 1
            have HL1 : Hid (lenAt wr g = k) := Lib.hid (by simp [lenAt, k1])
            have HL2 : Hid (lenAt (w4.setCell ⟨g, 1, none⟩ (.slice (some ⟨g2, 0, none⟩) (k + 1) cap)) g = k + 1) := Lib.hid (by have : (w4.setCell ⟨g, 1, none⟩ (.slice (some ⟨g2, 0, none⟩) (k + 1) cap)).cell? ⟨g, 1, none⟩ = some (.slice (some ⟨g2, 0, none⟩) (k + 1) cap) := m4.2.box.cell 1; simp only [lenAt, this])
            have M5 := Lib.hid m4.2
            clear m4 hown4 hgrow hat hlt4
            go_wp2_with fail
            go_roundw
            case rel => exact ⟨k + 1, ys ++ [0], .slice (some ⟨g2, 0, none⟩) (k + 1) cap, by omega, Lib.hid (by simp [hyl.out]), M5⟩
            case measure => rw [HL1.out, HL2.out]; omega
          · have HY9 : Hid (ys.length ≤ 9) := Lib.hid (by have := hyl.out; omega)
            have M4 := M3
            have c0 : wr.cell? ⟨g, 0, none⟩ = some (.int .i64 (a)) := M4.out.box.cell 0
            have c1 : wr.cell? ⟨g, 1, none⟩ = some (.slice au k cu) := M4.out.box.cell 1
            have e0 : wr.cell? ⟨w.heap.size, 0, none⟩ = some (.int .i64 0) := M4.out.res.cell 0
            have e1 : wr.cell? ⟨w.heap.size, 1, none⟩ = some (.slice none 0 0) := M4.out.res.cell 1
            have f0 : wr.frozen? ⟨w.heap.size, 0, none⟩ = false := M4.out.res.free 0
            have f1 : wr.frozen? ⟨w.heap.size, 1, none⟩ = false := M4.out.res.free 1
            go_wp2_with fail
            refine bodyPost_ret (v := ctx (a) (.slice au k cu)) (by simp [results, Try.results53, go_sem, e0, e1]) rfl ⟨a, _, _, rfl, by omega, by omega, HY9.out, M4.out.done _ _⟩
      · have HY9 : Hid (rs.length ≤ 9) := Lib.hid (by have := HNE.out; omega)
        have M4 := M2
        have c0 : w2.cell? ⟨g, 0, none⟩ = some (.int .i64 (a)) := M4.out.box.cell 0
        have c1 : w2.cell? ⟨g, 1, none⟩ = some (.slice av n cv) := M4.out.box.cell 1
        have e0 : w2.cell? ⟨w.heap.size, 0, none⟩ = some (.int .i64 0) := M4.out.res.cell 0
        have e1 : w2.cell? ⟨w.heap.size, 1, none⟩ = some (.slice none 0 0) := M4.out.res.cell 1
        have f0 : w2.frozen? ⟨w.heap.size, 0, none⟩ = false := M4.out.res.free 0
        have f1 : w2.frozen? ⟨w.heap.size, 1, none⟩ = false := M4.out.res.free 1
        go_wp2_with fail
        refine bodyPost_ret (v := ctx (a) (.slice av n cv)) (by simp [results, Try.results53, go_sem, e0, e1]) rfl ⟨a, _, _, rfl, by omega, by omega, HY9.out, M4.out.done _ _⟩
end Go.Proofs.Ythodmmckekgkdaa.Draw
