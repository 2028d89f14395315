/-
  Draws of chapter 3: a context with a number, two contexts, a text.
-/
import Derived.Test.YtkdnjebjbadloaaGreatDoorDraw3
import Derived.Deep.DeepCutAuto
namespace Go.Proofs.YtkdnjebjbadloaaGreatDoor.Draw
open Go Go.RowKit Mem Sets Elems Text Strs Ctx
set_option maxRecDepth 100000
attribute [local go_sem ↓] Go.wp_at_zero Go.wp_at_succ

/-- A world behind W in which nothing of W has turned but the cursor at p. -/
structure PastC (W : World) (B p : Nat) where
  w : World
  a : Apart p (p + 1) W w
  c : Cur w B p
theorem PastC.cell {W : World} {B p : Nat} {q : Addr} {v : Value} (h : W.cell? q = some v) (hb : q.block < W.heap.size) (hp : q.block ≠ p) (z : PastC W B p) : z.w.cell? q = some v := (World.cell?_of_block (w := W) (z.a.block q.block hb (by omega))).trans h
theorem PastC.free {W : World} {B p : Nat} {q : Addr} {b : Bool} (h : W.frozen? q = b) (hb : q.block < W.heap.size) (hp : q.block ≠ p) (z : PastC W B p) : z.w.frozen? q = b := (World.frozen?_of_block (w := W) (z.a.block q.block hb (by omega))).trans h
theorem PastC.size {W : World} {B p : Nat} (z : PastC W B p) : W.heap.size ≤ z.w.heap.size := z.a.size
def PastC.start {W : World} {B p : Nat} (c : Cur W B p) : PastC W B p := ⟨W, Apart.refl _ _ _, c⟩
def PastC.drew {W : World} {B p : Nat} (z : PastC W B p) : PastC W B p := ⟨z.w.drew, z.a.drew, z.c.below (Below.refl z.w.heap.size z.w).drew z.c.lt⟩
theorem PastC.below {W w' : World} {B p : Nat} (z : PastC W B p) (b : Below z.w.heap.size z.w w') : ∃ y : PastC W B p, w' = y.w := ⟨⟨w', z.a.trans (Apart.of_below b (Nat.le_refl _)), z.c.below b z.c.lt⟩, rfl⟩
theorem PastC.turn {W w' : World} {B p : Nat} (z : PastC W B p) (a : Apart p (p + 1) z.w w') (c : Cur w' B p) : ∃ y : PastC W B p, w' = y.w := ⟨⟨w', z.a.trans a, c⟩, rfl⟩
theorem l1BelowC {W : World} {B p : Nat} (n : Nat) (z : PastC W B p) (h1 : 1 ≤ n) (hn : n ≤ 1000000000) :
    Calls Tryz.prog 29 #[.pointer (some ⟨p, 0, none⟩), .int .i64 n] z.w fun e w' => ∃ x : Nat, e = .returned (.int .i64 x) ∧ x < n ∧ ∃ y : PastC W B p, w' = y.w :=
  (l1Below B p n z.w z.c h1 hn).mono fun _ _ ⟨x, he, hx, c, a⟩ => ⟨x, he, hx, z.turn a c⟩
theorem curSet2 {w : World} {B p : Nat} (h : Cur w B p) {q : Addr} (hq : q.block < p) (hB : B ≤ q.block) (u : Value) : Cur (w.setCell q u) B p := by
  obtain ⟨v, xs, i, h, h1, h2, h3⟩ := h
  exact ⟨v, xs, i, h, (Below.heap_setCell _ _ _ _ (by omega)).trans h1, h2.below ((Below.refl B w).setCell hB u) (Nat.le_refl _), h3⟩
theorem own_setB {e : TypeId} {w : World} {lo hi : Nat} {v : Value} {cs : List Value} (h : Mem.Own e w lo hi v cs) {q : Addr} (hq : q.block < lo ∨ hi ≤ q.block) (u : Value) : Mem.Own e (w.setCell q u) lo hi v cs := own_set h hq u
set_option maxHeartbeats 1600000 in
theorem DrawColumnOf (v : Value) (xs : List Int) (B : Nat) (w : World) (hr : Reads w B v (u8s xs)) (hB : B ≤ w.heap.size) (hx : ∀ j, j < xs.length → 0 ≤ xs.getD j 0 ∧ xs.getD j 0 ≤ 255) (hn : xs.length ≤ 1048576) :
    Calls Tryz.prog 8 #[v] w fun e w' => ∃ (a x : Int) (u : Value) (rs : List Int), e = .returned (.tuple #[ctx a u, .int .i64 x]) ∧ rs.length ≤ 9 ∧ Own 3 w' w.heap.size w'.heap.size u (ints rs) ∧ Below w.heap.size w w' := by
  have HN := Lib.hid (newCur v xs B (w.alloc (.cells #[.int .i64 0, .slice none 0 0] 26)) (hr.below ((Below.refl w.heap.size w).alloc (Nat.le_refl _) _) hB) (by simp; omega) hx hn)
  obtain ⟨_, aa, ca, rfl, hca⟩ := hr
  have e0 : (u8s xs).length = xs.length := by simp [u8s]
  rw [e0] at HN ⊢
  clear hca hx e0
  go_enter Tryz.func8, Tryz.ntmps8
  go_wp2_with fail
  refine HN.out.mono ?_
  rintro e w1 ⟨p, rfl, hp, c1, hz, b1⟩
  have hp' : w.heap.size + 1 ≤ p := by simpa using hp
  have hz1 : w.heap.size + 2 ≤ w1.heap.size := by simpa using hz
  have hpl := c1.lt
  have R1 := Lib.hid ((BoxAt.new w 26 #[.int .i64 0, .slice none 0 0]).below b1 (by simp))
  have B1 := Lib.hid (((Below.refl w.heap.size w).alloc (Nat.le_refl _) (.cells #[.int .i64 0, .slice none 0 0] 26)).trans (b1.mono (by simp)))
  clear b1 hp hz HN
  go_wp2_with fail
  refine (l3Bent B p _ c1).mono ?_
  rintro e w2 ⟨a, u, rs, rfl, -, -, hl9, o, c2, a2⟩
  obtain ⟨av, cv, rfl⟩ := own_form o
  have hz2 := a2.size
  have R2 := ((boxA R1.out a2 (.inl (by omega))).alloc (.cells #[.int .i64 a, .slice av rs.length cv] 26))
  have B2 := Lib.hid ((B1.out.trans (a2.below (B := w.heap.size) (by omega) (by omega))).alloc (by omega : w.heap.size ≤ w2.heap.size) (.cells #[.int .i64 a, .slice av rs.length cv] 26))
  have G2 := BoxAt.new w2 26 #[.int .i64 a, .slice av rs.length cv]
  have O2 := Lib.hid (o.below ((Below.refl w2.heap.size w2).alloc (Nat.le_refl _) (.cells #[.int .i64 a, .slice av rs.length cv] 26)) (Nat.le_refl _))
  have C2 := c2.alloc (.cells #[.int .i64 a, .slice av rs.length cv] 26)
  have hg0 : w2.heap.size < (w2.alloc (.cells #[.int .i64 a, .slice av rs.length cv] 26)).heap.size := by simp
  clear o c2 a2 c1
  have HL9 := Lib.hid hl9
  clear hl9
  go_upto_region 3 with fail
  generalize w2.alloc (.cells #[.int .i64 a, .slice av rs.length cv] 26) = W at R2 B2 G2 O2 C2 hg0 ⊢
  obtain ⟨g, hg⟩ : ∃ g, w2.heap.size = g := ⟨_, rfl⟩
  rw [hg] at G2 O2 hg0 hz2 ⊢
  clear hg
  obtain ⟨n, hn'⟩ : ∃ n, rs.length = n := ⟨_, rfl⟩
  have HNN := Lib.hid hn'
  rw [hn'] at G2 O2 ⊢
  clear hn'
  have q0 := G2.cell 0
  have q1 := G2.cell 1
  have s0 := R2.cell 0
  have s1 := R2.cell 1
  have f0 := R2.free 0
  have f1 := R2.free 1
  simp only [List.getElem?_toArray, List.getElem?_cons_zero, List.getElem?_cons_succ] at q0 q1 s0 s1
  have k0 := fun z : PastC W B p => PastC.cell q0 (by show g < _; omega) (by show g ≠ p; omega) z
  have k1 := fun z : PastC W B p => PastC.cell q1 (by show g < _; omega) (by show g ≠ p; omega) z
  have t0 := fun z : PastC W B p => PastC.cell s0 (by show w.heap.size < _; omega) (by show w.heap.size ≠ p; omega) z
  have t1 := fun z : PastC W B p => PastC.cell s1 (by show w.heap.size < _; omega) (by show w.heap.size ≠ p; omega) z
  have v0 := fun z : PastC W B p => PastC.free f0 (by show w.heap.size < _; omega) (by show w.heap.size ≠ p; omega) z
  have v1 := fun z : PastC W B p => PastC.free f1 (by show w.heap.size < _; omega) (by show w.heap.size ≠ p; omega) z
  have z4 := PastC.start C2
  clear q0 q1 s0 s1 f0 f1
  have hb4 := l1BelowC 8 (PastC.start C2).drew (by omega) (by omega)
  rw [show (PastC.start C2).drew.w = W.drew from rfl, show ((8 : Nat) : Int) = 8 from rfl] at hb4
  have HB4 := Lib.hid hb4
  have hb5 := l1Below B p 8 ((W.drew.setCell ⟨w.heap.size, 0, none⟩ (.int .i64 a)).setCell ⟨w.heap.size, 1, none⟩ (.slice av n cv)) (curSet2 (curSet2 (PastC.start C2).drew.c (q := ⟨w.heap.size, 0, none⟩) hp' hB _) (q := ⟨w.heap.size, 1, none⟩) hp' hB _) (by omega) (by omega)
  rw [show ((8 : Nat) : Int) = 8 from rfl] at hb5
  have HB5 := Lib.hid hb5
  have hws : ∀ x : Nat, x < 8 → IntKind.i64.wrap ((x : Int) - 1) = (x : Int) - 1 := fun x hx => by rw [IntKind.wrap_i64]; omega
  have k00 := k0 (PastC.start C2)
  have k11 := k1 (PastC.start C2)
  have t00 := t0 (PastC.start C2)
  have t11 := t1 (PastC.start C2)
  have v00 := v0 (PastC.start C2)
  have v11 := v1 (PastC.start C2)
  simp only [PastC.start] at k00 k11 t00 t11 v00 v11
  clear hb4 hb5 z4
  go_wp2_with fail
  go_region_with ((go_at_call 29; first | (with_reducible refine HB4.out.mono ?_; rintro e w5 ⟨x5, rfl, hx5, z5, rfl⟩) | (with_reducible refine HB5.out.mono ?_; rintro e w5 ⟨x5, rfl, hx5, c5, a5⟩)))
  all_goals have O5 := Lib.hid (O2.out.apart z5.a (.inr (by omega)))
  all_goals have B5 := Lib.hid (B2.out.trans (z5.a.below (B := w.heap.size) (by omega) (by omega)))
  all_goals have hz5 := z5.size
  all_goals go_wp2_with fail
  all_goals refine bodyPost_ret (v := .tuple #[ctx a (.slice av n cv), .int .i64 ((x5 : Int) - 1)]) (by simp [results, Tryz.results8, go_sem, t0, t1]) rfl ⟨a, (x5 : Int) - 1, _, rs, rfl, HL9.out, ?_, ((B5.out.setCell (p := ⟨w.heap.size, 0, none⟩) (Nat.le_refl _) _).setCell (p := ⟨w.heap.size, 1, none⟩) (Nat.le_refl _) _)⟩
  all_goals exact (own_setB (own_setB O5.out (q := ⟨w.heap.size, 0, none⟩) (.inl (by show w.heap.size < _; omega)) _) (q := ⟨w.heap.size, 1, none⟩) (.inl (by show w.heap.size < _; omega)) _).mono (by omega) (by first | (simp; done) | (simp; omega))
theorem DrawDualContext (v : Value) (xs : List Int) (B : Nat) (w : World) (hr : Reads w B v (u8s xs)) (hB : B ≤ w.heap.size) (hx : ∀ j, j < xs.length → 0 ≤ xs.getD j 0 ∧ xs.getD j 0 ≤ 255) (hn : xs.length ≤ 1048576) :
    Calls Tryz.prog 5 #[v] w fun e w' => ∃ (a : Int) (u : Value) (rs : List Int), e = .returned (ctx a u) ∧ rs.length ≤ 9 ∧ Own 3 w' w.heap.size w'.heap.size u (ints rs) ∧ Below w.heap.size w w' := by
  have HN := Lib.hid (newCur v xs B (w.alloc (.cells #[.int .i64 0, .slice none 0 0] 26)) (hr.below ((Below.refl w.heap.size w).alloc (Nat.le_refl _) _) hB) (by simp; omega) hx hn)
  obtain ⟨_, aa, ca, rfl, hca⟩ := hr
  have e0 : (u8s xs).length = xs.length := by simp [u8s]
  rw [e0] at HN ⊢
  clear hca hx e0
  go_enter Tryz.func5, Tryz.ntmps5
  go_wp2_with fail
  refine HN.out.mono ?_
  rintro e w1 ⟨p, rfl, hp, c1, hz, b1⟩
  have hp' : w.heap.size + 1 ≤ p := by simpa using hp
  have hz1 : w.heap.size + 2 ≤ w1.heap.size := by simpa using hz
  have hpl := c1.lt
  have R1 := Lib.hid ((BoxAt.new w 26 #[.int .i64 0, .slice none 0 0]).below b1 (by simp))
  have B1 := Lib.hid (((Below.refl w.heap.size w).alloc (Nat.le_refl _) (.cells #[.int .i64 0, .slice none 0 0] 26)).trans (b1.mono (by simp)))
  clear b1 hp hz HN
  go_wp2_with fail
  refine (l3Bent B p _ c1).mono ?_
  rintro e w2 ⟨a, u, rs, rfl, -, -, hl9, o, c2, a2⟩
  obtain ⟨av, cv, rfl⟩ := own_form o
  have hz2 := a2.size
  have r2 := boxA R1.out a2 (.inl (by omega))
  have B2 := Lib.hid (B1.out.trans (a2.below (B := w.heap.size) (by omega) (by omega)))
  have O2 := Lib.hid o
  have HL := Lib.hid hl9
  have e0 : w2.cell? ⟨w.heap.size, 0, none⟩ = some (.int .i64 0) := r2.cell 0
  have e1 : w2.cell? ⟨w.heap.size, 1, none⟩ = some (.slice none 0 0) := r2.cell 1
  have f0 := r2.free 0
  have f1 := r2.free 1
  clear o c2 a2 c1 r2 hl9
  go_wp2_with fail
  refine bodyPost_ret (v := ctx a (.slice av rs.length cv)) (by simp [results, Tryz.results5, go_sem, e0, e1]) rfl ⟨a, _, rs, rfl, HL.out, ?_, ((B2.out.setCell (p := ⟨w.heap.size, 0, none⟩) (Nat.le_refl _) _).setCell (p := ⟨w.heap.size, 1, none⟩) (Nat.le_refl _) _)⟩
  exact (own_setB (own_setB O2.out (q := ⟨w.heap.size, 0, none⟩) (.inl (by show w.heap.size < _; omega)) _) (q := ⟨w.heap.size, 1, none⟩) (.inl (by show w.heap.size < _; omega)) _).mono (by omega) (by first | (simp; done) | (simp; omega))
theorem DrawComplementContext (v : Value) (xs : List Int) (B : Nat) (w : World) (hr : Reads w B v (u8s xs)) (hB : B ≤ w.heap.size) (hx : ∀ j, j < xs.length → 0 ≤ xs.getD j 0 ∧ xs.getD j 0 ≤ 255) (hn : xs.length ≤ 1048576) :
    Calls Tryz.prog 9 #[v] w fun e w' => ∃ (a : Int) (u : Value) (rs : List Int), e = .returned (ctx a u) ∧ rs.length ≤ 9 ∧ Own 3 w' w.heap.size w'.heap.size u (ints rs) ∧ Below w.heap.size w w' := by
  have HN := Lib.hid (newCur v xs B (w.alloc (.cells #[.int .i64 0, .slice none 0 0] 26)) (hr.below ((Below.refl w.heap.size w).alloc (Nat.le_refl _) _) hB) (by simp; omega) hx hn)
  obtain ⟨_, aa, ca, rfl, hca⟩ := hr
  have e0 : (u8s xs).length = xs.length := by simp [u8s]
  rw [e0] at HN ⊢
  clear hca hx e0
  go_enter Tryz.func9, Tryz.ntmps9
  go_wp2_with fail
  refine HN.out.mono ?_
  rintro e w1 ⟨p, rfl, hp, c1, hz, b1⟩
  have hp' : w.heap.size + 1 ≤ p := by simpa using hp
  have hz1 : w.heap.size + 2 ≤ w1.heap.size := by simpa using hz
  have hpl := c1.lt
  have R1 := Lib.hid ((BoxAt.new w 26 #[.int .i64 0, .slice none 0 0]).below b1 (by simp))
  have B1 := Lib.hid (((Below.refl w.heap.size w).alloc (Nat.le_refl _) (.cells #[.int .i64 0, .slice none 0 0] 26)).trans (b1.mono (by simp)))
  clear b1 hp hz HN
  go_wp2_with fail
  refine (l3Bent B p _ c1).mono ?_
  rintro e w2 ⟨a, u, rs, rfl, -, -, hl9, o, c2, a2⟩
  obtain ⟨av, cv, rfl⟩ := own_form o
  have hz2 := a2.size
  have r2 := boxA R1.out a2 (.inl (by omega))
  have B2 := Lib.hid (B1.out.trans (a2.below (B := w.heap.size) (by omega) (by omega)))
  have O2 := Lib.hid o
  have HL := Lib.hid hl9
  have e0 : w2.cell? ⟨w.heap.size, 0, none⟩ = some (.int .i64 0) := r2.cell 0
  have e1 : w2.cell? ⟨w.heap.size, 1, none⟩ = some (.slice none 0 0) := r2.cell 1
  have f0 := r2.free 0
  have f1 := r2.free 1
  clear o c2 a2 c1 r2 hl9
  go_wp2_with fail
  refine bodyPost_ret (v := ctx a (.slice av rs.length cv)) (by simp [results, Tryz.results9, go_sem, e0, e1]) rfl ⟨a, _, rs, rfl, HL.out, ?_, ((B2.out.setCell (p := ⟨w.heap.size, 0, none⟩) (Nat.le_refl _) _).setCell (p := ⟨w.heap.size, 1, none⟩) (Nat.le_refl _) _)⟩
  exact (own_setB (own_setB O2.out (q := ⟨w.heap.size, 0, none⟩) (.inl (by show w.heap.size < _; omega)) _) (q := ⟨w.heap.size, 1, none⟩) (.inl (by show w.heap.size < _; omega)) _).mono (by omega) (by first | (simp; done) | (simp; omega))
theorem run_append_zero {P : Program} (w : World) (t ty e : TypeId) (i : TypeInfo) (ht : P.underlying t = some (.slice e)) (hi : P.info? e = some i) (g : Nat) (aa : Option Addr) (ca : Nat) :
    (Builtin.append_ #[t, t] ty #[.slice (some ⟨g, 0, none⟩) 0 0, .slice aa 0 ca]).run P w = .ok (.slice (some ⟨g, 0, none⟩) 0 0) w := by
  cases aa <;> simp [Builtin.append_, run_underlying ht, sizeOf, typeInfo, hi, Builtin.lenOf, Builtin.firstCells, storeCells, loadCells, loadCellsFrom]
theorem step_append_zero {P : Program} (w : World) {ops : Array Oper} {o : Oper} {a : Act} {K : Act → World → Prop} {Q : Exit → Act → World → Prop} {E : Prop} (hgd : o.guard = none) (s x : Operand) (t : TypeId)
    (ho : o.op = .call { callee := .builtin .append, args := #[s, x], argTypes := #[t, t] })
    (e : TypeId) (i : TypeInfo) (ht : P.underlying t = some (.slice e)) (hi : P.info? e = some i) (g : Nat) (hs : a.eval s = .slice (some ⟨g, 0, none⟩) 0 0) (aa : Option Addr) (ca : Nat) (hx : a.eval x = .slice aa 0 ca)
    (h : K (a.put o.dst (.slice (some ⟨g, 0, none⟩) 0 0)) w) :
    if Region.wanted o (yielded ops a.tmps) = true then Oper.wp P o a w K Q else E := by
  have hw : Region.wanted o (yielded ops a.tmps) = true := by simp [Region.wanted, hgd]
  rw [if_pos hw]
  unfold Oper.wp execOp
  simp only [ho, resolve, invoke, builtin, Sem.run_bind, Sem.run_pure, Result.andThen_ok, List.map_toArray, List.map_cons, List.map_nil, hs, hx, run_append_zero w t o.type e i ht hi]
  exact h
set_option maxHeartbeats 1600000 in
theorem l3Copy (a : Int) (v : Value) (rs : List Int) (B : Nat) (w : World) (hr : Reads w B v (ints rs)) (hB : B ≤ w.heap.size) (hl : rs.length ≤ 100) :
    Calls Tryz.prog 33 #[ctx a v] w fun e w' => ∃ u, e = .returned (ctx a u) ∧ Own 3 w' w.heap.size w'.heap.size u (ints rs) ∧ Below w.heap.size w w' := by
  obtain ⟨i0, hi, hz0, hz1, hz2⟩ := info_parts Ints.info
  obtain ⟨aa, ca, rfl⟩ := reads_form hr
  have hW := ((Below.refl w.heap.size w).alloc (Nat.le_refl _) (.cells #[.int .i64 a, .slice aa rs.length ca] 26)).alloc (by simp) (.cells #[.int .i64 0, .slice none 0 0] 26)
  have HR1 := Lib.hid (hr.below hW hB)
  have q0 : ((w.alloc (.cells #[.int .i64 a, .slice aa rs.length ca] 26)).alloc (.cells #[.int .i64 0, .slice none 0 0] 26)).cell? ⟨w.heap.size, 0, none⟩ = some (.int .i64 a) := by simp
  have q1 : ((w.alloc (.cells #[.int .i64 a, .slice aa rs.length ca] 26)).alloc (.cells #[.int .i64 0, .slice none 0 0] 26)).cell? ⟨w.heap.size, 1, none⟩ = some (.slice aa rs.length ca) := by simp
  have hbx : BoxAt ((w.alloc (.cells #[.int .i64 a, .slice aa rs.length ca] 26)).alloc (.cells #[.int .i64 0, .slice none 0 0] 26)) (w.heap.size + 1) 26 #[.int .i64 0, .slice none 0 0] := by
    have := BoxAt.new (w.alloc (.cells #[.int .i64 a, .slice aa rs.length ca] 26)) 26 #[.int .i64 0, .slice none 0 0]; simpa using this
  have hz : w.heap.size + 2 ≤ ((w.alloc (.cells #[.int .i64 a, .slice aa rs.length ca] 26)).alloc (.cells #[.int .i64 0, .slice none 0 0] 26)).heap.size := by simp
  clear hr
  go_enter Tryz.func33, Tryz.ntmps33
  go_upto_region 1 with fail
  generalize ((w.alloc (.cells #[.int .i64 a, .slice aa rs.length ca] 26)).alloc (.cells #[.int .i64 0, .slice none 0 0] 26)) = W at HR1 hW q0 q1 hz hbx ⊢
  have HW := Lib.hid hW
  have HBX := Lib.hid hbx
  have e0 : ∀ o, (W.alloc o).cell? ⟨w.heap.size + 1, 0, none⟩ = some (.int .i64 0) := fun o => (hbx.alloc o).cell 0
  have e1 : ∀ o, (W.alloc o).cell? ⟨w.heap.size + 1, 1, none⟩ = some (.slice none 0 0) := fun o => (hbx.alloc o).cell 1
  have g0 : ∀ o, (W.alloc o).frozen? ⟨w.heap.size + 1, 0, none⟩ = false := fun o => (hbx.alloc o).free 0
  have g1 : ∀ o, (W.alloc o).frozen? ⟨w.heap.size + 1, 1, none⟩ = false := fun o => (hbx.alloc o).free 1
  clear hW hbx
  have HO : Hid ((W.alloc (.cells #[] 3)).drew.ownsRow W.heap.size 3 1 (.slice (some ⟨W.heap.size, 0, none⟩) 0 0) 0 []) := Lib.hid (World.ownsRow_lit W.drew (e := 3) (size := 1) (base := W.heap.size) #[] 0 (Nat.le_refl _) (Nat.zero_le _) rfl)
  have b3 : Below W.heap.size W (W.alloc (.cells #[] 3)).drew := ((Below.refl W.heap.size W).alloc (Nat.le_refl W.heap.size) (.cells #[] 3)).drew
  have a0 : (W.alloc (.cells #[] 3)).cell? ⟨w.heap.size, 0, none⟩ = some (.int .i64 a) := (b3.cell (p := ⟨w.heap.size, 0, none⟩) (by show w.heap.size < _; omega)).trans q0
  have a1 : (W.alloc (.cells #[] 3)).cell? ⟨w.heap.size, 1, none⟩ = some (.slice aa rs.length ca) := (b3.cell (p := ⟨w.heap.size, 1, none⟩) (by show w.heap.size < _; omega)).trans q1
  by_cases hne : rs = []
  · subst hne
    go_wp2_with fail
    go_region_law (first | (refine step_append_zero _ (by rfl) _ _ _ (by rfl) 3 i0 Tryz.underlying24 hi W.heap.size (by rfl) aa ca (by rfl) ?_) | fail)
    all_goals
      have bx := ((HBX.out.alloc (.cells #[] 3)).set 0 (.int .i64 a)).set 1 (.slice (some ⟨W.heap.size, 0, none⟩) 0 0)
      have z0 := bx.cell 0
      have z1 := bx.cell 1
      simp at z0 z1
      clear bx
      go_wp2_with fail
      refine bodyPost_ret (v := ctx a (.slice (some ⟨W.heap.size, 0, none⟩) 0 0)) (by simp [results, Tryz.results33, go_sem, z0, z1]) rfl ⟨_, rfl, ?_, ?_⟩
      · exact (own_setB (own_setB (Own.made HO.out) (.inl (by show w.heap.size + 1 < _; omega)) _) (.inl (by show w.heap.size + 1 < _; omega)) _).mono (by omega) (by simp)
      · exact ((HW.out.trans (b3.mono (by omega))).setCell (p := ⟨w.heap.size + 1, 0, none⟩) (by show w.heap.size ≤ w.heap.size + 1; omega) _).setCell (p := ⟨w.heap.size + 1, 1, none⟩) (by show w.heap.size ≤ w.heap.size + 1; omega) _
  · obtain ⟨_, _, _, hv, hcells⟩ := HR1.out
    injection hv with e1' e2 e3
    subst e1' e3
    clear e2
    obtain ⟨bk, o, rfl, hb, gca⟩ := hcells (by simpa [ints] using hne)
    have hpos : 0 < rs.length := List.length_pos_iff.2 hne
    have HL : Hid ((ints rs).length = rs.length * 1) := Lib.hid (by simp)
    have HN : Hid (∀ (j : Nat) (u : Value), (ints rs)[j]? = some u → (W.alloc (.cells #[] 3)).drew.cell? ((⟨bk, o, none⟩ : Addr).add j) = some u) := Lib.hid (by
      intro j u hj
      have hlt : j < (ints rs).length := by
        rcases Nat.lt_or_ge j (ints rs).length with h | h
        · exact h
        · rw [List.getElem?_eq_none h] at hj; cases hj
      have := gca j hlt
      rw [hj] at this
      have e := b3.cell (p := ⟨bk, o + j, none⟩) (by show bk < _; omega)
      have hadd : (⟨bk, o, none⟩ : Addr).add j = ⟨bk, o + j, none⟩ := by simp [Addr.add]
      rw [hadd]
      exact e.trans this)
    have H1 : Hid (∀ u ∈ ints rs, u.oneCell' = true) := Lib.hid (by
      intro u hu
      simp [ints] at hu
      obtain ⟨x, _, rfl⟩ := hu
      rfl)
    have HM : Hid (0 + rs.length ≤ maxLen) := Lib.hid (by unfold maxLen; omega)
    have HY : Hid ((0 + rs.length) * 8 ≤ 140737488355328) := Lib.hid (by omega)
    have HZ : Hid (W.heap.size ≤ (W.alloc (.cells #[] 3)).drew.heap.size) := Lib.hid (by simp)
    clear gca hcells hne
    go_wp2_with fail
    go_region_law (first | (refine step_append_lies _ (by rfl) _ _ _ (by rfl) W.heap.size 3 i0 (.int .i64 0) 1 8 Tryz.underlying24 hi hz0 hz1 hz2 rfl (by decide) _ 0 _ (by rfl) HO.out ⟨bk, o, none⟩ rs.length ca (ints rs) (by rfl) HL.out HN.out H1.out hpos HM.out HY.out HZ.out _ rfl ?_; intro g cap w3 hown3 hgrow hat hlt3; have b4 := b3.grown hgrow (by simp) (fun q hq => (HO.out.lt q hq).1); have x4 := (b4.cell (p := ⟨w.heap.size, 0, none⟩) (by show w.heap.size < _; omega)).trans q0; have d4 := HBX.out.below b4 (by omega); have d40 := d4.cell 0; have d41 := d4.cell 1; have d42 := d4.free 0; have d43 := d4.free 1) | fail)
    all_goals
      have bx := (d4.set 0 (.int .i64 a)).set 1 (.slice (some ⟨g, 0, none⟩) (0 + rs.length) cap)
      have z0 := bx.cell 0
      have z1 := bx.cell 1
      simp at z0 z1
      clear bx d40 d41 d42 d43
      go_wp2_with fail
      refine bodyPost_ret (v := ctx a (.slice (some ⟨g, 0, none⟩) (0 + rs.length) cap)) (by simp [results, Tryz.results33, go_sem, z0, z1]) rfl ⟨_, rfl, ?_, ?_⟩
      · exact (own_setB (own_setB (Own.made hown3) (.inl (by show w.heap.size + 1 < _; omega)) _) (.inl (by show w.heap.size + 1 < _; omega)) _).mono (by omega) (by simp)
      · exact ((HW.out.trans (b4.mono (by omega))).setCell (p := ⟨w.heap.size + 1, 0, none⟩) (by show w.heap.size ≤ w.heap.size + 1; omega) _).setCell (p := ⟨w.heap.size + 1, 1, none⟩) (by show w.heap.size ≤ w.heap.size + 1; omega) _
theorem own_form3 {w : World} {lo hi : Nat} {v : Value} {rs : List Int} (h : Mem.Own 3 w lo hi v (ints rs)) : ∃ a n c, v = .slice a n c := let ⟨a, c, e⟩ := own_form h; ⟨a, _, c, e⟩
set_option maxHeartbeats 3200000 in
theorem DrawEqualContext (v : Value) (xs : List Int) (B : Nat) (w : World) (hr : Reads w B v (u8s xs)) (hB : B ≤ w.heap.size) (hx : ∀ j, j < xs.length → 0 ≤ xs.getD j 0 ∧ xs.getD j 0 ≤ 255) (hn : xs.length ≤ 1048576) :
    Calls Tryz.prog 12 #[v] w fun e w' => ∃ (a b : Int) (u v : Value) (rs ss : List Int), e = .returned (.tuple #[ctx a u, ctx b v]) ∧ rs.length ≤ 9 ∧ ss.length ≤ 9 ∧ Mem.Own 3 w' w.heap.size w'.heap.size u (ints rs) ∧ Mem.Own 3 w' w.heap.size w'.heap.size v (ints ss) ∧ Below w.heap.size w w' := by
  have HN := Lib.hid (newCur v xs B ((w.alloc (.cells #[.int .i64 0, .slice none 0 0] 26)).alloc (.cells #[.int .i64 0, .slice none 0 0] 26)) (hr.below (((Below.refl w.heap.size w).alloc (Nat.le_refl _) _).alloc (by simp) _) hB) (by simp; omega) hx hn)
  obtain ⟨_, aa, ca, rfl, hca⟩ := hr
  have e0 : (u8s xs).length = xs.length := by simp [u8s]
  rw [e0] at HN ⊢
  clear hca hx e0
  go_enter Tryz.func12, Tryz.ntmps12
  go_wp2_with fail
  refine HN.out.mono ?_
  rintro e w1 ⟨p, rfl, hp, c1, hz, b1⟩
  have hp' : w.heap.size + 2 ≤ p := by simpa using hp
  have hz1 : w.heap.size + 3 ≤ w1.heap.size := by simpa using hz
  have hpl := c1.lt
  have R1 := Lib.hid (((BoxAt.new w 26 #[.int .i64 0, .slice none 0 0]).alloc (.cells #[.int .i64 0, .slice none 0 0] 26)).below b1 (by simp; omega))
  have S1 : Hid (BoxAt w1 (w.heap.size + 1) 26 #[.int .i64 0, .slice none 0 0]) := Lib.hid ((show BoxAt _ (w.heap.size + 1) _ _ by have := BoxAt.new (w.alloc (.cells #[.int .i64 0, .slice none 0 0] 26)) 26 #[.int .i64 0, .slice none 0 0]; simpa using this).below b1 (by simp))
  have B1 := Lib.hid ((((Below.refl w.heap.size w).alloc (Nat.le_refl _) (.cells #[.int .i64 0, .slice none 0 0] 26)).alloc (by simp) (.cells #[.int .i64 0, .slice none 0 0] 26)).trans (b1.mono (by simp; omega)))
  clear b1 hp hz HN
  go_wp2_with fail
  refine (l3Bent B p _ c1).mono ?_
  rintro e w2 ⟨a, u, rs, rfl, -, -, hl9, o, c2, a2⟩
  obtain ⟨av, cv, rfl⟩ := own_form o
  have hz2 := a2.size
  have R2 := ((boxA R1.out a2 (.inl (by omega))).alloc (.cells #[.int .i64 a, .slice av rs.length cv] 26))
  have S2 := ((boxA S1.out a2 (.inl (by omega))).alloc (.cells #[.int .i64 a, .slice av rs.length cv] 26))
  have B2 := Lib.hid ((B1.out.trans (a2.below (B := w.heap.size) (by omega) (by omega))).alloc (by omega : w.heap.size ≤ w2.heap.size) (.cells #[.int .i64 a, .slice av rs.length cv] 26))
  have G2 := BoxAt.new w2 26 #[.int .i64 a, .slice av rs.length cv]
  have O2 := Lib.hid ((o.below ((Below.refl w2.heap.size w2).alloc (Nat.le_refl _) (.cells #[.int .i64 a, .slice av rs.length cv] 26)) (Nat.le_refl _)).mono (lo' := w1.heap.size) (Nat.le_refl _) (Nat.le_refl _))
  have C2 := c2.alloc (.cells #[.int .i64 a, .slice av rs.length cv] 26)
  have hg0 : w2.heap.size < (w2.alloc (.cells #[.int .i64 a, .slice av rs.length cv] 26)).heap.size := by simp
  clear o c2 a2 c1
  go_upto_region 3 with fail
  generalize w2.alloc (.cells #[.int .i64 a, .slice av rs.length cv] 26) = W at R2 S2 B2 G2 O2 C2 hg0 ⊢
  obtain ⟨g, hg⟩ : ∃ g, w2.heap.size = g := ⟨_, rfl⟩
  rw [hg] at G2 O2 hg0 hz2 ⊢
  clear hg
  go_wp2_with fail
  refine (l1Once B p 2 _ C2 (by omega) (by omega)).mono ?_
  rintro e w3 ⟨x, rfl, c3, a3⟩
  have HL9 := Lib.hid hl9
  have hz3 := a3.size
  obtain ⟨n, hn'⟩ : ∃ n, rs.length = n := ⟨_, rfl⟩
  have HNN := Lib.hid hn'
  rw [hn'] at G2 O2 ⊢
  clear hn' hl9
  have R3 := Lib.hid (boxA R2 a3 (.inl (by omega))).drew
  have S3 := Lib.hid (boxA S2 a3 (.inl (by omega))).drew
  have G3 := Lib.hid (boxA G2 a3 (.inr (by omega))).drew
  have B3 := Lib.hid (B2.out.trans (a3.below (B := w.heap.size) (by omega) (by omega))).drew
  have hzd : w3.drew.heap.size = w3.heap.size := rfl
  have O3 := Lib.hid ((O2.out.apart a3 (.inr (by omega))).below (Below.refl g w3).drew (Nat.le_refl _))
  have C3 := Lib.hid (PastC.start c3).drew.c
  rw [show (PastC.start c3).drew.w = w3.drew from rfl] at C3
  have q0 : w3.cell? ⟨g, 0, none⟩ = some (.int .i64 a) := G3.out.cell 0
  have q1 : w3.cell? ⟨g, 1, none⟩ = some (.slice av n cv) := G3.out.cell 1
  have r0 : w3.cell? ⟨w.heap.size, 0, none⟩ = some (.int .i64 0) := R3.out.cell 0
  have r1 : w3.cell? ⟨w.heap.size, 1, none⟩ = some (.slice none 0 0) := R3.out.cell 1
  have r2 : w3.frozen? ⟨w.heap.size, 0, none⟩ = false := R3.out.free 0
  have r3 : w3.frozen? ⟨w.heap.size, 1, none⟩ = false := R3.out.free 1
  have s0 : w3.cell? ⟨w.heap.size + 1, 0, none⟩ = some (.int .i64 0) := S3.out.cell 0
  have s1 : w3.cell? ⟨w.heap.size + 1, 1, none⟩ = some (.slice none 0 0) := S3.out.cell 1
  have s2 : w3.frozen? ⟨w.heap.size + 1, 0, none⟩ = false := S3.out.free 0
  have s3 : w3.frozen? ⟨w.heap.size + 1, 1, none⟩ = false := S3.out.free 1
  clear R2 S2 G2 B2 O2 C2 a3 c3 R1 S1 B1
  obtain ⟨Ws, hWs⟩ : ∃ Ws, (w3.drew.setCell ⟨w.heap.size, 0, none⟩ (.int .i64 a)).setCell ⟨w.heap.size, 1, none⟩ (.slice av n cv) = Ws := ⟨_, rfl⟩
  have hzs : Ws.heap.size = w3.heap.size := by rw [← hWs]; simp
  have RS : Hid (BoxAt Ws w.heap.size 26 #[.int .i64 a, .slice av n cv]) := Lib.hid (by rw [← hWs]; exact (R3.out.set 0 (.int .i64 a)).set 1 (.slice av n cv))
  have SS : Hid (BoxAt Ws (w.heap.size + 1) 26 #[.int .i64 0, .slice none 0 0]) := Lib.hid (by rw [← hWs]; exact (S3.out.far (p := ⟨w.heap.size, 0, none⟩) (by show w.heap.size + 1 ≠ w.heap.size; omega) _).far (p := ⟨w.heap.size, 1, none⟩) (by show w.heap.size + 1 ≠ w.heap.size; omega) _)
  have GS : Hid (BoxAt Ws g 26 #[.int .i64 a, .slice av n cv]) := Lib.hid (by rw [← hWs]; exact (G3.out.far (p := ⟨w.heap.size, 0, none⟩) (by show g ≠ w.heap.size; omega) _).far (p := ⟨w.heap.size, 1, none⟩) (by show g ≠ w.heap.size; omega) _)
  have OS : Hid (Mem.Own 3 Ws w1.heap.size g (.slice av n cv) (ints rs)) := Lib.hid (by rw [← hWs]; exact own_setB (own_setB O3.out (q := ⟨w.heap.size, 0, none⟩) (.inl (by show w.heap.size < _; omega)) _) (q := ⟨w.heap.size, 1, none⟩) (.inl (by show w.heap.size < _; omega)) _)
  have BS : Hid (Below w.heap.size w Ws) := Lib.hid (by rw [← hWs]; exact (B3.out.setCell (p := ⟨w.heap.size, 0, none⟩) (Nat.le_refl _) _).setCell (p := ⟨w.heap.size, 1, none⟩) (Nat.le_refl _) _)
  have CS : Hid (Cur Ws B p) := Lib.hid (by rw [← hWs]; exact curSet2 (curSet2 C3.out (q := ⟨w.heap.size, 0, none⟩) (by show w.heap.size < p; omega) hB _) (q := ⟨w.heap.size, 1, none⟩) (by show w.heap.size < p; omega) hB _)
  cases x with
  | true =>
    have HC4 := Lib.hid (l3Copy a (.slice av n cv) rs g w3.drew O3.out.reads (by omega) (by have := HL9.out; omega))
    have HC5 := Lib.hid (l3Copy a (.slice av n cv) rs g Ws OS.out.reads (by omega) (by have := HL9.out; omega))
    rw [← hWs] at HC5
    go_wp2_with fail
    go_region_with (go_at_call 33; (first | (simp only [hWs] at HC5 ⊢; (with_reducible refine HC5.out.mono ?_); rintro e w5 ⟨u5, rfl, o5, b5⟩; obtain ⟨a5, n5, c5, rfl⟩ := own_form3 o5; have hz5 := b5.size; have G5 := GS.out.below b5 (by omega); have R5 := RS.out.below b5 (by omega); have S5 := SS.out.below b5 (by omega); have O5 := OS.out.below b5 (by omega); have B5 := BS.out.trans (b5.mono (by omega)); have k0 : w5.cell? ⟨g, 0, none⟩ = some (.int .i64 a) := G5.cell 0; have k1 : w5.cell? ⟨g, 1, none⟩ = some (.slice av n cv) := G5.cell 1; have t0 : w5.cell? ⟨w.heap.size, 0, none⟩ = some (.int .i64 a) := R5.cell 0; have t1 : w5.cell? ⟨w.heap.size, 1, none⟩ = some (.slice av n cv) := R5.cell 1; have t2 := R5.free 0; have t3 := R5.free 1; have y0 : w5.cell? ⟨w.heap.size + 1, 0, none⟩ = some (.int .i64 0) := S5.cell 0; have y1 : w5.cell? ⟨w.heap.size + 1, 1, none⟩ = some (.slice none 0 0) := S5.cell 1; have y2 := S5.free 0; have y3 := S5.free 1) | ((with_reducible refine HC4.out.mono ?_); rintro e w5 ⟨u5, rfl, o5, b5⟩; obtain ⟨a5, n5, c5, rfl⟩ := own_form3 o5; have hz5 := b5.size; have G5 := G3.out.below b5 (by omega); have R5 := R3.out.below b5 (by omega); have S5 := S3.out.below b5 (by omega); have O5 := O3.out.below b5 (by omega); have B5 := B3.out.trans (b5.mono (by omega)); have k0 : w5.cell? ⟨g, 0, none⟩ = some (.int .i64 a) := G5.cell 0; have k1 : w5.cell? ⟨g, 1, none⟩ = some (.slice av n cv) := G5.cell 1; have t0 : w5.cell? ⟨w.heap.size, 0, none⟩ = some (.int .i64 0) := R5.cell 0; have t1 : w5.cell? ⟨w.heap.size, 1, none⟩ = some (.slice none 0 0) := R5.cell 1; have t2 := R5.free 0; have t3 := R5.free 1; have y0 : w5.cell? ⟨w.heap.size + 1, 0, none⟩ = some (.int .i64 0) := S5.cell 0; have y1 : w5.cell? ⟨w.heap.size + 1, 1, none⟩ = some (.slice none 0 0) := S5.cell 1; have y2 := S5.free 0; have y3 := S5.free 1)))
    all_goals go_wp2_with fail
    all_goals refine bodyPost_ret (v := .tuple #[ctx a (.slice av n cv), ctx a (.slice a5 n5 c5)]) (by simp [results, Tryz.results12, go_sem, t0, t1, y0, y1]) rfl ⟨a, a, _, _, rs, rs, rfl, HL9.out, HL9.out, ?_, ?_, ?_⟩
    all_goals first
      | (refine Mem.Own.mono (lo := w1.heap.size) (hi := g) ?_ (by omega) (by simp; omega); (repeat (refine own_setB ?_ (.inl (by first | (show w.heap.size < _; omega) | (show w.heap.size + 1 < _; omega))) _)); exact O5; done)
      | (refine Mem.Own.mono (lo := w3.heap.size) (hi := w5.heap.size) ?_ (by omega) (by simp); (repeat (refine own_setB ?_ (.inl (by first | (show w.heap.size < _; omega) | (show w.heap.size + 1 < _; omega))) _)); exact o5.mono (by omega) (Nat.le_refl _); done)
      | ((repeat (refine Below.setCell ?_ (by first | (show w.heap.size ≤ w.heap.size; omega) | (show w.heap.size ≤ w.heap.size + 1; omega)) _)); exact B5; done)
  | false =>
    have HC4 := Lib.hid (l3Bent B p w3.drew C3.out)
    have HC5 := Lib.hid (l3Bent B p Ws CS.out)
    rw [← hWs] at HC5
    go_wp2_with fail
    go_region_with (go_at_call 25; (first | (simp only [hWs] at HC5 ⊢; (with_reducible refine HC5.out.mono ?_); rintro e w5 ⟨b, u5, ss, rfl, -, -, hl5, o5, -, a5'⟩; obtain ⟨a5, n5, c5, rfl⟩ := own_form3 o5; have hz5 := a5'.size; have G5 := boxA GS.out a5' (.inr (by omega)); have R5 := boxA RS.out a5' (.inl (by omega)); have S5 := boxA SS.out a5' (.inl (by omega)); have O5 := OS.out.apart a5' (.inr (by omega)); have B5 := BS.out.trans (a5'.below (B := w.heap.size) (by omega) (by omega)); have k0 : w5.cell? ⟨g, 0, none⟩ = some (.int .i64 a) := G5.cell 0; have k1 : w5.cell? ⟨g, 1, none⟩ = some (.slice av n cv) := G5.cell 1; have t0 : w5.cell? ⟨w.heap.size, 0, none⟩ = some (.int .i64 a) := R5.cell 0; have t1 : w5.cell? ⟨w.heap.size, 1, none⟩ = some (.slice av n cv) := R5.cell 1; have t2 := R5.free 0; have t3 := R5.free 1; have y0 : w5.cell? ⟨w.heap.size + 1, 0, none⟩ = some (.int .i64 0) := S5.cell 0; have y1 : w5.cell? ⟨w.heap.size + 1, 1, none⟩ = some (.slice none 0 0) := S5.cell 1; have y2 := S5.free 0; have y3 := S5.free 1) | ((with_reducible refine HC4.out.mono ?_); rintro e w5 ⟨b, u5, ss, rfl, -, -, hl5, o5, -, a5'⟩; obtain ⟨a5, n5, c5, rfl⟩ := own_form3 o5; have hz5 := a5'.size; have G5 := boxA G3.out a5' (.inr (by omega)); have R5 := boxA R3.out a5' (.inl (by omega)); have S5 := boxA S3.out a5' (.inl (by omega)); have O5 := O3.out.apart a5' (.inr (by omega)); have B5 := B3.out.trans (a5'.below (B := w.heap.size) (by omega) (by omega)); have k0 : w5.cell? ⟨g, 0, none⟩ = some (.int .i64 a) := G5.cell 0; have k1 : w5.cell? ⟨g, 1, none⟩ = some (.slice av n cv) := G5.cell 1; have t0 : w5.cell? ⟨w.heap.size, 0, none⟩ = some (.int .i64 0) := R5.cell 0; have t1 : w5.cell? ⟨w.heap.size, 1, none⟩ = some (.slice none 0 0) := R5.cell 1; have t2 := R5.free 0; have t3 := R5.free 1; have y0 : w5.cell? ⟨w.heap.size + 1, 0, none⟩ = some (.int .i64 0) := S5.cell 0; have y1 : w5.cell? ⟨w.heap.size + 1, 1, none⟩ = some (.slice none 0 0) := S5.cell 1; have y2 := S5.free 0; have y3 := S5.free 1)))
    all_goals go_wp2_with fail
    all_goals refine bodyPost_ret (v := .tuple #[ctx a (.slice av n cv), ctx b (.slice a5 n5 c5)]) (by simp [results, Tryz.results12, go_sem, t0, t1, y0, y1]) rfl ⟨a, b, _, _, rs, ss, rfl, HL9.out, hl5, ?_, ?_, ?_⟩
    all_goals first
      | (refine Mem.Own.mono (lo := w1.heap.size) (hi := g) ?_ (by omega) (by simp; omega); (repeat (refine own_setB ?_ (.inl (by first | (show w.heap.size < _; omega) | (show w.heap.size + 1 < _; omega))) _)); exact O5; done)
      | (refine Mem.Own.mono (lo := w3.heap.size) (hi := w5.heap.size) ?_ (by omega) (by simp); (repeat (refine own_setB ?_ (.inl (by first | (show w.heap.size < _; omega) | (show w.heap.size + 1 < _; omega))) _)); exact o5.mono (by omega) (Nat.le_refl _); done)
      | ((repeat (refine Below.setCell ?_ (by first | (show w.heap.size ≤ w.heap.size; omega) | (show w.heap.size ≤ w.heap.size + 1; omega)) _)); exact B5; done)
end Go.Proofs.YtkdnjebjbadloaaGreatDoor.Draw
