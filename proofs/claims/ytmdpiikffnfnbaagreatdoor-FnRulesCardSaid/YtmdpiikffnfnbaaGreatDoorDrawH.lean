/-
  A rule and a context for the law of rules: DrawHoldsIn.
-/
import Derived.Test.YtmdpiikffnfnbaaGreatDoorDrawR
namespace Go.Proofs.YtmdpiikffnfnbaaGreatDoor.Draw
open Go Go.RowKit Mem Sets Elems Text Strs Ctx Rule Joins
set_option maxRecDepth 100000
attribute [local go_sem ↓] Go.wp_at_zero Go.wp_at_succ

set_option maxHeartbeats 6400000 in
theorem DrawHoldsIn (v : Value) (xs : List Int) (B : Nat) (w : World) (hr : Reads w B v (u8s xs)) (hB : B ≤ w.heap.size) (hx : ∀ j, j < xs.length → 0 ≤ xs.getD j 0 ∧ xs.getD j 0 ≤ 255) (hn : xs.length ≤ 1048576) :
    Calls Tryz.prog 5 #[v] w fun e w' => ∃ (a : Int) (u : Value) (rs : List Int) (r : PInt), e = .returned (.tuple #[ctx a u, Rule.mk r]) ∧ rs.length ≤ 9 ∧ Own 3 w' w.heap.size w'.heap.size u (ints rs) ∧ Below w.heap.size w w' := by
  have hW2 : Below w.heap.size w ((w.alloc (.cells #[.int .i64 0, .slice none 0 0] 26)).alloc (.cells #[.int .i64 0, .int .i64 0] 28)) := ((Below.refl w.heap.size w).alloc (Nat.le_refl _) _).alloc (by simp) _
  have HN := Lib.hid (newCur v xs B _ (hr.below hW2 hB) (by simp; omega) hx hn)
  have hb0 : BoxAt ((w.alloc (.cells #[.int .i64 0, .slice none 0 0] 26)).alloc (.cells #[.int .i64 0, .int .i64 0] 28)) w.heap.size 26 #[.int .i64 0, .slice none 0 0] := (BoxAt.new w _ _).alloc _
  have hb1 : BoxAt ((w.alloc (.cells #[.int .i64 0, .slice none 0 0] 26)).alloc (.cells #[.int .i64 0, .int .i64 0] 28)) (w.heap.size + 1) 28 #[.int .i64 0, .int .i64 0] := by
    have := BoxAt.new (w.alloc (.cells #[.int .i64 0, .slice none 0 0] 26)) 28 #[.int .i64 0, .int .i64 0]; simpa using this
  have hz0 : w.heap.size + 2 ≤ ((w.alloc (.cells #[.int .i64 0, .slice none 0 0] 26)).alloc (.cells #[.int .i64 0, .int .i64 0] 28)).heap.size := by simp
  obtain ⟨_, aa, ca, rfl, hca⟩ := hr
  have e0 : (u8s xs).length = xs.length := by simp [u8s]
  rw [e0] at HN ⊢
  clear hca hx e0
  go_enter Tryz.func5, Tryz.ntmps5
  go_upto_region 1 with fail
  generalize ((w.alloc (.cells #[.int .i64 0, .slice none 0 0] 26)).alloc (.cells #[.int .i64 0, .int .i64 0] 28)) = W at HN hb0 hb1 hW2 hz0 ⊢
  go_wp2_with fail
  refine HN.out.mono ?_
  rintro e w1 ⟨p, rfl, hp, c1, hz, b1⟩
  have hs1 := b1.size
  have hpl := c1.lt
  have X1 := Lib.hid (hb0.below b1 (by omega))
  have Z1 := Lib.hid (hb1.below b1 (by omega))
  have B1 := Lib.hid (hW2.trans (b1.mono (by omega)))
  clear b1 HN hb0 hb1 hW2
  go_wp2_with fail
  refine (l3Bent B p _ c1).mono ?_
  rintro e w2 ⟨a, u, rs, rfl, -, -, hl9, o, c2, a2⟩
  obtain ⟨av, cv, rfl⟩ := own_form o
  have hs2 := a2.size
  have X2 := (boxA X1.out a2 (.inl (by omega))).alloc (.cells #[.int .i64 a, .slice av rs.length cv] 26)
  have Z2 := (boxA Z1.out a2 (.inl (by omega))).alloc (.cells #[.int .i64 a, .slice av rs.length cv] 26)
  have B2 := (B1.out.trans (a2.below (B := w.heap.size) (by omega) (by omega))).alloc (by omega : w.heap.size ≤ w2.heap.size) (.cells #[.int .i64 a, .slice av rs.length cv] 26)
  have G2 := BoxAt.new w2 26 #[.int .i64 a, .slice av rs.length cv]
  have O2 := o.below ((Below.refl w2.heap.size w2).alloc (Nat.le_refl _) (.cells #[.int .i64 a, .slice av rs.length cv] 26)) (Nat.le_refl _)
  have C2 := c2.alloc (.cells #[.int .i64 a, .slice av rs.length cv] 26)
  have hg0 : w2.heap.size < (w2.alloc (.cells #[.int .i64 a, .slice av rs.length cv] 26)).heap.size := by simp
  have HL9 := Lib.hid hl9
  clear o c2 a2 c1 hl9 X1 Z1 B1
  go_upto_region 3 with fail
  generalize w2.alloc (.cells #[.int .i64 a, .slice av rs.length cv] 26) = V at X2 Z2 B2 G2 O2 C2 hg0 ⊢
  obtain ⟨g, hg⟩ : ∃ g, w2.heap.size = g := ⟨_, rfl⟩
  rw [hg] at G2 O2 hg0 hs2 ⊢
  clear hg
  have HX2 := Lib.hid X2
  have HZ2 := Lib.hid Z2
  have HB2 := Lib.hid B2
  have HG2 := Lib.hid G2
  have HO2 := Lib.hid O2
  have q0 := G2.cell 0
  simp only [List.getElem?_toArray, List.getElem?_cons_zero] at q0
  clear X2 Z2 B2 G2 O2
  obtain ⟨n, hn6, hmn⟩ : ∃ n : Nat, n ≤ 6 ∧ (if (if a < 6 then a else 6) < 0 then 0 else (if a < 6 then a else 6)) = (n : Int) := by
    by_cases h6 : a < 6
    · rw [if_pos h6]
      by_cases h0 : a < 0
      · exact ⟨0, by omega, by rw [if_pos h0]; rfl⟩
      · exact ⟨a.toNat, by omega, by rw [if_neg h0]; omega⟩
    · rw [if_neg h6]
      exact ⟨6, by omega, rfl⟩
  have hmin := fun w => l1Min a 6 w
  have hmax := fun w => l1Max 0 (if a < 6 then a else 6) w
  rw [hmn] at hmax
  generalize (if a < 6 then a else 6) = m1 at hmin hmax
  have HMin := Lib.hid hmin
  have HMax := Lib.hid hmax
  clear hmn hmin hmax
  go_wp2_with fail
  refine (HMin.out _).mono ?_
  rintro e w' ⟨rfl, hw⟩
  subst w'
  go_wp2_with fail
  refine (HMax.out _).mono ?_
  rintro e w' ⟨rfl, hw⟩
  subst w'
  go_wp2_with fail
  refine (l9Make B p n _ C2 (by omega)).mono ?_
  rintro e w3 ⟨x, y, rfl, hx5, hy5, c3, a3⟩
  have hs3 := a3.size
  have hgp : p < g := by omega
  have X3 := Lib.hid ((boxA HX2.out a3 (.inl (by omega))).alloc (.cells #[.int .i64 x, .int .i64 y] 28))
  have Z3 := Lib.hid ((boxA HZ2.out a3 (.inl (by omega))).alloc (.cells #[.int .i64 x, .int .i64 y] 28))
  have G3 := Lib.hid ((boxA HG2.out a3 (.inr (by omega))).alloc (.cells #[.int .i64 x, .int .i64 y] 28))
  have O3 := Lib.hid ((HO2.out.apart a3 (.inr (by omega))).below ((Below.refl w3.heap.size w3).alloc (Nat.le_refl _) (.cells #[.int .i64 x, .int .i64 y] 28)) (by omega))
  have B3 := Lib.hid ((HB2.out.trans (a3.below (B := w.heap.size) (by omega) (by omega))).alloc (by omega : w.heap.size ≤ w3.heap.size) (.cells #[.int .i64 x, .int .i64 y] 28))
  have Y3 := BoxAt.new w3 28 #[.int .i64 x, .int .i64 y]
  have C3 := c3.alloc (.cells #[.int .i64 x, .int .i64 y] 28)
  have hz3 : w3.heap.size < (w3.alloc (.cells #[.int .i64 x, .int .i64 y] 28)).heap.size := by simp
  clear c3 a3 HX2 HZ2 HG2 HO2 HB2 q0 C2
  go_upto_region 4 with fail
  generalize w3.alloc (.cells #[.int .i64 x, .int .i64 y] 28) = U at X3 Z3 G3 O3 B3 Y3 C3 hz3 ⊢
  obtain ⟨g3, hg3⟩ : ∃ g, w3.heap.size = g := ⟨_, rfl⟩
  rw [hg3] at Y3 hz3 hs3 ⊢
  clear hg3
  have HY3 := Lib.hid Y3
  clear Y3
  go_wp2_with fail
  refine (l1Once B p 3 _ C3 (by omega) (by omega)).mono ?_
  rintro e w5 ⟨b, rfl, -, a5⟩
  have hs5 := a5.size
  have X5 := Lib.hid (boxA X3.out a5 (.inl (by omega)))
  have Z5 := Lib.hid (boxA Z3.out a5 (.inl (by omega)))
  have G5 := Lib.hid (boxA G3.out a5 (.inr (by omega)))
  have Y5 := Lib.hid (boxA HY3.out a5 (.inr (by omega)))
  have O5 := Lib.hid (O3.out.apart a5 (.inr (by omega)))
  have B5 := Lib.hid (B3.out.trans (a5.below (B := w.heap.size) (by omega) (by omega)))
  clear a5 X3 Z3 G3 HY3 O3 B3 C3
  cases b with
  | true =>
    have y0 := Y5.out.cell 0
    have q0 := G5.out.cell 0
    have q1 := G5.out.cell 1
    simp only [List.getElem?_toArray, List.getElem?_cons_zero, List.getElem?_cons_succ] at y0 q0 q1
    go_wp2_with fail
    refine (spec_closure a _ rs x w5.heap.size w5 (O5.out.reads.mono (by omega)) (Nat.le_refl _)).mono ?_
    rintro e w6 ⟨rfl, b6⟩
    have hs6 := b6.size
    have hgg : g < g3 := by omega
    have Y6 := Lib.hid (Y5.out.below b6 (by omega))
    have X6 := Lib.hid ((X5.out.below b6 (by omega)).far (p := ⟨g3, 1, none⟩) (by show w.heap.size ≠ g3; omega) (.int .i64 (closure a rs x)))
    have Z6 := Lib.hid ((Z5.out.below b6 (by omega)).far (p := ⟨g3, 1, none⟩) (by show w.heap.size + 1 ≠ g3; omega) (.int .i64 (closure a rs x)))
    have G6 := Lib.hid ((G5.out.below b6 (by omega)).far (p := ⟨g3, 1, none⟩) (by show g ≠ g3; omega) (.int .i64 (closure a rs x)))
    have B6 := Lib.hid ((B5.out.trans (b6.mono (by omega))).setCell (p := ⟨g3, 1, none⟩) (by show w.heap.size ≤ g3; omega) (.int .i64 (closure a rs x)))
    have O6 := Lib.hid (own_setB (O5.out.below b6 (by omega)) (q := ⟨g3, 1, none⟩) (.inr (by show g ≤ g3; omega)) (.int .i64 (closure a rs x)))
    have y1 := Y6.out.cell 1
    have y2 := Y6.out.free 1
    have Y7 := Lib.hid (Y6.out.set 1 (.int .i64 (closure a rs x)))
    simp only [List.getElem?_toArray, List.getElem?_cons_zero, List.getElem?_cons_succ] at y1
    have hs7 : w6.heap.size = (w6.setCell ⟨g3, 1, none⟩ (.int .i64 (closure a rs x))).heap.size := by simp
    clear b6 Y6 y0 q0 q1 X5 Z5 G5 Y5 O5 B5
    generalize closure a rs x = z at X6 Z6 G6 B6 O6 Y7 hs7 ⊢
    go_upto_region 6 with fail
    generalize w6.setCell ⟨g3, 1, none⟩ (.int .i64 z) = U2 at X6 Z6 G6 B6 O6 Y7 hs7 ⊢
    have q0 := G6.out.cell 0
    have q1 := G6.out.cell 1
    have y0 := Y7.out.cell 0
    have y1 := Y7.out.cell 1
    have s0 := X6.out.cell 0
    have s1 := X6.out.cell 1
    have t0 := Z6.out.cell 0
    have t1 := Z6.out.cell 1
    have f0 := X6.out.free 0
    have f1 := X6.out.free 1
    have f2 := Z6.out.free 0
    have f3 := Z6.out.free 1
    simp only [List.getElem?_toArray, List.getElem?_cons_zero, List.getElem?_cons_succ, List.setIfInBounds_toArray, List.set_cons_succ, List.set_cons_zero] at q0 q1 y0 y1 s0 s1 t0 t1
    have HOF := Lib.hid (own_setB (own_setB (own_setB (own_setB O6.out (q := ⟨w.heap.size, 0, none⟩) (.inl (by show w.heap.size < _; omega)) (.int .i64 a)) (q := ⟨w.heap.size, 1, none⟩) (.inl (by show w.heap.size < _; omega)) (.slice av rs.length cv)) (q := ⟨w.heap.size + 1, 0, none⟩) (.inl (by show w.heap.size + 1 < _; omega)) (.int .i64 x)) (q := ⟨w.heap.size + 1, 1, none⟩) (.inl (by show w.heap.size + 1 < _; omega)) (.int .i64 z))
    have HBF := Lib.hid ((((B6.out.setCell (p := ⟨w.heap.size, 0, none⟩) (by show w.heap.size ≤ w.heap.size; omega) (.int .i64 a)).setCell (p := ⟨w.heap.size, 1, none⟩) (by show w.heap.size ≤ w.heap.size; omega) (.slice av rs.length cv)).setCell (p := ⟨w.heap.size + 1, 0, none⟩) (by show w.heap.size ≤ w.heap.size + 1; omega) (.int .i64 x)).setCell (p := ⟨w.heap.size + 1, 1, none⟩) (by show w.heap.size ≤ w.heap.size + 1; omega) (.int .i64 z))
    have XF := ((((X6.out.set 0 (.int .i64 a)).set 1 (.slice av rs.length cv)).far (p := ⟨w.heap.size + 1, 0, none⟩) (by show w.heap.size ≠ w.heap.size + 1; omega) (.int .i64 x)).far (p := ⟨w.heap.size + 1, 1, none⟩) (by show w.heap.size ≠ w.heap.size + 1; omega) (.int .i64 z))
    have ZF := ((((Z6.out.far (p := ⟨w.heap.size, 0, none⟩) (by show w.heap.size + 1 ≠ w.heap.size; omega) (.int .i64 a)).far (p := ⟨w.heap.size, 1, none⟩) (by show w.heap.size + 1 ≠ w.heap.size; omega) (.slice av rs.length cv)).set 0 (.int .i64 x)).set 1 (.int .i64 z))
    have x0 := XF.cell 0
    have x1 := XF.cell 1
    have z0 := ZF.cell 0
    have z1 := ZF.cell 1
    simp only [List.getElem?_toArray, List.getElem?_cons_zero, List.getElem?_cons_succ, List.setIfInBounds_toArray, List.set_cons_succ, List.set_cons_zero] at x0 x1 z0 z1
    have hsz : ((((U2.setCell ⟨w.heap.size, 0, none⟩ (.int .i64 a)).setCell ⟨w.heap.size, 1, none⟩ (.slice av rs.length cv)).setCell ⟨w.heap.size + 1, 0, none⟩ (.int .i64 x)).setCell ⟨w.heap.size + 1, 1, none⟩ (.int .i64 z)).heap.size = U2.heap.size := by simp
    clear XF ZF
    go_wp2_with fail
    go_region
    go_wp2_with fail
    generalize ((((U2.setCell ⟨w.heap.size, 0, none⟩ (.int .i64 a)).setCell ⟨w.heap.size, 1, none⟩ (.slice av rs.length cv)).setCell ⟨w.heap.size + 1, 0, none⟩ (.int .i64 x)).setCell ⟨w.heap.size + 1, 1, none⟩ (.int .i64 z)) = F at HOF HBF x0 x1 z0 z1 hsz ⊢
    refine bodyPost_ret (v := .tuple #[ctx a (.slice av rs.length cv), Rule.mk ((x : Int), z)]) (by simp [results, Tryz.results5, go_sem, x0, x1, z0, z1, ctx, Rule.mk]) rfl ⟨a, _, rs, _, rfl, HL9.out, ?_, HBF.out.drew⟩
    exact (HOF.out.below ((Below.refl g _).drew) (Nat.le_refl _)).mono (by omega) (by show g ≤ F.heap.size; omega)
  | false =>
    have q0 := G5.out.cell 0
    have q1 := G5.out.cell 1
    have y0 := Y5.out.cell 0
    have y1 := Y5.out.cell 1
    have s0 := X5.out.cell 0
    have s1 := X5.out.cell 1
    have t0 := Z5.out.cell 0
    have t1 := Z5.out.cell 1
    have f0 := X5.out.free 0
    have f1 := X5.out.free 1
    have f2 := Z5.out.free 0
    have f3 := Z5.out.free 1
    simp only [List.getElem?_toArray, List.getElem?_cons_zero, List.getElem?_cons_succ] at q0 q1 y0 y1 s0 s1 t0 t1
    have HOF := Lib.hid (own_setB (own_setB (own_setB (own_setB O5.out (q := ⟨w.heap.size, 0, none⟩) (.inl (by show w.heap.size < _; omega)) (.int .i64 a)) (q := ⟨w.heap.size, 1, none⟩) (.inl (by show w.heap.size < _; omega)) (.slice av rs.length cv)) (q := ⟨w.heap.size + 1, 0, none⟩) (.inl (by show w.heap.size + 1 < _; omega)) (.int .i64 x)) (q := ⟨w.heap.size + 1, 1, none⟩) (.inl (by show w.heap.size + 1 < _; omega)) (.int .i64 y))
    have HBF := Lib.hid ((((B5.out.setCell (p := ⟨w.heap.size, 0, none⟩) (by show w.heap.size ≤ w.heap.size; omega) (.int .i64 a)).setCell (p := ⟨w.heap.size, 1, none⟩) (by show w.heap.size ≤ w.heap.size; omega) (.slice av rs.length cv)).setCell (p := ⟨w.heap.size + 1, 0, none⟩) (by show w.heap.size ≤ w.heap.size + 1; omega) (.int .i64 x)).setCell (p := ⟨w.heap.size + 1, 1, none⟩) (by show w.heap.size ≤ w.heap.size + 1; omega) (.int .i64 y))
    have XF := ((((X5.out.set 0 (.int .i64 a)).set 1 (.slice av rs.length cv)).far (p := ⟨w.heap.size + 1, 0, none⟩) (by show w.heap.size ≠ w.heap.size + 1; omega) (.int .i64 x)).far (p := ⟨w.heap.size + 1, 1, none⟩) (by show w.heap.size ≠ w.heap.size + 1; omega) (.int .i64 y))
    have ZF := ((((Z5.out.far (p := ⟨w.heap.size, 0, none⟩) (by show w.heap.size + 1 ≠ w.heap.size; omega) (.int .i64 a)).far (p := ⟨w.heap.size, 1, none⟩) (by show w.heap.size + 1 ≠ w.heap.size; omega) (.slice av rs.length cv)).set 0 (.int .i64 x)).set 1 (.int .i64 y))
    have x0 := XF.cell 0
    have x1 := XF.cell 1
    have z0 := ZF.cell 0
    have z1 := ZF.cell 1
    simp only [List.getElem?_toArray, List.getElem?_cons_zero, List.getElem?_cons_succ, List.setIfInBounds_toArray, List.set_cons_succ, List.set_cons_zero] at x0 x1 z0 z1
    have hsz : ((((w5.setCell ⟨w.heap.size, 0, none⟩ (.int .i64 a)).setCell ⟨w.heap.size, 1, none⟩ (.slice av rs.length cv)).setCell ⟨w.heap.size + 1, 0, none⟩ (.int .i64 x)).setCell ⟨w.heap.size + 1, 1, none⟩ (.int .i64 y)).heap.size = w5.heap.size := by simp
    clear XF ZF
    go_wp2_with fail
    go_region
    go_wp2_with fail
    generalize ((((w5.setCell ⟨w.heap.size, 0, none⟩ (.int .i64 a)).setCell ⟨w.heap.size, 1, none⟩ (.slice av rs.length cv)).setCell ⟨w.heap.size + 1, 0, none⟩ (.int .i64 x)).setCell ⟨w.heap.size + 1, 1, none⟩ (.int .i64 y)) = F at HOF HBF x0 x1 z0 z1 hsz ⊢
    refine bodyPost_ret (v := .tuple #[ctx a (.slice av rs.length cv), Rule.mk ((x : Int), (y : Int))]) (by simp [results, Tryz.results5, go_sem, x0, x1, z0, z1, ctx, Rule.mk]) rfl ⟨a, _, rs, _, rfl, HL9.out, ?_, HBF.out.drew⟩
    exact (HOF.out.below ((Below.refl g _).drew) (Nat.le_refl _)).mono (by omega) (by show g ≤ F.heap.size; omega)
end Go.Proofs.YtmdpiikffnfnbaaGreatDoor.Draw
