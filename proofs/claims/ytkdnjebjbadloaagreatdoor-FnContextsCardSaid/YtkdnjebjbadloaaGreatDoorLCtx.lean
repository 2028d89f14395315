/-
  The law of contexts: walk.
-/
import Derived.Test.YtkdnjebjbadloaaGreatDoorDraw9
import Derived.Test.YtkdnjebjbadloaaGreatDoorCtxLaws
import Derived.Test.YtkdnjebjbadloaaGreatDoorPctx
import Derived.Test.YtkdnjebjbadloaaGreatDoorPctxSpec
import Derived.Test.YtkdnjebjbadloaaGreatDoorEqual
import Derived.Test.YtkdnjebjbadloaaGreatDoorStdHc
import Derived.Test.YtkdnjebjbadloaaGreatDoorPastI
import Derived.Test.YtkdnjebjbadloaaGreatDoorLBig
import Derived.Deep.DeepCutAuto
namespace Go.Proofs.YtkdnjebjbadloaaGreatDoor.LCtx
open Go Go.RowKit Mem Sets Ctx Draw
set_option maxRecDepth 100000

theorem asCtx {x : Option (Int × List Int)} {n : Int} {xs : List Int} {ok : Bool} (hn : (x.getD (0, [])).1 = n) (hx : (x.getD (0, [])).2 = xs) (ho : x.isSome = ok) {w : World} {e : Ending} {w' : World} (h : CtxRes x w e w') :
    ∃ p c, e = .returned (.tuple #[ctx n (.slice p xs.length c), .bool ok]) ∧ Mem.Own 3 w' w.heap.size w'.heap.size (.slice p xs.length c) (ints xs) ∧ Below w.heap.size w w' := by
  subst hn hx ho
  obtain ⟨u, he, o, b⟩ := h
  obtain ⟨p, c, rfl⟩ := own_form o
  exact ⟨p, c, he, o, b⟩
theorem opt_some {x : Option (Int × List Int)} {n : Int} {xs : List Int} (hn : (x.getD (0, [])).1 = n) (hx : (x.getD (0, [])).2 = xs) (ho : x.isSome = true) : x = some (n, xs) := by
  cases x with
  | none => cases ho
  | some p => obtain ⟨a, b⟩ := p; simp only [Option.getD_some] at hn hx; rw [hn, hx]
theorem again {x : Option (Int × List Int)} {n m : Int} {xs ys : List Int} {ok : Bool} (hn : (x.getD (0, [])).1 = n) (hx : (x.getD (0, [])).2 = xs) (ho : x.isSome = ok) (h : x = some (m, ys)) : n = m ∧ xs = ys ∧ ok = true := by
  subst h hn hx ho
  exact ⟨rfl, rfl, rfl⟩
theorem someCtx {x : Option (Int × List Int)} {n : Int} {xs : List Int} (hx : x = some (n, xs)) {w : World} {e : Ending} {w' : World} (h : CtxRes x w e w') :
    ∃ p c, e = .returned (.tuple #[ctx n (.slice p xs.length c), .bool true]) ∧ Mem.Own 3 w' w.heap.size w'.heap.size (.slice p xs.length c) (ints xs) ∧ Below w.heap.size w w' := by
  subst hx
  obtain ⟨u, he, o, b⟩ := h
  obtain ⟨p, c, rfl⟩ := own_form o
  exact ⟨p, c, he, o, b⟩
theorem read_text {a : Int} {rs : List Int} {n : Int} {xs : List Int} {ok : Bool} (hn : ((Pctx.prog (CtxText.ctxText a rs)).getD (0, [])).1 = n) (hx : ((Pctx.prog (CtxText.ctxText a rs)).getD (0, [])).2 = xs) (ho : (Pctx.prog (CtxText.ctxText a rs)).isSome = ok) :
    ok = isCtx a rs ∧ (ok = true → n = a ∧ xs = rs) := by
  subst hn hx ho
  rw [CtxLaws.prog_text]
  cases isCtx a rs <;> simp
theorem text_len {a : Int} {rs : List Int} : (CtxText.ctxText a rs).length ≤ 1048576 := by
  unfold CtxText.ctxText
  split
  · rename_i h
    obtain ⟨h0, h6, h8, -⟩ := isCtx_parts h
    obtain ⟨n, rfl⟩ := Int.eq_ofNat_of_zero_le h0
    have h1 := CtxText.itoa_small n (by omega)
    have h2 := len_setsText rs
    simp only [List.length_append, List.length_cons, List.length_nil, h1]
    omega
  · simp
set_option maxHeartbeats 16000000 in
theorem walk (v : Value) (xs : List Int) (w : World) (hr : Reads w w.heap.size v (u8s xs)) (hx : ∀ j, j < xs.length → 0 ≤ xs.getD j 0 ∧ xs.getD j 0 ≤ 255) (hs : NumParse.Std w) (hS : w.ShapedOpen Tryz.prog) (hg : w.cell? ⟨0, 0, none⟩ = some (.iface 101 (.agg #[As.hd 56]))) :
    Calls Tryz.prog 3 #[v] w fun e w' => e = .returned (.bool true) ∧ Below w.heap.size w w' := by
  have e0 : (u8s xs).length = xs.length := by simp [u8s]
  have HB := Lib.hid (LBig.isBig v (u8s xs) _ w hr)
  by_cases hlen : 1048576 < xs.length
  · have hd : decide (1048576 < (u8s xs).length) = true := by rw [e0]; simp; omega
    clear hr hx
    go_enter Tryz.func3, Tryz.ntmps3
    go_wp2_with fail
    refine HB.out.mono ?_
    rintro e w' ⟨rfl, hw⟩
    subst w'
    go_wp2_with fail
    go_ret
    exact ⟨rfl, Below.refl _ _⟩
  · have hd : decide (1048576 < (u8s xs).length) = false := by rw [e0]; simp; omega
    have HX := Lib.hid hx
    have HSTD := Lib.hid hs
    have HSH := Lib.hid hS
    have HG := Lib.hid hg
    clear hs hS hg
    have R0_0 := Lib.hid hr
    have hR0_0 : w.heap.size ≤ w.heap.size := Nat.le_refl _
    have Bw0 := Lib.hid (Below.refl w.heap.size w)
    clear hr hx e0
    go_enter Tryz.func3, Tryz.ntmps3
    go_wp2_with fail
    refine HB.out.mono ?_
    rintro e w' ⟨rfl, hw⟩
    subst w'
    clear HB hd
    go_wp2_with fail
    refine (DrawDualContext v xs w.heap.size (Past.start w).w (Past.reads R0_0.out hR0_0 (Past.start w)) (Past.len hR0_0 (Past.start w)) HX.out (by omega)).mono ?_
    rintro e w1 ⟨a1, u1, r1, rfl, -, o1, b1⟩
    obtain ⟨p1, q1, rfl⟩ := own_form o1
    have hA1 := (Below.refl w1.heap.size w1).alloc (Nat.le_refl _) (.cells #[.int .i64 a1, .slice p1 r1.length q1] 26)
    go_upto_region 4 with fail
    have hs1 : w1.heap.size < (w1.alloc (.cells #[.int .i64 a1, .slice p1 r1.length q1] 26)).heap.size := by simp
    have G1 := BoxAt.new w1 26 #[.int .i64 a1, .slice p1 r1.length q1]
    have bb1 := (Past.start w).h.trans ((b1.trans (hA1.mono b1.size)).mono (Past.start w).h.size)
    have sz1 := bb1.size
    have R1_0 := Lib.hid (R0_0.out.below bb1 hR0_0)
    have hR1_0 : w.heap.size ≤ (w1.alloc (.cells #[.int .i64 a1, .slice p1 r1.length q1] 26)).heap.size := Nat.le_trans hR0_0 sz1
    have Bw1 := Lib.hid (Bw0.out.trans (bb1.mono Bw0.out.size))
    have c1_0 : (w1.alloc (.cells #[.int .i64 a1, .slice p1 r1.length q1] 26)).cell? ⟨w1.heap.size, 0, none⟩ = some (.int .i64 a1) := G1.cell 0
    have hc1_0 : w1.heap.size < (w1.alloc (.cells #[.int .i64 a1, .slice p1 r1.length q1] 26)).heap.size := hs1
    have c1_1 : (w1.alloc (.cells #[.int .i64 a1, .slice p1 r1.length q1] 26)).cell? ⟨w1.heap.size, 1, none⟩ = some (.slice p1 r1.length q1) := G1.cell 1
    have hc1_1 : w1.heap.size < (w1.alloc (.cells #[.int .i64 a1, .slice p1 r1.length q1] 26)).heap.size := hs1
    have R1_1 := Lib.hid (o1.reads.below hA1 (Nat.le_refl _))
    have hR1_1 : w1.heap.size ≤ (w1.alloc (.cells #[.int .i64 a1, .slice p1 r1.length q1] 26)).heap.size := Nat.le_of_lt hs1
    generalize w1.alloc (.cells #[.int .i64 a1, .slice p1 r1.length q1] 26) = W1 at bb1 sz1 R1_0 hR1_0 Bw1 c1_0 hc1_0 c1_1 hc1_1 R1_1 hR1_1 ⊢
    clear bb1 sz1
    clear R0_0 hR0_0 Bw0 G1 o1 b1 hA1 hs1
    generalize w1.heap.size = g1 at *
    have k1_0 := fun p : Past W1 => Past.cell (W := W1) c1_0 hc1_0 p
    have k1_1 := fun p : Past W1 => Past.cell (W := W1) c1_1 hc1_1 p
    obtain ⟨a2, hn2⟩ : ∃ n, ((dual a1 r1).getD (0, [])).1 = n := ⟨_, rfl⟩
    obtain ⟨r2, hr2⟩ : ∃ n, ((dual a1 r1).getD (0, [])).2 = n := ⟨_, rfl⟩
    obtain ⟨k2, hk2⟩ : ∃ n, (dual a1 r1).isSome = n := ⟨_, rfl⟩
    have EN2 := Lib.hid hn2
    have ER2 := Lib.hid hr2
    have EK2 := Lib.hid hk2
    clear hn2 hr2 hk2
    go_wp2_with fail
    refine (impl_dual a1 _ r1 g1 (Past.start W1).w (Past.reads R1_1.out hR1_1 (Past.start W1)) (Past.len hR1_1 (Past.start W1))).mono ?_
    rintro e w2 hres
    obtain ⟨p2, q2, rfl, o2, b2⟩ := asCtx EN2.out ER2.out EK2.out hres
    clear hres
    have hA2 := (Below.refl w2.heap.size w2).alloc (Nat.le_refl _) (.cells #[.int .i64 a2, .slice p2 r2.length q2] 26)
    go_upto_region 5 with fail
    have hs2 : w2.heap.size < (w2.alloc (.cells #[.int .i64 a2, .slice p2 r2.length q2] 26)).heap.size := by simp
    have G2 := BoxAt.new w2 26 #[.int .i64 a2, .slice p2 r2.length q2]
    have bb2 := (Past.start W1).h.trans ((b2.trans (hA2.mono b2.size)).mono (Past.start W1).h.size)
    have sz2 := bb2.size
    have c2_0 : (w2.alloc (.cells #[.int .i64 a2, .slice p2 r2.length q2] 26)).cell? ⟨g1, 0, none⟩ = some (.int .i64 a1) := (bb2.cell (p := ⟨g1, 0, none⟩) hc1_0).trans c1_0
    have hc2_0 : g1 < (w2.alloc (.cells #[.int .i64 a2, .slice p2 r2.length q2] 26)).heap.size := Nat.lt_of_lt_of_le hc1_0 sz2
    have c2_1 : (w2.alloc (.cells #[.int .i64 a2, .slice p2 r2.length q2] 26)).cell? ⟨g1, 1, none⟩ = some (.slice p1 r1.length q1) := (bb2.cell (p := ⟨g1, 1, none⟩) hc1_1).trans c1_1
    have hc2_1 : g1 < (w2.alloc (.cells #[.int .i64 a2, .slice p2 r2.length q2] 26)).heap.size := Nat.lt_of_lt_of_le hc1_1 sz2
    have R2_0 := Lib.hid (R1_0.out.below bb2 hR1_0)
    have hR2_0 : w.heap.size ≤ (w2.alloc (.cells #[.int .i64 a2, .slice p2 r2.length q2] 26)).heap.size := Nat.le_trans hR1_0 sz2
    have R2_1 := Lib.hid (R1_1.out.below bb2 hR1_1)
    have hR2_1 : g1 ≤ (w2.alloc (.cells #[.int .i64 a2, .slice p2 r2.length q2] 26)).heap.size := Nat.le_trans hR1_1 sz2
    have Bw2 := Lib.hid (Bw1.out.trans (bb2.mono Bw1.out.size))
    have c2_2 : (w2.alloc (.cells #[.int .i64 a2, .slice p2 r2.length q2] 26)).cell? ⟨w2.heap.size, 0, none⟩ = some (.int .i64 a2) := G2.cell 0
    have hc2_2 : w2.heap.size < (w2.alloc (.cells #[.int .i64 a2, .slice p2 r2.length q2] 26)).heap.size := hs2
    have c2_3 : (w2.alloc (.cells #[.int .i64 a2, .slice p2 r2.length q2] 26)).cell? ⟨w2.heap.size, 1, none⟩ = some (.slice p2 r2.length q2) := G2.cell 1
    have hc2_3 : w2.heap.size < (w2.alloc (.cells #[.int .i64 a2, .slice p2 r2.length q2] 26)).heap.size := hs2
    have R2_2 := Lib.hid (o2.reads.below hA2 (Nat.le_refl _))
    have hR2_2 : w2.heap.size ≤ (w2.alloc (.cells #[.int .i64 a2, .slice p2 r2.length q2] 26)).heap.size := Nat.le_of_lt hs2
    generalize w2.alloc (.cells #[.int .i64 a2, .slice p2 r2.length q2] 26) = W2 at bb2 sz2 c2_0 hc2_0 c2_1 hc2_1 R2_0 hR2_0 R2_1 hR2_1 Bw2 c2_2 hc2_2 c2_3 hc2_3 R2_2 hR2_2 ⊢
    clear bb2 sz2
    clear c1_0 c1_1 hc1_0 hc1_1 R1_0 R1_1 hR1_0 hR1_1 k1_0 k1_1 Bw1 G2 o2 b2 hA2 hs2
    generalize w2.heap.size = g2 at *
    have k2_0 := fun p : Past W2 => Past.cell (W := W2) c2_0 hc2_0 p
    have k2_1 := fun p : Past W2 => Past.cell (W := W2) c2_1 hc2_1 p
    have k2_2 := fun p : Past W2 => Past.cell (W := W2) c2_2 hc2_2 p
    have k2_3 := fun p : Past W2 => Past.cell (W := W2) c2_3 hc2_3 p
    go_wp2_with fail
    refine (spec_dual a1 _ r1 g1 (Past.start W2).w (Past.reads R2_1.out hR2_1 (Past.start W2)) (Past.len hR2_1 (Past.start W2))).mono ?_
    rintro e w3 hres
    obtain ⟨p3, q3, rfl, o3, b3⟩ := asCtx EN2.out ER2.out EK2.out hres
    clear hres
    have hA3 := (Below.refl w3.heap.size w3).alloc (Nat.le_refl _) (.cells #[.int .i64 a2, .slice p3 r2.length q3] 26)
    go_upto_region 6 with fail
    have hs3 : w3.heap.size < (w3.alloc (.cells #[.int .i64 a2, .slice p3 r2.length q3] 26)).heap.size := by simp
    have G3 := BoxAt.new w3 26 #[.int .i64 a2, .slice p3 r2.length q3]
    have bb3 := (Past.start W2).h.trans ((b3.trans (hA3.mono b3.size)).mono (Past.start W2).h.size)
    have sz3 := bb3.size
    have c3_0 : (w3.alloc (.cells #[.int .i64 a2, .slice p3 r2.length q3] 26)).cell? ⟨g1, 0, none⟩ = some (.int .i64 a1) := (bb3.cell (p := ⟨g1, 0, none⟩) hc2_0).trans c2_0
    have hc3_0 : g1 < (w3.alloc (.cells #[.int .i64 a2, .slice p3 r2.length q3] 26)).heap.size := Nat.lt_of_lt_of_le hc2_0 sz3
    have c3_1 : (w3.alloc (.cells #[.int .i64 a2, .slice p3 r2.length q3] 26)).cell? ⟨g1, 1, none⟩ = some (.slice p1 r1.length q1) := (bb3.cell (p := ⟨g1, 1, none⟩) hc2_1).trans c2_1
    have hc3_1 : g1 < (w3.alloc (.cells #[.int .i64 a2, .slice p3 r2.length q3] 26)).heap.size := Nat.lt_of_lt_of_le hc2_1 sz3
    have c3_2 : (w3.alloc (.cells #[.int .i64 a2, .slice p3 r2.length q3] 26)).cell? ⟨g2, 0, none⟩ = some (.int .i64 a2) := (bb3.cell (p := ⟨g2, 0, none⟩) hc2_2).trans c2_2
    have hc3_2 : g2 < (w3.alloc (.cells #[.int .i64 a2, .slice p3 r2.length q3] 26)).heap.size := Nat.lt_of_lt_of_le hc2_2 sz3
    have c3_3 : (w3.alloc (.cells #[.int .i64 a2, .slice p3 r2.length q3] 26)).cell? ⟨g2, 1, none⟩ = some (.slice p2 r2.length q2) := (bb3.cell (p := ⟨g2, 1, none⟩) hc2_3).trans c2_3
    have hc3_3 : g2 < (w3.alloc (.cells #[.int .i64 a2, .slice p3 r2.length q3] 26)).heap.size := Nat.lt_of_lt_of_le hc2_3 sz3
    have R3_0 := Lib.hid (R2_0.out.below bb3 hR2_0)
    have hR3_0 : w.heap.size ≤ (w3.alloc (.cells #[.int .i64 a2, .slice p3 r2.length q3] 26)).heap.size := Nat.le_trans hR2_0 sz3
    have R3_1 := Lib.hid (R2_1.out.below bb3 hR2_1)
    have hR3_1 : g1 ≤ (w3.alloc (.cells #[.int .i64 a2, .slice p3 r2.length q3] 26)).heap.size := Nat.le_trans hR2_1 sz3
    have R3_2 := Lib.hid (R2_2.out.below bb3 hR2_2)
    have hR3_2 : g2 ≤ (w3.alloc (.cells #[.int .i64 a2, .slice p3 r2.length q3] 26)).heap.size := Nat.le_trans hR2_2 sz3
    have Bw3 := Lib.hid (Bw2.out.trans (bb3.mono Bw2.out.size))
    have c3_4 : (w3.alloc (.cells #[.int .i64 a2, .slice p3 r2.length q3] 26)).cell? ⟨w3.heap.size, 0, none⟩ = some (.int .i64 a2) := G3.cell 0
    have hc3_4 : w3.heap.size < (w3.alloc (.cells #[.int .i64 a2, .slice p3 r2.length q3] 26)).heap.size := hs3
    have c3_5 : (w3.alloc (.cells #[.int .i64 a2, .slice p3 r2.length q3] 26)).cell? ⟨w3.heap.size, 1, none⟩ = some (.slice p3 r2.length q3) := G3.cell 1
    have hc3_5 : w3.heap.size < (w3.alloc (.cells #[.int .i64 a2, .slice p3 r2.length q3] 26)).heap.size := hs3
    have R3_3 := Lib.hid (o3.reads.below hA3 (Nat.le_refl _))
    have hR3_3 : w3.heap.size ≤ (w3.alloc (.cells #[.int .i64 a2, .slice p3 r2.length q3] 26)).heap.size := Nat.le_of_lt hs3
    generalize w3.alloc (.cells #[.int .i64 a2, .slice p3 r2.length q3] 26) = W3 at bb3 sz3 c3_0 hc3_0 c3_1 hc3_1 c3_2 hc3_2 c3_3 hc3_3 R3_0 hR3_0 R3_1 hR3_1 R3_2 hR3_2 Bw3 c3_4 hc3_4 c3_5 hc3_5 R3_3 hR3_3 ⊢
    clear bb3 sz3
    clear c2_0 c2_1 c2_2 c2_3 hc2_0 hc2_1 hc2_2 hc2_3 R2_0 R2_1 R2_2 hR2_0 hR2_1 hR2_2 k2_0 k2_1 k2_2 k2_3 Bw2 G3 o3 b3 hA3 hs3
    generalize w3.heap.size = g3 at *
    have k3_0 := fun p : Past W3 => Past.cell (W := W3) c3_0 hc3_0 p
    have k3_1 := fun p : Past W3 => Past.cell (W := W3) c3_1 hc3_1 p
    have k3_2 := fun p : Past W3 => Past.cell (W := W3) c3_2 hc3_2 p
    have k3_3 := fun p : Past W3 => Past.cell (W := W3) c3_3 hc3_3 p
    have k3_4 := fun p : Past W3 => Past.cell (W := W3) c3_4 hc3_4 p
    have k3_5 := fun p : Past W3 => Past.cell (W := W3) c3_5 hc3_5 p
    go_wp2_with fail
    refine (DrawColumnOf v xs w.heap.size (Past.start W3).w (Past.reads R3_0.out hR3_0 (Past.start W3)) (Past.len hR3_0 (Past.start W3)) HX.out (by omega)).mono ?_
    rintro e w4 ⟨a4, x4, u4, r4, rfl, -, o4, b4⟩
    obtain ⟨p4, q4, rfl⟩ := own_form o4
    have hA4 := (Below.refl w4.heap.size w4).alloc (Nat.le_refl _) (.cells #[.int .i64 a4, .slice p4 r4.length q4] 26)
    go_upto_region 7 with fail
    have hs4 : w4.heap.size < (w4.alloc (.cells #[.int .i64 a4, .slice p4 r4.length q4] 26)).heap.size := by simp
    have G4 := BoxAt.new w4 26 #[.int .i64 a4, .slice p4 r4.length q4]
    have bb4 := (Past.start W3).h.trans ((b4.trans (hA4.mono b4.size)).mono (Past.start W3).h.size)
    have sz4 := bb4.size
    have c4_0 : (w4.alloc (.cells #[.int .i64 a4, .slice p4 r4.length q4] 26)).cell? ⟨g1, 0, none⟩ = some (.int .i64 a1) := (bb4.cell (p := ⟨g1, 0, none⟩) hc3_0).trans c3_0
    have hc4_0 : g1 < (w4.alloc (.cells #[.int .i64 a4, .slice p4 r4.length q4] 26)).heap.size := Nat.lt_of_lt_of_le hc3_0 sz4
    have c4_1 : (w4.alloc (.cells #[.int .i64 a4, .slice p4 r4.length q4] 26)).cell? ⟨g1, 1, none⟩ = some (.slice p1 r1.length q1) := (bb4.cell (p := ⟨g1, 1, none⟩) hc3_1).trans c3_1
    have hc4_1 : g1 < (w4.alloc (.cells #[.int .i64 a4, .slice p4 r4.length q4] 26)).heap.size := Nat.lt_of_lt_of_le hc3_1 sz4
    have c4_2 : (w4.alloc (.cells #[.int .i64 a4, .slice p4 r4.length q4] 26)).cell? ⟨g2, 0, none⟩ = some (.int .i64 a2) := (bb4.cell (p := ⟨g2, 0, none⟩) hc3_2).trans c3_2
    have hc4_2 : g2 < (w4.alloc (.cells #[.int .i64 a4, .slice p4 r4.length q4] 26)).heap.size := Nat.lt_of_lt_of_le hc3_2 sz4
    have c4_3 : (w4.alloc (.cells #[.int .i64 a4, .slice p4 r4.length q4] 26)).cell? ⟨g2, 1, none⟩ = some (.slice p2 r2.length q2) := (bb4.cell (p := ⟨g2, 1, none⟩) hc3_3).trans c3_3
    have hc4_3 : g2 < (w4.alloc (.cells #[.int .i64 a4, .slice p4 r4.length q4] 26)).heap.size := Nat.lt_of_lt_of_le hc3_3 sz4
    have c4_4 : (w4.alloc (.cells #[.int .i64 a4, .slice p4 r4.length q4] 26)).cell? ⟨g3, 0, none⟩ = some (.int .i64 a2) := (bb4.cell (p := ⟨g3, 0, none⟩) hc3_4).trans c3_4
    have hc4_4 : g3 < (w4.alloc (.cells #[.int .i64 a4, .slice p4 r4.length q4] 26)).heap.size := Nat.lt_of_lt_of_le hc3_4 sz4
    have c4_5 : (w4.alloc (.cells #[.int .i64 a4, .slice p4 r4.length q4] 26)).cell? ⟨g3, 1, none⟩ = some (.slice p3 r2.length q3) := (bb4.cell (p := ⟨g3, 1, none⟩) hc3_5).trans c3_5
    have hc4_5 : g3 < (w4.alloc (.cells #[.int .i64 a4, .slice p4 r4.length q4] 26)).heap.size := Nat.lt_of_lt_of_le hc3_5 sz4
    have R4_0 := Lib.hid (R3_0.out.below bb4 hR3_0)
    have hR4_0 : w.heap.size ≤ (w4.alloc (.cells #[.int .i64 a4, .slice p4 r4.length q4] 26)).heap.size := Nat.le_trans hR3_0 sz4
    have R4_1 := Lib.hid (R3_1.out.below bb4 hR3_1)
    have hR4_1 : g1 ≤ (w4.alloc (.cells #[.int .i64 a4, .slice p4 r4.length q4] 26)).heap.size := Nat.le_trans hR3_1 sz4
    have R4_2 := Lib.hid (R3_2.out.below bb4 hR3_2)
    have hR4_2 : g2 ≤ (w4.alloc (.cells #[.int .i64 a4, .slice p4 r4.length q4] 26)).heap.size := Nat.le_trans hR3_2 sz4
    have R4_3 := Lib.hid (R3_3.out.below bb4 hR3_3)
    have hR4_3 : g3 ≤ (w4.alloc (.cells #[.int .i64 a4, .slice p4 r4.length q4] 26)).heap.size := Nat.le_trans hR3_3 sz4
    have Bw4 := Lib.hid (Bw3.out.trans (bb4.mono Bw3.out.size))
    have c4_6 : (w4.alloc (.cells #[.int .i64 a4, .slice p4 r4.length q4] 26)).cell? ⟨w4.heap.size, 0, none⟩ = some (.int .i64 a4) := G4.cell 0
    have hc4_6 : w4.heap.size < (w4.alloc (.cells #[.int .i64 a4, .slice p4 r4.length q4] 26)).heap.size := hs4
    have c4_7 : (w4.alloc (.cells #[.int .i64 a4, .slice p4 r4.length q4] 26)).cell? ⟨w4.heap.size, 1, none⟩ = some (.slice p4 r4.length q4) := G4.cell 1
    have hc4_7 : w4.heap.size < (w4.alloc (.cells #[.int .i64 a4, .slice p4 r4.length q4] 26)).heap.size := hs4
    have R4_4 := Lib.hid (o4.reads.below hA4 (Nat.le_refl _))
    have hR4_4 : w4.heap.size ≤ (w4.alloc (.cells #[.int .i64 a4, .slice p4 r4.length q4] 26)).heap.size := Nat.le_of_lt hs4
    generalize w4.alloc (.cells #[.int .i64 a4, .slice p4 r4.length q4] 26) = W4 at bb4 sz4 c4_0 hc4_0 c4_1 hc4_1 c4_2 hc4_2 c4_3 hc4_3 c4_4 hc4_4 c4_5 hc4_5 R4_0 hR4_0 R4_1 hR4_1 R4_2 hR4_2 R4_3 hR4_3 Bw4 c4_6 hc4_6 c4_7 hc4_7 R4_4 hR4_4 ⊢
    clear bb4 sz4
    clear c3_0 c3_1 c3_2 c3_3 c3_4 c3_5 hc3_0 hc3_1 hc3_2 hc3_3 hc3_4 hc3_5 R3_0 R3_1 R3_2 R3_3 hR3_0 hR3_1 hR3_2 hR3_3 k3_0 k3_1 k3_2 k3_3 k3_4 k3_5 Bw3 G4 o4 b4 hA4 hs4
    generalize w4.heap.size = g4 at *
    have k4_0 := fun p : Past W4 => Past.cell (W := W4) c4_0 hc4_0 p
    have k4_1 := fun p : Past W4 => Past.cell (W := W4) c4_1 hc4_1 p
    have k4_2 := fun p : Past W4 => Past.cell (W := W4) c4_2 hc4_2 p
    have k4_3 := fun p : Past W4 => Past.cell (W := W4) c4_3 hc4_3 p
    have k4_4 := fun p : Past W4 => Past.cell (W := W4) c4_4 hc4_4 p
    have k4_5 := fun p : Past W4 => Past.cell (W := W4) c4_5 hc4_5 p
    have k4_6 := fun p : Past W4 => Past.cell (W := W4) c4_6 hc4_6 p
    have k4_7 := fun p : Past W4 => Past.cell (W := W4) c4_7 hc4_7 p
    go_wp2_with fail
    refine (DrawComplementContext v xs w.heap.size (Past.start W4).w (Past.reads R4_0.out hR4_0 (Past.start W4)) (Past.len hR4_0 (Past.start W4)) HX.out (by omega)).mono ?_
    rintro e w5 ⟨a5, u5, r5, rfl, -, o5, b5⟩
    obtain ⟨p5, q5, rfl⟩ := own_form o5
    have hA5 := (Below.refl w5.heap.size w5).alloc (Nat.le_refl _) (.cells #[.int .i64 a5, .slice p5 r5.length q5] 26)
    go_upto_region 8 with fail
    have hs5 : w5.heap.size < (w5.alloc (.cells #[.int .i64 a5, .slice p5 r5.length q5] 26)).heap.size := by simp
    have G5 := BoxAt.new w5 26 #[.int .i64 a5, .slice p5 r5.length q5]
    have bb5 := (Past.start W4).h.trans ((b5.trans (hA5.mono b5.size)).mono (Past.start W4).h.size)
    have sz5 := bb5.size
    have c5_0 : (w5.alloc (.cells #[.int .i64 a5, .slice p5 r5.length q5] 26)).cell? ⟨g1, 0, none⟩ = some (.int .i64 a1) := (bb5.cell (p := ⟨g1, 0, none⟩) hc4_0).trans c4_0
    have hc5_0 : g1 < (w5.alloc (.cells #[.int .i64 a5, .slice p5 r5.length q5] 26)).heap.size := Nat.lt_of_lt_of_le hc4_0 sz5
    have c5_1 : (w5.alloc (.cells #[.int .i64 a5, .slice p5 r5.length q5] 26)).cell? ⟨g1, 1, none⟩ = some (.slice p1 r1.length q1) := (bb5.cell (p := ⟨g1, 1, none⟩) hc4_1).trans c4_1
    have hc5_1 : g1 < (w5.alloc (.cells #[.int .i64 a5, .slice p5 r5.length q5] 26)).heap.size := Nat.lt_of_lt_of_le hc4_1 sz5
    have c5_2 : (w5.alloc (.cells #[.int .i64 a5, .slice p5 r5.length q5] 26)).cell? ⟨g2, 0, none⟩ = some (.int .i64 a2) := (bb5.cell (p := ⟨g2, 0, none⟩) hc4_2).trans c4_2
    have hc5_2 : g2 < (w5.alloc (.cells #[.int .i64 a5, .slice p5 r5.length q5] 26)).heap.size := Nat.lt_of_lt_of_le hc4_2 sz5
    have c5_3 : (w5.alloc (.cells #[.int .i64 a5, .slice p5 r5.length q5] 26)).cell? ⟨g2, 1, none⟩ = some (.slice p2 r2.length q2) := (bb5.cell (p := ⟨g2, 1, none⟩) hc4_3).trans c4_3
    have hc5_3 : g2 < (w5.alloc (.cells #[.int .i64 a5, .slice p5 r5.length q5] 26)).heap.size := Nat.lt_of_lt_of_le hc4_3 sz5
    have c5_4 : (w5.alloc (.cells #[.int .i64 a5, .slice p5 r5.length q5] 26)).cell? ⟨g3, 0, none⟩ = some (.int .i64 a2) := (bb5.cell (p := ⟨g3, 0, none⟩) hc4_4).trans c4_4
    have hc5_4 : g3 < (w5.alloc (.cells #[.int .i64 a5, .slice p5 r5.length q5] 26)).heap.size := Nat.lt_of_lt_of_le hc4_4 sz5
    have c5_5 : (w5.alloc (.cells #[.int .i64 a5, .slice p5 r5.length q5] 26)).cell? ⟨g3, 1, none⟩ = some (.slice p3 r2.length q3) := (bb5.cell (p := ⟨g3, 1, none⟩) hc4_5).trans c4_5
    have hc5_5 : g3 < (w5.alloc (.cells #[.int .i64 a5, .slice p5 r5.length q5] 26)).heap.size := Nat.lt_of_lt_of_le hc4_5 sz5
    have c5_6 : (w5.alloc (.cells #[.int .i64 a5, .slice p5 r5.length q5] 26)).cell? ⟨g4, 0, none⟩ = some (.int .i64 a4) := (bb5.cell (p := ⟨g4, 0, none⟩) hc4_6).trans c4_6
    have hc5_6 : g4 < (w5.alloc (.cells #[.int .i64 a5, .slice p5 r5.length q5] 26)).heap.size := Nat.lt_of_lt_of_le hc4_6 sz5
    have c5_7 : (w5.alloc (.cells #[.int .i64 a5, .slice p5 r5.length q5] 26)).cell? ⟨g4, 1, none⟩ = some (.slice p4 r4.length q4) := (bb5.cell (p := ⟨g4, 1, none⟩) hc4_7).trans c4_7
    have hc5_7 : g4 < (w5.alloc (.cells #[.int .i64 a5, .slice p5 r5.length q5] 26)).heap.size := Nat.lt_of_lt_of_le hc4_7 sz5
    have R5_0 := Lib.hid (R4_0.out.below bb5 hR4_0)
    have hR5_0 : w.heap.size ≤ (w5.alloc (.cells #[.int .i64 a5, .slice p5 r5.length q5] 26)).heap.size := Nat.le_trans hR4_0 sz5
    have R5_1 := Lib.hid (R4_1.out.below bb5 hR4_1)
    have hR5_1 : g1 ≤ (w5.alloc (.cells #[.int .i64 a5, .slice p5 r5.length q5] 26)).heap.size := Nat.le_trans hR4_1 sz5
    have R5_2 := Lib.hid (R4_2.out.below bb5 hR4_2)
    have hR5_2 : g2 ≤ (w5.alloc (.cells #[.int .i64 a5, .slice p5 r5.length q5] 26)).heap.size := Nat.le_trans hR4_2 sz5
    have R5_3 := Lib.hid (R4_3.out.below bb5 hR4_3)
    have hR5_3 : g3 ≤ (w5.alloc (.cells #[.int .i64 a5, .slice p5 r5.length q5] 26)).heap.size := Nat.le_trans hR4_3 sz5
    have R5_4 := Lib.hid (R4_4.out.below bb5 hR4_4)
    have hR5_4 : g4 ≤ (w5.alloc (.cells #[.int .i64 a5, .slice p5 r5.length q5] 26)).heap.size := Nat.le_trans hR4_4 sz5
    have Bw5 := Lib.hid (Bw4.out.trans (bb5.mono Bw4.out.size))
    have c5_8 : (w5.alloc (.cells #[.int .i64 a5, .slice p5 r5.length q5] 26)).cell? ⟨w5.heap.size, 0, none⟩ = some (.int .i64 a5) := G5.cell 0
    have hc5_8 : w5.heap.size < (w5.alloc (.cells #[.int .i64 a5, .slice p5 r5.length q5] 26)).heap.size := hs5
    have c5_9 : (w5.alloc (.cells #[.int .i64 a5, .slice p5 r5.length q5] 26)).cell? ⟨w5.heap.size, 1, none⟩ = some (.slice p5 r5.length q5) := G5.cell 1
    have hc5_9 : w5.heap.size < (w5.alloc (.cells #[.int .i64 a5, .slice p5 r5.length q5] 26)).heap.size := hs5
    have R5_5 := Lib.hid (o5.reads.below hA5 (Nat.le_refl _))
    have hR5_5 : w5.heap.size ≤ (w5.alloc (.cells #[.int .i64 a5, .slice p5 r5.length q5] 26)).heap.size := Nat.le_of_lt hs5
    generalize w5.alloc (.cells #[.int .i64 a5, .slice p5 r5.length q5] 26) = W5 at bb5 sz5 c5_0 hc5_0 c5_1 hc5_1 c5_2 hc5_2 c5_3 hc5_3 c5_4 hc5_4 c5_5 hc5_5 c5_6 hc5_6 c5_7 hc5_7 R5_0 hR5_0 R5_1 hR5_1 R5_2 hR5_2 R5_3 hR5_3 R5_4 hR5_4 Bw5 c5_8 hc5_8 c5_9 hc5_9 R5_5 hR5_5 ⊢
    clear bb5 sz5
    clear c4_0 c4_1 c4_2 c4_3 c4_4 c4_5 c4_6 c4_7 hc4_0 hc4_1 hc4_2 hc4_3 hc4_4 hc4_5 hc4_6 hc4_7 R4_0 R4_1 R4_2 R4_3 R4_4 hR4_0 hR4_1 hR4_2 hR4_3 hR4_4 k4_0 k4_1 k4_2 k4_3 k4_4 k4_5 k4_6 k4_7 Bw4 G5 o5 b5 hA5 hs5
    generalize w5.heap.size = g5 at *
    have k5_0 := fun p : Past W5 => Past.cell (W := W5) c5_0 hc5_0 p
    have k5_1 := fun p : Past W5 => Past.cell (W := W5) c5_1 hc5_1 p
    have k5_2 := fun p : Past W5 => Past.cell (W := W5) c5_2 hc5_2 p
    have k5_3 := fun p : Past W5 => Past.cell (W := W5) c5_3 hc5_3 p
    have k5_4 := fun p : Past W5 => Past.cell (W := W5) c5_4 hc5_4 p
    have k5_5 := fun p : Past W5 => Past.cell (W := W5) c5_5 hc5_5 p
    have k5_6 := fun p : Past W5 => Past.cell (W := W5) c5_6 hc5_6 p
    have k5_7 := fun p : Past W5 => Past.cell (W := W5) c5_7 hc5_7 p
    have k5_8 := fun p : Past W5 => Past.cell (W := W5) c5_8 hc5_8 p
    have k5_9 := fun p : Past W5 => Past.cell (W := W5) c5_9 hc5_9 p
    obtain ⟨a6, hn6⟩ : ∃ n, ((comp a5 r5).getD (0, [])).1 = n := ⟨_, rfl⟩
    obtain ⟨r6, hr6⟩ : ∃ n, ((comp a5 r5).getD (0, [])).2 = n := ⟨_, rfl⟩
    obtain ⟨k6, hk6⟩ : ∃ n, (comp a5 r5).isSome = n := ⟨_, rfl⟩
    have EN6 := Lib.hid hn6
    have ER6 := Lib.hid hr6
    have EK6 := Lib.hid hk6
    clear hn6 hr6 hk6
    go_wp2_with fail
    refine (impl_comp a5 _ r5 g5 (Past.start W5).w (Past.reads R5_5.out hR5_5 (Past.start W5)) (Past.len hR5_5 (Past.start W5))).mono ?_
    rintro e w6 hres
    obtain ⟨p6, q6, rfl, o6, b6⟩ := asCtx EN6.out ER6.out EK6.out hres
    clear hres
    have hA6 := (Below.refl w6.heap.size w6).alloc (Nat.le_refl _) (.cells #[.int .i64 a6, .slice p6 r6.length q6] 26)
    go_upto_region 9 with fail
    have hs6 : w6.heap.size < (w6.alloc (.cells #[.int .i64 a6, .slice p6 r6.length q6] 26)).heap.size := by simp
    have G6 := BoxAt.new w6 26 #[.int .i64 a6, .slice p6 r6.length q6]
    have bb6 := (Past.start W5).h.trans ((b6.trans (hA6.mono b6.size)).mono (Past.start W5).h.size)
    have sz6 := bb6.size
    have c6_0 : (w6.alloc (.cells #[.int .i64 a6, .slice p6 r6.length q6] 26)).cell? ⟨g1, 0, none⟩ = some (.int .i64 a1) := (bb6.cell (p := ⟨g1, 0, none⟩) hc5_0).trans c5_0
    have hc6_0 : g1 < (w6.alloc (.cells #[.int .i64 a6, .slice p6 r6.length q6] 26)).heap.size := Nat.lt_of_lt_of_le hc5_0 sz6
    have c6_1 : (w6.alloc (.cells #[.int .i64 a6, .slice p6 r6.length q6] 26)).cell? ⟨g1, 1, none⟩ = some (.slice p1 r1.length q1) := (bb6.cell (p := ⟨g1, 1, none⟩) hc5_1).trans c5_1
    have hc6_1 : g1 < (w6.alloc (.cells #[.int .i64 a6, .slice p6 r6.length q6] 26)).heap.size := Nat.lt_of_lt_of_le hc5_1 sz6
    have c6_2 : (w6.alloc (.cells #[.int .i64 a6, .slice p6 r6.length q6] 26)).cell? ⟨g2, 0, none⟩ = some (.int .i64 a2) := (bb6.cell (p := ⟨g2, 0, none⟩) hc5_2).trans c5_2
    have hc6_2 : g2 < (w6.alloc (.cells #[.int .i64 a6, .slice p6 r6.length q6] 26)).heap.size := Nat.lt_of_lt_of_le hc5_2 sz6
    have c6_3 : (w6.alloc (.cells #[.int .i64 a6, .slice p6 r6.length q6] 26)).cell? ⟨g2, 1, none⟩ = some (.slice p2 r2.length q2) := (bb6.cell (p := ⟨g2, 1, none⟩) hc5_3).trans c5_3
    have hc6_3 : g2 < (w6.alloc (.cells #[.int .i64 a6, .slice p6 r6.length q6] 26)).heap.size := Nat.lt_of_lt_of_le hc5_3 sz6
    have c6_4 : (w6.alloc (.cells #[.int .i64 a6, .slice p6 r6.length q6] 26)).cell? ⟨g3, 0, none⟩ = some (.int .i64 a2) := (bb6.cell (p := ⟨g3, 0, none⟩) hc5_4).trans c5_4
    have hc6_4 : g3 < (w6.alloc (.cells #[.int .i64 a6, .slice p6 r6.length q6] 26)).heap.size := Nat.lt_of_lt_of_le hc5_4 sz6
    have c6_5 : (w6.alloc (.cells #[.int .i64 a6, .slice p6 r6.length q6] 26)).cell? ⟨g3, 1, none⟩ = some (.slice p3 r2.length q3) := (bb6.cell (p := ⟨g3, 1, none⟩) hc5_5).trans c5_5
    have hc6_5 : g3 < (w6.alloc (.cells #[.int .i64 a6, .slice p6 r6.length q6] 26)).heap.size := Nat.lt_of_lt_of_le hc5_5 sz6
    have c6_6 : (w6.alloc (.cells #[.int .i64 a6, .slice p6 r6.length q6] 26)).cell? ⟨g4, 0, none⟩ = some (.int .i64 a4) := (bb6.cell (p := ⟨g4, 0, none⟩) hc5_6).trans c5_6
    have hc6_6 : g4 < (w6.alloc (.cells #[.int .i64 a6, .slice p6 r6.length q6] 26)).heap.size := Nat.lt_of_lt_of_le hc5_6 sz6
    have c6_7 : (w6.alloc (.cells #[.int .i64 a6, .slice p6 r6.length q6] 26)).cell? ⟨g4, 1, none⟩ = some (.slice p4 r4.length q4) := (bb6.cell (p := ⟨g4, 1, none⟩) hc5_7).trans c5_7
    have hc6_7 : g4 < (w6.alloc (.cells #[.int .i64 a6, .slice p6 r6.length q6] 26)).heap.size := Nat.lt_of_lt_of_le hc5_7 sz6
    have c6_8 : (w6.alloc (.cells #[.int .i64 a6, .slice p6 r6.length q6] 26)).cell? ⟨g5, 0, none⟩ = some (.int .i64 a5) := (bb6.cell (p := ⟨g5, 0, none⟩) hc5_8).trans c5_8
    have hc6_8 : g5 < (w6.alloc (.cells #[.int .i64 a6, .slice p6 r6.length q6] 26)).heap.size := Nat.lt_of_lt_of_le hc5_8 sz6
    have c6_9 : (w6.alloc (.cells #[.int .i64 a6, .slice p6 r6.length q6] 26)).cell? ⟨g5, 1, none⟩ = some (.slice p5 r5.length q5) := (bb6.cell (p := ⟨g5, 1, none⟩) hc5_9).trans c5_9
    have hc6_9 : g5 < (w6.alloc (.cells #[.int .i64 a6, .slice p6 r6.length q6] 26)).heap.size := Nat.lt_of_lt_of_le hc5_9 sz6
    have R6_0 := Lib.hid (R5_0.out.below bb6 hR5_0)
    have hR6_0 : w.heap.size ≤ (w6.alloc (.cells #[.int .i64 a6, .slice p6 r6.length q6] 26)).heap.size := Nat.le_trans hR5_0 sz6
    have R6_1 := Lib.hid (R5_1.out.below bb6 hR5_1)
    have hR6_1 : g1 ≤ (w6.alloc (.cells #[.int .i64 a6, .slice p6 r6.length q6] 26)).heap.size := Nat.le_trans hR5_1 sz6
    have R6_2 := Lib.hid (R5_2.out.below bb6 hR5_2)
    have hR6_2 : g2 ≤ (w6.alloc (.cells #[.int .i64 a6, .slice p6 r6.length q6] 26)).heap.size := Nat.le_trans hR5_2 sz6
    have R6_3 := Lib.hid (R5_3.out.below bb6 hR5_3)
    have hR6_3 : g3 ≤ (w6.alloc (.cells #[.int .i64 a6, .slice p6 r6.length q6] 26)).heap.size := Nat.le_trans hR5_3 sz6
    have R6_4 := Lib.hid (R5_4.out.below bb6 hR5_4)
    have hR6_4 : g4 ≤ (w6.alloc (.cells #[.int .i64 a6, .slice p6 r6.length q6] 26)).heap.size := Nat.le_trans hR5_4 sz6
    have R6_5 := Lib.hid (R5_5.out.below bb6 hR5_5)
    have hR6_5 : g5 ≤ (w6.alloc (.cells #[.int .i64 a6, .slice p6 r6.length q6] 26)).heap.size := Nat.le_trans hR5_5 sz6
    have Bw6 := Lib.hid (Bw5.out.trans (bb6.mono Bw5.out.size))
    have c6_10 : (w6.alloc (.cells #[.int .i64 a6, .slice p6 r6.length q6] 26)).cell? ⟨w6.heap.size, 0, none⟩ = some (.int .i64 a6) := G6.cell 0
    have hc6_10 : w6.heap.size < (w6.alloc (.cells #[.int .i64 a6, .slice p6 r6.length q6] 26)).heap.size := hs6
    have c6_11 : (w6.alloc (.cells #[.int .i64 a6, .slice p6 r6.length q6] 26)).cell? ⟨w6.heap.size, 1, none⟩ = some (.slice p6 r6.length q6) := G6.cell 1
    have hc6_11 : w6.heap.size < (w6.alloc (.cells #[.int .i64 a6, .slice p6 r6.length q6] 26)).heap.size := hs6
    have R6_6 := Lib.hid (o6.reads.below hA6 (Nat.le_refl _))
    have hR6_6 : w6.heap.size ≤ (w6.alloc (.cells #[.int .i64 a6, .slice p6 r6.length q6] 26)).heap.size := Nat.le_of_lt hs6
    generalize w6.alloc (.cells #[.int .i64 a6, .slice p6 r6.length q6] 26) = W6 at bb6 sz6 c6_0 hc6_0 c6_1 hc6_1 c6_2 hc6_2 c6_3 hc6_3 c6_4 hc6_4 c6_5 hc6_5 c6_6 hc6_6 c6_7 hc6_7 c6_8 hc6_8 c6_9 hc6_9 R6_0 hR6_0 R6_1 hR6_1 R6_2 hR6_2 R6_3 hR6_3 R6_4 hR6_4 R6_5 hR6_5 Bw6 c6_10 hc6_10 c6_11 hc6_11 R6_6 hR6_6 ⊢
    clear bb6 sz6
    clear c5_0 c5_1 c5_2 c5_3 c5_4 c5_5 c5_6 c5_7 c5_8 c5_9 hc5_0 hc5_1 hc5_2 hc5_3 hc5_4 hc5_5 hc5_6 hc5_7 hc5_8 hc5_9 R5_0 R5_1 R5_2 R5_3 R5_4 R5_5 hR5_0 hR5_1 hR5_2 hR5_3 hR5_4 hR5_5 k5_0 k5_1 k5_2 k5_3 k5_4 k5_5 k5_6 k5_7 k5_8 k5_9 Bw5 G6 o6 b6 hA6 hs6
    generalize w6.heap.size = g6 at *
    have k6_0 := fun p : Past W6 => Past.cell (W := W6) c6_0 hc6_0 p
    have k6_1 := fun p : Past W6 => Past.cell (W := W6) c6_1 hc6_1 p
    have k6_2 := fun p : Past W6 => Past.cell (W := W6) c6_2 hc6_2 p
    have k6_3 := fun p : Past W6 => Past.cell (W := W6) c6_3 hc6_3 p
    have k6_4 := fun p : Past W6 => Past.cell (W := W6) c6_4 hc6_4 p
    have k6_5 := fun p : Past W6 => Past.cell (W := W6) c6_5 hc6_5 p
    have k6_6 := fun p : Past W6 => Past.cell (W := W6) c6_6 hc6_6 p
    have k6_7 := fun p : Past W6 => Past.cell (W := W6) c6_7 hc6_7 p
    have k6_8 := fun p : Past W6 => Past.cell (W := W6) c6_8 hc6_8 p
    have k6_9 := fun p : Past W6 => Past.cell (W := W6) c6_9 hc6_9 p
    have k6_10 := fun p : Past W6 => Past.cell (W := W6) c6_10 hc6_10 p
    have k6_11 := fun p : Past W6 => Past.cell (W := W6) c6_11 hc6_11 p
    go_wp2_with fail
    refine (spec_comp a5 _ r5 g5 (Past.start W6).w (Past.reads R6_5.out hR6_5 (Past.start W6)) (Past.len hR6_5 (Past.start W6))).mono ?_
    rintro e w7 hres
    obtain ⟨p7, q7, rfl, o7, b7⟩ := asCtx EN6.out ER6.out EK6.out hres
    clear hres
    have hA7 := (Below.refl w7.heap.size w7).alloc (Nat.le_refl _) (.cells #[.int .i64 a6, .slice p7 r6.length q7] 26)
    go_upto_region 10 with fail
    have hs7 : w7.heap.size < (w7.alloc (.cells #[.int .i64 a6, .slice p7 r6.length q7] 26)).heap.size := by simp
    have G7 := BoxAt.new w7 26 #[.int .i64 a6, .slice p7 r6.length q7]
    have bb7 := (Past.start W6).h.trans ((b7.trans (hA7.mono b7.size)).mono (Past.start W6).h.size)
    have sz7 := bb7.size
    have c7_0 : (w7.alloc (.cells #[.int .i64 a6, .slice p7 r6.length q7] 26)).cell? ⟨g1, 0, none⟩ = some (.int .i64 a1) := (bb7.cell (p := ⟨g1, 0, none⟩) hc6_0).trans c6_0
    have hc7_0 : g1 < (w7.alloc (.cells #[.int .i64 a6, .slice p7 r6.length q7] 26)).heap.size := Nat.lt_of_lt_of_le hc6_0 sz7
    have c7_1 : (w7.alloc (.cells #[.int .i64 a6, .slice p7 r6.length q7] 26)).cell? ⟨g1, 1, none⟩ = some (.slice p1 r1.length q1) := (bb7.cell (p := ⟨g1, 1, none⟩) hc6_1).trans c6_1
    have hc7_1 : g1 < (w7.alloc (.cells #[.int .i64 a6, .slice p7 r6.length q7] 26)).heap.size := Nat.lt_of_lt_of_le hc6_1 sz7
    have c7_2 : (w7.alloc (.cells #[.int .i64 a6, .slice p7 r6.length q7] 26)).cell? ⟨g2, 0, none⟩ = some (.int .i64 a2) := (bb7.cell (p := ⟨g2, 0, none⟩) hc6_2).trans c6_2
    have hc7_2 : g2 < (w7.alloc (.cells #[.int .i64 a6, .slice p7 r6.length q7] 26)).heap.size := Nat.lt_of_lt_of_le hc6_2 sz7
    have c7_3 : (w7.alloc (.cells #[.int .i64 a6, .slice p7 r6.length q7] 26)).cell? ⟨g2, 1, none⟩ = some (.slice p2 r2.length q2) := (bb7.cell (p := ⟨g2, 1, none⟩) hc6_3).trans c6_3
    have hc7_3 : g2 < (w7.alloc (.cells #[.int .i64 a6, .slice p7 r6.length q7] 26)).heap.size := Nat.lt_of_lt_of_le hc6_3 sz7
    have c7_4 : (w7.alloc (.cells #[.int .i64 a6, .slice p7 r6.length q7] 26)).cell? ⟨g3, 0, none⟩ = some (.int .i64 a2) := (bb7.cell (p := ⟨g3, 0, none⟩) hc6_4).trans c6_4
    have hc7_4 : g3 < (w7.alloc (.cells #[.int .i64 a6, .slice p7 r6.length q7] 26)).heap.size := Nat.lt_of_lt_of_le hc6_4 sz7
    have c7_5 : (w7.alloc (.cells #[.int .i64 a6, .slice p7 r6.length q7] 26)).cell? ⟨g3, 1, none⟩ = some (.slice p3 r2.length q3) := (bb7.cell (p := ⟨g3, 1, none⟩) hc6_5).trans c6_5
    have hc7_5 : g3 < (w7.alloc (.cells #[.int .i64 a6, .slice p7 r6.length q7] 26)).heap.size := Nat.lt_of_lt_of_le hc6_5 sz7
    have c7_6 : (w7.alloc (.cells #[.int .i64 a6, .slice p7 r6.length q7] 26)).cell? ⟨g4, 0, none⟩ = some (.int .i64 a4) := (bb7.cell (p := ⟨g4, 0, none⟩) hc6_6).trans c6_6
    have hc7_6 : g4 < (w7.alloc (.cells #[.int .i64 a6, .slice p7 r6.length q7] 26)).heap.size := Nat.lt_of_lt_of_le hc6_6 sz7
    have c7_7 : (w7.alloc (.cells #[.int .i64 a6, .slice p7 r6.length q7] 26)).cell? ⟨g4, 1, none⟩ = some (.slice p4 r4.length q4) := (bb7.cell (p := ⟨g4, 1, none⟩) hc6_7).trans c6_7
    have hc7_7 : g4 < (w7.alloc (.cells #[.int .i64 a6, .slice p7 r6.length q7] 26)).heap.size := Nat.lt_of_lt_of_le hc6_7 sz7
    have c7_8 : (w7.alloc (.cells #[.int .i64 a6, .slice p7 r6.length q7] 26)).cell? ⟨g5, 0, none⟩ = some (.int .i64 a5) := (bb7.cell (p := ⟨g5, 0, none⟩) hc6_8).trans c6_8
    have hc7_8 : g5 < (w7.alloc (.cells #[.int .i64 a6, .slice p7 r6.length q7] 26)).heap.size := Nat.lt_of_lt_of_le hc6_8 sz7
    have c7_9 : (w7.alloc (.cells #[.int .i64 a6, .slice p7 r6.length q7] 26)).cell? ⟨g5, 1, none⟩ = some (.slice p5 r5.length q5) := (bb7.cell (p := ⟨g5, 1, none⟩) hc6_9).trans c6_9
    have hc7_9 : g5 < (w7.alloc (.cells #[.int .i64 a6, .slice p7 r6.length q7] 26)).heap.size := Nat.lt_of_lt_of_le hc6_9 sz7
    have c7_10 : (w7.alloc (.cells #[.int .i64 a6, .slice p7 r6.length q7] 26)).cell? ⟨g6, 0, none⟩ = some (.int .i64 a6) := (bb7.cell (p := ⟨g6, 0, none⟩) hc6_10).trans c6_10
    have hc7_10 : g6 < (w7.alloc (.cells #[.int .i64 a6, .slice p7 r6.length q7] 26)).heap.size := Nat.lt_of_lt_of_le hc6_10 sz7
    have c7_11 : (w7.alloc (.cells #[.int .i64 a6, .slice p7 r6.length q7] 26)).cell? ⟨g6, 1, none⟩ = some (.slice p6 r6.length q6) := (bb7.cell (p := ⟨g6, 1, none⟩) hc6_11).trans c6_11
    have hc7_11 : g6 < (w7.alloc (.cells #[.int .i64 a6, .slice p7 r6.length q7] 26)).heap.size := Nat.lt_of_lt_of_le hc6_11 sz7
    have R7_0 := Lib.hid (R6_0.out.below bb7 hR6_0)
    have hR7_0 : w.heap.size ≤ (w7.alloc (.cells #[.int .i64 a6, .slice p7 r6.length q7] 26)).heap.size := Nat.le_trans hR6_0 sz7
    have R7_1 := Lib.hid (R6_1.out.below bb7 hR6_1)
    have hR7_1 : g1 ≤ (w7.alloc (.cells #[.int .i64 a6, .slice p7 r6.length q7] 26)).heap.size := Nat.le_trans hR6_1 sz7
    have R7_2 := Lib.hid (R6_2.out.below bb7 hR6_2)
    have hR7_2 : g2 ≤ (w7.alloc (.cells #[.int .i64 a6, .slice p7 r6.length q7] 26)).heap.size := Nat.le_trans hR6_2 sz7
    have R7_3 := Lib.hid (R6_3.out.below bb7 hR6_3)
    have hR7_3 : g3 ≤ (w7.alloc (.cells #[.int .i64 a6, .slice p7 r6.length q7] 26)).heap.size := Nat.le_trans hR6_3 sz7
    have R7_4 := Lib.hid (R6_4.out.below bb7 hR6_4)
    have hR7_4 : g4 ≤ (w7.alloc (.cells #[.int .i64 a6, .slice p7 r6.length q7] 26)).heap.size := Nat.le_trans hR6_4 sz7
    have R7_5 := Lib.hid (R6_5.out.below bb7 hR6_5)
    have hR7_5 : g5 ≤ (w7.alloc (.cells #[.int .i64 a6, .slice p7 r6.length q7] 26)).heap.size := Nat.le_trans hR6_5 sz7
    have R7_6 := Lib.hid (R6_6.out.below bb7 hR6_6)
    have hR7_6 : g6 ≤ (w7.alloc (.cells #[.int .i64 a6, .slice p7 r6.length q7] 26)).heap.size := Nat.le_trans hR6_6 sz7
    have Bw7 := Lib.hid (Bw6.out.trans (bb7.mono Bw6.out.size))
    have c7_12 : (w7.alloc (.cells #[.int .i64 a6, .slice p7 r6.length q7] 26)).cell? ⟨w7.heap.size, 0, none⟩ = some (.int .i64 a6) := G7.cell 0
    have hc7_12 : w7.heap.size < (w7.alloc (.cells #[.int .i64 a6, .slice p7 r6.length q7] 26)).heap.size := hs7
    have c7_13 : (w7.alloc (.cells #[.int .i64 a6, .slice p7 r6.length q7] 26)).cell? ⟨w7.heap.size, 1, none⟩ = some (.slice p7 r6.length q7) := G7.cell 1
    have hc7_13 : w7.heap.size < (w7.alloc (.cells #[.int .i64 a6, .slice p7 r6.length q7] 26)).heap.size := hs7
    have R7_7 := Lib.hid (o7.reads.below hA7 (Nat.le_refl _))
    have hR7_7 : w7.heap.size ≤ (w7.alloc (.cells #[.int .i64 a6, .slice p7 r6.length q7] 26)).heap.size := Nat.le_of_lt hs7
    generalize w7.alloc (.cells #[.int .i64 a6, .slice p7 r6.length q7] 26) = W7 at bb7 sz7 c7_0 hc7_0 c7_1 hc7_1 c7_2 hc7_2 c7_3 hc7_3 c7_4 hc7_4 c7_5 hc7_5 c7_6 hc7_6 c7_7 hc7_7 c7_8 hc7_8 c7_9 hc7_9 c7_10 hc7_10 c7_11 hc7_11 R7_0 hR7_0 R7_1 hR7_1 R7_2 hR7_2 R7_3 hR7_3 R7_4 hR7_4 R7_5 hR7_5 R7_6 hR7_6 Bw7 c7_12 hc7_12 c7_13 hc7_13 R7_7 hR7_7 ⊢
    clear bb7 sz7
    clear c6_0 c6_1 c6_2 c6_3 c6_4 c6_5 c6_6 c6_7 c6_8 c6_9 c6_10 c6_11 hc6_0 hc6_1 hc6_2 hc6_3 hc6_4 hc6_5 hc6_6 hc6_7 hc6_8 hc6_9 hc6_10 hc6_11 R6_0 R6_1 R6_2 R6_3 R6_4 R6_5 R6_6 hR6_0 hR6_1 hR6_2 hR6_3 hR6_4 hR6_5 hR6_6 k6_0 k6_1 k6_2 k6_3 k6_4 k6_5 k6_6 k6_7 k6_8 k6_9 k6_10 k6_11 Bw6 G7 o7 b7 hA7 hs7
    generalize w7.heap.size = g7 at *
    have k7_0 := fun p : Past W7 => Past.cell (W := W7) c7_0 hc7_0 p
    have k7_1 := fun p : Past W7 => Past.cell (W := W7) c7_1 hc7_1 p
    have k7_2 := fun p : Past W7 => Past.cell (W := W7) c7_2 hc7_2 p
    have k7_3 := fun p : Past W7 => Past.cell (W := W7) c7_3 hc7_3 p
    have k7_4 := fun p : Past W7 => Past.cell (W := W7) c7_4 hc7_4 p
    have k7_5 := fun p : Past W7 => Past.cell (W := W7) c7_5 hc7_5 p
    have k7_6 := fun p : Past W7 => Past.cell (W := W7) c7_6 hc7_6 p
    have k7_7 := fun p : Past W7 => Past.cell (W := W7) c7_7 hc7_7 p
    have k7_8 := fun p : Past W7 => Past.cell (W := W7) c7_8 hc7_8 p
    have k7_9 := fun p : Past W7 => Past.cell (W := W7) c7_9 hc7_9 p
    have k7_10 := fun p : Past W7 => Past.cell (W := W7) c7_10 hc7_10 p
    have k7_11 := fun p : Past W7 => Past.cell (W := W7) c7_11 hc7_11 p
    have k7_12 := fun p : Past W7 => Past.cell (W := W7) c7_12 hc7_12 p
    have k7_13 := fun p : Past W7 => Past.cell (W := W7) c7_13 hc7_13 p
    go_wp2_with fail
    refine (DrawEqualContext v xs w.heap.size (Past.start W7).w (Past.reads R7_0.out hR7_0 (Past.start W7)) (Past.len hR7_0 (Past.start W7)) HX.out (by omega)).mono ?_
    rintro e w8 ⟨a8, a9, u8, u9, r8, r9, rfl, hl8, -, o8, o9, b8⟩
    obtain ⟨p8, q8, rfl⟩ := own_form o8
    obtain ⟨p9, q9, rfl⟩ := own_form o9
    have hA8 := ((Below.refl w8.heap.size w8).alloc (Nat.le_refl _) (.cells #[.int .i64 a8, .slice p8 r8.length q8] 26)).alloc (by simp) (.cells #[.int .i64 a9, .slice p9 r9.length q9] 26)
    go_upto_region 11 with fail
    have hs8 : w8.heap.size < ((w8.alloc (.cells #[.int .i64 a8, .slice p8 r8.length q8] 26)).alloc (.cells #[.int .i64 a9, .slice p9 r9.length q9] 26)).heap.size := by simp; omega
    have ht8 : w8.heap.size + 1 < ((w8.alloc (.cells #[.int .i64 a8, .slice p8 r8.length q8] 26)).alloc (.cells #[.int .i64 a9, .slice p9 r9.length q9] 26)).heap.size := by simp
    have G8 := (BoxAt.new w8 26 #[.int .i64 a8, .slice p8 r8.length q8]).alloc (.cells #[.int .i64 a9, .slice p9 r9.length q9] 26)
    have H8 : BoxAt ((w8.alloc (.cells #[.int .i64 a8, .slice p8 r8.length q8] 26)).alloc (.cells #[.int .i64 a9, .slice p9 r9.length q9] 26)) (w8.heap.size + 1) 26 #[.int .i64 a9, .slice p9 r9.length q9] := by have := BoxAt.new (w8.alloc (.cells #[.int .i64 a8, .slice p8 r8.length q8] 26)) 26 #[.int .i64 a9, .slice p9 r9.length q9]; simpa using this
    have bb8 := (Past.start W7).h.trans ((b8.trans (hA8.mono b8.size)).mono (Past.start W7).h.size)
    have sz8 := bb8.size
    have c8_0 : ((w8.alloc (.cells #[.int .i64 a8, .slice p8 r8.length q8] 26)).alloc (.cells #[.int .i64 a9, .slice p9 r9.length q9] 26)).cell? ⟨g1, 0, none⟩ = some (.int .i64 a1) := (bb8.cell (p := ⟨g1, 0, none⟩) hc7_0).trans c7_0
    have hc8_0 : g1 < ((w8.alloc (.cells #[.int .i64 a8, .slice p8 r8.length q8] 26)).alloc (.cells #[.int .i64 a9, .slice p9 r9.length q9] 26)).heap.size := Nat.lt_of_lt_of_le hc7_0 sz8
    have c8_1 : ((w8.alloc (.cells #[.int .i64 a8, .slice p8 r8.length q8] 26)).alloc (.cells #[.int .i64 a9, .slice p9 r9.length q9] 26)).cell? ⟨g1, 1, none⟩ = some (.slice p1 r1.length q1) := (bb8.cell (p := ⟨g1, 1, none⟩) hc7_1).trans c7_1
    have hc8_1 : g1 < ((w8.alloc (.cells #[.int .i64 a8, .slice p8 r8.length q8] 26)).alloc (.cells #[.int .i64 a9, .slice p9 r9.length q9] 26)).heap.size := Nat.lt_of_lt_of_le hc7_1 sz8
    have c8_2 : ((w8.alloc (.cells #[.int .i64 a8, .slice p8 r8.length q8] 26)).alloc (.cells #[.int .i64 a9, .slice p9 r9.length q9] 26)).cell? ⟨g2, 0, none⟩ = some (.int .i64 a2) := (bb8.cell (p := ⟨g2, 0, none⟩) hc7_2).trans c7_2
    have hc8_2 : g2 < ((w8.alloc (.cells #[.int .i64 a8, .slice p8 r8.length q8] 26)).alloc (.cells #[.int .i64 a9, .slice p9 r9.length q9] 26)).heap.size := Nat.lt_of_lt_of_le hc7_2 sz8
    have c8_3 : ((w8.alloc (.cells #[.int .i64 a8, .slice p8 r8.length q8] 26)).alloc (.cells #[.int .i64 a9, .slice p9 r9.length q9] 26)).cell? ⟨g2, 1, none⟩ = some (.slice p2 r2.length q2) := (bb8.cell (p := ⟨g2, 1, none⟩) hc7_3).trans c7_3
    have hc8_3 : g2 < ((w8.alloc (.cells #[.int .i64 a8, .slice p8 r8.length q8] 26)).alloc (.cells #[.int .i64 a9, .slice p9 r9.length q9] 26)).heap.size := Nat.lt_of_lt_of_le hc7_3 sz8
    have c8_4 : ((w8.alloc (.cells #[.int .i64 a8, .slice p8 r8.length q8] 26)).alloc (.cells #[.int .i64 a9, .slice p9 r9.length q9] 26)).cell? ⟨g3, 0, none⟩ = some (.int .i64 a2) := (bb8.cell (p := ⟨g3, 0, none⟩) hc7_4).trans c7_4
    have hc8_4 : g3 < ((w8.alloc (.cells #[.int .i64 a8, .slice p8 r8.length q8] 26)).alloc (.cells #[.int .i64 a9, .slice p9 r9.length q9] 26)).heap.size := Nat.lt_of_lt_of_le hc7_4 sz8
    have c8_5 : ((w8.alloc (.cells #[.int .i64 a8, .slice p8 r8.length q8] 26)).alloc (.cells #[.int .i64 a9, .slice p9 r9.length q9] 26)).cell? ⟨g3, 1, none⟩ = some (.slice p3 r2.length q3) := (bb8.cell (p := ⟨g3, 1, none⟩) hc7_5).trans c7_5
    have hc8_5 : g3 < ((w8.alloc (.cells #[.int .i64 a8, .slice p8 r8.length q8] 26)).alloc (.cells #[.int .i64 a9, .slice p9 r9.length q9] 26)).heap.size := Nat.lt_of_lt_of_le hc7_5 sz8
    have c8_6 : ((w8.alloc (.cells #[.int .i64 a8, .slice p8 r8.length q8] 26)).alloc (.cells #[.int .i64 a9, .slice p9 r9.length q9] 26)).cell? ⟨g4, 0, none⟩ = some (.int .i64 a4) := (bb8.cell (p := ⟨g4, 0, none⟩) hc7_6).trans c7_6
    have hc8_6 : g4 < ((w8.alloc (.cells #[.int .i64 a8, .slice p8 r8.length q8] 26)).alloc (.cells #[.int .i64 a9, .slice p9 r9.length q9] 26)).heap.size := Nat.lt_of_lt_of_le hc7_6 sz8
    have c8_7 : ((w8.alloc (.cells #[.int .i64 a8, .slice p8 r8.length q8] 26)).alloc (.cells #[.int .i64 a9, .slice p9 r9.length q9] 26)).cell? ⟨g4, 1, none⟩ = some (.slice p4 r4.length q4) := (bb8.cell (p := ⟨g4, 1, none⟩) hc7_7).trans c7_7
    have hc8_7 : g4 < ((w8.alloc (.cells #[.int .i64 a8, .slice p8 r8.length q8] 26)).alloc (.cells #[.int .i64 a9, .slice p9 r9.length q9] 26)).heap.size := Nat.lt_of_lt_of_le hc7_7 sz8
    have c8_8 : ((w8.alloc (.cells #[.int .i64 a8, .slice p8 r8.length q8] 26)).alloc (.cells #[.int .i64 a9, .slice p9 r9.length q9] 26)).cell? ⟨g5, 0, none⟩ = some (.int .i64 a5) := (bb8.cell (p := ⟨g5, 0, none⟩) hc7_8).trans c7_8
    have hc8_8 : g5 < ((w8.alloc (.cells #[.int .i64 a8, .slice p8 r8.length q8] 26)).alloc (.cells #[.int .i64 a9, .slice p9 r9.length q9] 26)).heap.size := Nat.lt_of_lt_of_le hc7_8 sz8
    have c8_9 : ((w8.alloc (.cells #[.int .i64 a8, .slice p8 r8.length q8] 26)).alloc (.cells #[.int .i64 a9, .slice p9 r9.length q9] 26)).cell? ⟨g5, 1, none⟩ = some (.slice p5 r5.length q5) := (bb8.cell (p := ⟨g5, 1, none⟩) hc7_9).trans c7_9
    have hc8_9 : g5 < ((w8.alloc (.cells #[.int .i64 a8, .slice p8 r8.length q8] 26)).alloc (.cells #[.int .i64 a9, .slice p9 r9.length q9] 26)).heap.size := Nat.lt_of_lt_of_le hc7_9 sz8
    have c8_10 : ((w8.alloc (.cells #[.int .i64 a8, .slice p8 r8.length q8] 26)).alloc (.cells #[.int .i64 a9, .slice p9 r9.length q9] 26)).cell? ⟨g6, 0, none⟩ = some (.int .i64 a6) := (bb8.cell (p := ⟨g6, 0, none⟩) hc7_10).trans c7_10
    have hc8_10 : g6 < ((w8.alloc (.cells #[.int .i64 a8, .slice p8 r8.length q8] 26)).alloc (.cells #[.int .i64 a9, .slice p9 r9.length q9] 26)).heap.size := Nat.lt_of_lt_of_le hc7_10 sz8
    have c8_11 : ((w8.alloc (.cells #[.int .i64 a8, .slice p8 r8.length q8] 26)).alloc (.cells #[.int .i64 a9, .slice p9 r9.length q9] 26)).cell? ⟨g6, 1, none⟩ = some (.slice p6 r6.length q6) := (bb8.cell (p := ⟨g6, 1, none⟩) hc7_11).trans c7_11
    have hc8_11 : g6 < ((w8.alloc (.cells #[.int .i64 a8, .slice p8 r8.length q8] 26)).alloc (.cells #[.int .i64 a9, .slice p9 r9.length q9] 26)).heap.size := Nat.lt_of_lt_of_le hc7_11 sz8
    have c8_12 : ((w8.alloc (.cells #[.int .i64 a8, .slice p8 r8.length q8] 26)).alloc (.cells #[.int .i64 a9, .slice p9 r9.length q9] 26)).cell? ⟨g7, 0, none⟩ = some (.int .i64 a6) := (bb8.cell (p := ⟨g7, 0, none⟩) hc7_12).trans c7_12
    have hc8_12 : g7 < ((w8.alloc (.cells #[.int .i64 a8, .slice p8 r8.length q8] 26)).alloc (.cells #[.int .i64 a9, .slice p9 r9.length q9] 26)).heap.size := Nat.lt_of_lt_of_le hc7_12 sz8
    have c8_13 : ((w8.alloc (.cells #[.int .i64 a8, .slice p8 r8.length q8] 26)).alloc (.cells #[.int .i64 a9, .slice p9 r9.length q9] 26)).cell? ⟨g7, 1, none⟩ = some (.slice p7 r6.length q7) := (bb8.cell (p := ⟨g7, 1, none⟩) hc7_13).trans c7_13
    have hc8_13 : g7 < ((w8.alloc (.cells #[.int .i64 a8, .slice p8 r8.length q8] 26)).alloc (.cells #[.int .i64 a9, .slice p9 r9.length q9] 26)).heap.size := Nat.lt_of_lt_of_le hc7_13 sz8
    have R8_0 := Lib.hid (R7_0.out.below bb8 hR7_0)
    have hR8_0 : w.heap.size ≤ ((w8.alloc (.cells #[.int .i64 a8, .slice p8 r8.length q8] 26)).alloc (.cells #[.int .i64 a9, .slice p9 r9.length q9] 26)).heap.size := Nat.le_trans hR7_0 sz8
    have R8_1 := Lib.hid (R7_1.out.below bb8 hR7_1)
    have hR8_1 : g1 ≤ ((w8.alloc (.cells #[.int .i64 a8, .slice p8 r8.length q8] 26)).alloc (.cells #[.int .i64 a9, .slice p9 r9.length q9] 26)).heap.size := Nat.le_trans hR7_1 sz8
    have R8_2 := Lib.hid (R7_2.out.below bb8 hR7_2)
    have hR8_2 : g2 ≤ ((w8.alloc (.cells #[.int .i64 a8, .slice p8 r8.length q8] 26)).alloc (.cells #[.int .i64 a9, .slice p9 r9.length q9] 26)).heap.size := Nat.le_trans hR7_2 sz8
    have R8_3 := Lib.hid (R7_3.out.below bb8 hR7_3)
    have hR8_3 : g3 ≤ ((w8.alloc (.cells #[.int .i64 a8, .slice p8 r8.length q8] 26)).alloc (.cells #[.int .i64 a9, .slice p9 r9.length q9] 26)).heap.size := Nat.le_trans hR7_3 sz8
    have R8_4 := Lib.hid (R7_4.out.below bb8 hR7_4)
    have hR8_4 : g4 ≤ ((w8.alloc (.cells #[.int .i64 a8, .slice p8 r8.length q8] 26)).alloc (.cells #[.int .i64 a9, .slice p9 r9.length q9] 26)).heap.size := Nat.le_trans hR7_4 sz8
    have R8_5 := Lib.hid (R7_5.out.below bb8 hR7_5)
    have hR8_5 : g5 ≤ ((w8.alloc (.cells #[.int .i64 a8, .slice p8 r8.length q8] 26)).alloc (.cells #[.int .i64 a9, .slice p9 r9.length q9] 26)).heap.size := Nat.le_trans hR7_5 sz8
    have R8_6 := Lib.hid (R7_6.out.below bb8 hR7_6)
    have hR8_6 : g6 ≤ ((w8.alloc (.cells #[.int .i64 a8, .slice p8 r8.length q8] 26)).alloc (.cells #[.int .i64 a9, .slice p9 r9.length q9] 26)).heap.size := Nat.le_trans hR7_6 sz8
    have R8_7 := Lib.hid (R7_7.out.below bb8 hR7_7)
    have hR8_7 : g7 ≤ ((w8.alloc (.cells #[.int .i64 a8, .slice p8 r8.length q8] 26)).alloc (.cells #[.int .i64 a9, .slice p9 r9.length q9] 26)).heap.size := Nat.le_trans hR7_7 sz8
    have Bw8 := Lib.hid (Bw7.out.trans (bb8.mono Bw7.out.size))
    have c8_14 : ((w8.alloc (.cells #[.int .i64 a8, .slice p8 r8.length q8] 26)).alloc (.cells #[.int .i64 a9, .slice p9 r9.length q9] 26)).cell? ⟨w8.heap.size, 0, none⟩ = some (.int .i64 a8) := G8.cell 0
    have hc8_14 : w8.heap.size < ((w8.alloc (.cells #[.int .i64 a8, .slice p8 r8.length q8] 26)).alloc (.cells #[.int .i64 a9, .slice p9 r9.length q9] 26)).heap.size := hs8
    have c8_15 : ((w8.alloc (.cells #[.int .i64 a8, .slice p8 r8.length q8] 26)).alloc (.cells #[.int .i64 a9, .slice p9 r9.length q9] 26)).cell? ⟨w8.heap.size, 1, none⟩ = some (.slice p8 r8.length q8) := G8.cell 1
    have hc8_15 : w8.heap.size < ((w8.alloc (.cells #[.int .i64 a8, .slice p8 r8.length q8] 26)).alloc (.cells #[.int .i64 a9, .slice p9 r9.length q9] 26)).heap.size := hs8
    have c8_16 : ((w8.alloc (.cells #[.int .i64 a8, .slice p8 r8.length q8] 26)).alloc (.cells #[.int .i64 a9, .slice p9 r9.length q9] 26)).cell? ⟨w8.heap.size + 1, 0, none⟩ = some (.int .i64 a9) := H8.cell 0
    have hc8_16 : w8.heap.size + 1 < ((w8.alloc (.cells #[.int .i64 a8, .slice p8 r8.length q8] 26)).alloc (.cells #[.int .i64 a9, .slice p9 r9.length q9] 26)).heap.size := ht8
    have c8_17 : ((w8.alloc (.cells #[.int .i64 a8, .slice p8 r8.length q8] 26)).alloc (.cells #[.int .i64 a9, .slice p9 r9.length q9] 26)).cell? ⟨w8.heap.size + 1, 1, none⟩ = some (.slice p9 r9.length q9) := H8.cell 1
    have hc8_17 : w8.heap.size + 1 < ((w8.alloc (.cells #[.int .i64 a8, .slice p8 r8.length q8] 26)).alloc (.cells #[.int .i64 a9, .slice p9 r9.length q9] 26)).heap.size := ht8
    have R8_8 := Lib.hid (o8.reads.below hA8 (Nat.le_refl _))
    have hR8_8 : w8.heap.size ≤ ((w8.alloc (.cells #[.int .i64 a8, .slice p8 r8.length q8] 26)).alloc (.cells #[.int .i64 a9, .slice p9 r9.length q9] 26)).heap.size := Nat.le_of_lt hs8
    have R8_9 := Lib.hid (o9.reads.below hA8 (Nat.le_refl _))
    have hR8_9 : w8.heap.size ≤ ((w8.alloc (.cells #[.int .i64 a8, .slice p8 r8.length q8] 26)).alloc (.cells #[.int .i64 a9, .slice p9 r9.length q9] 26)).heap.size := Nat.le_of_lt hs8
    generalize (w8.alloc (.cells #[.int .i64 a8, .slice p8 r8.length q8] 26)).alloc (.cells #[.int .i64 a9, .slice p9 r9.length q9] 26) = W8 at bb8 sz8 c8_0 hc8_0 c8_1 hc8_1 c8_2 hc8_2 c8_3 hc8_3 c8_4 hc8_4 c8_5 hc8_5 c8_6 hc8_6 c8_7 hc8_7 c8_8 hc8_8 c8_9 hc8_9 c8_10 hc8_10 c8_11 hc8_11 c8_12 hc8_12 c8_13 hc8_13 R8_0 hR8_0 R8_1 hR8_1 R8_2 hR8_2 R8_3 hR8_3 R8_4 hR8_4 R8_5 hR8_5 R8_6 hR8_6 R8_7 hR8_7 Bw8 c8_14 hc8_14 c8_15 hc8_15 c8_16 hc8_16 c8_17 hc8_17 R8_8 hR8_8 R8_9 hR8_9 ⊢
    clear bb8 sz8
    clear c7_0 c7_1 c7_2 c7_3 c7_4 c7_5 c7_6 c7_7 c7_8 c7_9 c7_10 c7_11 c7_12 c7_13 hc7_0 hc7_1 hc7_2 hc7_3 hc7_4 hc7_5 hc7_6 hc7_7 hc7_8 hc7_9 hc7_10 hc7_11 hc7_12 hc7_13 R7_0 R7_1 R7_2 R7_3 R7_4 R7_5 R7_6 R7_7 hR7_0 hR7_1 hR7_2 hR7_3 hR7_4 hR7_5 hR7_6 hR7_7 k7_0 k7_1 k7_2 k7_3 k7_4 k7_5 k7_6 k7_7 k7_8 k7_9 k7_10 k7_11 k7_12 k7_13 Bw7 G8 H8 o8 o9 b8 hA8 hs8 ht8
    generalize w8.heap.size = g8 at *
    have k8_0 := fun p : Past W8 => Past.cell (W := W8) c8_0 hc8_0 p
    have k8_1 := fun p : Past W8 => Past.cell (W := W8) c8_1 hc8_1 p
    have k8_2 := fun p : Past W8 => Past.cell (W := W8) c8_2 hc8_2 p
    have k8_3 := fun p : Past W8 => Past.cell (W := W8) c8_3 hc8_3 p
    have k8_4 := fun p : Past W8 => Past.cell (W := W8) c8_4 hc8_4 p
    have k8_5 := fun p : Past W8 => Past.cell (W := W8) c8_5 hc8_5 p
    have k8_6 := fun p : Past W8 => Past.cell (W := W8) c8_6 hc8_6 p
    have k8_7 := fun p : Past W8 => Past.cell (W := W8) c8_7 hc8_7 p
    have k8_8 := fun p : Past W8 => Past.cell (W := W8) c8_8 hc8_8 p
    have k8_9 := fun p : Past W8 => Past.cell (W := W8) c8_9 hc8_9 p
    have k8_10 := fun p : Past W8 => Past.cell (W := W8) c8_10 hc8_10 p
    have k8_11 := fun p : Past W8 => Past.cell (W := W8) c8_11 hc8_11 p
    have k8_12 := fun p : Past W8 => Past.cell (W := W8) c8_12 hc8_12 p
    have k8_13 := fun p : Past W8 => Past.cell (W := W8) c8_13 hc8_13 p
    have k8_14 := fun p : Past W8 => Past.cell (W := W8) c8_14 hc8_14 p
    have k8_15 := fun p : Past W8 => Past.cell (W := W8) c8_15 hc8_15 p
    have k8_16 := fun p : Past W8 => Past.cell (W := W8) c8_16 hc8_16 p
    have k8_17 := fun p : Past W8 => Past.cell (W := W8) c8_17 hc8_17 p
    go_wp2_with fail
    refine (DrawParseContext v xs w.heap.size (Past.start W8).w (Past.reads R8_0.out hR8_0 (Past.start W8)) (Past.len hR8_0 (Past.start W8)) HX.out (by omega)).mono ?_
    rintro e w10 ⟨t10, rfl, hl10, b10⟩
    have bb9 := (Past.start W8).h.trans (b10.mono (Past.start W8).h.size)
    have sz9 := bb9.size
    have c9_0 : (w10).cell? ⟨g1, 0, none⟩ = some (.int .i64 a1) := (bb9.cell (p := ⟨g1, 0, none⟩) hc8_0).trans c8_0
    have hc9_0 : g1 < (w10).heap.size := Nat.lt_of_lt_of_le hc8_0 sz9
    have c9_1 : (w10).cell? ⟨g1, 1, none⟩ = some (.slice p1 r1.length q1) := (bb9.cell (p := ⟨g1, 1, none⟩) hc8_1).trans c8_1
    have hc9_1 : g1 < (w10).heap.size := Nat.lt_of_lt_of_le hc8_1 sz9
    have c9_2 : (w10).cell? ⟨g2, 0, none⟩ = some (.int .i64 a2) := (bb9.cell (p := ⟨g2, 0, none⟩) hc8_2).trans c8_2
    have hc9_2 : g2 < (w10).heap.size := Nat.lt_of_lt_of_le hc8_2 sz9
    have c9_3 : (w10).cell? ⟨g2, 1, none⟩ = some (.slice p2 r2.length q2) := (bb9.cell (p := ⟨g2, 1, none⟩) hc8_3).trans c8_3
    have hc9_3 : g2 < (w10).heap.size := Nat.lt_of_lt_of_le hc8_3 sz9
    have c9_4 : (w10).cell? ⟨g3, 0, none⟩ = some (.int .i64 a2) := (bb9.cell (p := ⟨g3, 0, none⟩) hc8_4).trans c8_4
    have hc9_4 : g3 < (w10).heap.size := Nat.lt_of_lt_of_le hc8_4 sz9
    have c9_5 : (w10).cell? ⟨g3, 1, none⟩ = some (.slice p3 r2.length q3) := (bb9.cell (p := ⟨g3, 1, none⟩) hc8_5).trans c8_5
    have hc9_5 : g3 < (w10).heap.size := Nat.lt_of_lt_of_le hc8_5 sz9
    have c9_6 : (w10).cell? ⟨g4, 0, none⟩ = some (.int .i64 a4) := (bb9.cell (p := ⟨g4, 0, none⟩) hc8_6).trans c8_6
    have hc9_6 : g4 < (w10).heap.size := Nat.lt_of_lt_of_le hc8_6 sz9
    have c9_7 : (w10).cell? ⟨g4, 1, none⟩ = some (.slice p4 r4.length q4) := (bb9.cell (p := ⟨g4, 1, none⟩) hc8_7).trans c8_7
    have hc9_7 : g4 < (w10).heap.size := Nat.lt_of_lt_of_le hc8_7 sz9
    have c9_8 : (w10).cell? ⟨g5, 0, none⟩ = some (.int .i64 a5) := (bb9.cell (p := ⟨g5, 0, none⟩) hc8_8).trans c8_8
    have hc9_8 : g5 < (w10).heap.size := Nat.lt_of_lt_of_le hc8_8 sz9
    have c9_9 : (w10).cell? ⟨g5, 1, none⟩ = some (.slice p5 r5.length q5) := (bb9.cell (p := ⟨g5, 1, none⟩) hc8_9).trans c8_9
    have hc9_9 : g5 < (w10).heap.size := Nat.lt_of_lt_of_le hc8_9 sz9
    have c9_10 : (w10).cell? ⟨g6, 0, none⟩ = some (.int .i64 a6) := (bb9.cell (p := ⟨g6, 0, none⟩) hc8_10).trans c8_10
    have hc9_10 : g6 < (w10).heap.size := Nat.lt_of_lt_of_le hc8_10 sz9
    have c9_11 : (w10).cell? ⟨g6, 1, none⟩ = some (.slice p6 r6.length q6) := (bb9.cell (p := ⟨g6, 1, none⟩) hc8_11).trans c8_11
    have hc9_11 : g6 < (w10).heap.size := Nat.lt_of_lt_of_le hc8_11 sz9
    have c9_12 : (w10).cell? ⟨g7, 0, none⟩ = some (.int .i64 a6) := (bb9.cell (p := ⟨g7, 0, none⟩) hc8_12).trans c8_12
    have hc9_12 : g7 < (w10).heap.size := Nat.lt_of_lt_of_le hc8_12 sz9
    have c9_13 : (w10).cell? ⟨g7, 1, none⟩ = some (.slice p7 r6.length q7) := (bb9.cell (p := ⟨g7, 1, none⟩) hc8_13).trans c8_13
    have hc9_13 : g7 < (w10).heap.size := Nat.lt_of_lt_of_le hc8_13 sz9
    have c9_14 : (w10).cell? ⟨g8, 0, none⟩ = some (.int .i64 a8) := (bb9.cell (p := ⟨g8, 0, none⟩) hc8_14).trans c8_14
    have hc9_14 : g8 < (w10).heap.size := Nat.lt_of_lt_of_le hc8_14 sz9
    have c9_15 : (w10).cell? ⟨g8, 1, none⟩ = some (.slice p8 r8.length q8) := (bb9.cell (p := ⟨g8, 1, none⟩) hc8_15).trans c8_15
    have hc9_15 : g8 < (w10).heap.size := Nat.lt_of_lt_of_le hc8_15 sz9
    have c9_16 : (w10).cell? ⟨g8 + 1, 0, none⟩ = some (.int .i64 a9) := (bb9.cell (p := ⟨g8 + 1, 0, none⟩) hc8_16).trans c8_16
    have hc9_16 : g8 + 1 < (w10).heap.size := Nat.lt_of_lt_of_le hc8_16 sz9
    have c9_17 : (w10).cell? ⟨g8 + 1, 1, none⟩ = some (.slice p9 r9.length q9) := (bb9.cell (p := ⟨g8 + 1, 1, none⟩) hc8_17).trans c8_17
    have hc9_17 : g8 + 1 < (w10).heap.size := Nat.lt_of_lt_of_le hc8_17 sz9
    have R9_0 := Lib.hid (R8_0.out.below bb9 hR8_0)
    have hR9_0 : w.heap.size ≤ (w10).heap.size := Nat.le_trans hR8_0 sz9
    have R9_1 := Lib.hid (R8_1.out.below bb9 hR8_1)
    have hR9_1 : g1 ≤ (w10).heap.size := Nat.le_trans hR8_1 sz9
    have R9_2 := Lib.hid (R8_2.out.below bb9 hR8_2)
    have hR9_2 : g2 ≤ (w10).heap.size := Nat.le_trans hR8_2 sz9
    have R9_3 := Lib.hid (R8_3.out.below bb9 hR8_3)
    have hR9_3 : g3 ≤ (w10).heap.size := Nat.le_trans hR8_3 sz9
    have R9_4 := Lib.hid (R8_4.out.below bb9 hR8_4)
    have hR9_4 : g4 ≤ (w10).heap.size := Nat.le_trans hR8_4 sz9
    have R9_5 := Lib.hid (R8_5.out.below bb9 hR8_5)
    have hR9_5 : g5 ≤ (w10).heap.size := Nat.le_trans hR8_5 sz9
    have R9_6 := Lib.hid (R8_6.out.below bb9 hR8_6)
    have hR9_6 : g6 ≤ (w10).heap.size := Nat.le_trans hR8_6 sz9
    have R9_7 := Lib.hid (R8_7.out.below bb9 hR8_7)
    have hR9_7 : g7 ≤ (w10).heap.size := Nat.le_trans hR8_7 sz9
    have R9_8 := Lib.hid (R8_8.out.below bb9 hR8_8)
    have hR9_8 : g8 ≤ (w10).heap.size := Nat.le_trans hR8_8 sz9
    have R9_9 := Lib.hid (R8_9.out.below bb9 hR8_9)
    have hR9_9 : g8 ≤ (w10).heap.size := Nat.le_trans hR8_9 sz9
    have Bw9 := Lib.hid (Bw8.out.trans (bb9.mono Bw8.out.size))
    generalize w10 = W10 at bb9 sz9 c9_0 hc9_0 c9_1 hc9_1 c9_2 hc9_2 c9_3 hc9_3 c9_4 hc9_4 c9_5 hc9_5 c9_6 hc9_6 c9_7 hc9_7 c9_8 hc9_8 c9_9 hc9_9 c9_10 hc9_10 c9_11 hc9_11 c9_12 hc9_12 c9_13 hc9_13 c9_14 hc9_14 c9_15 hc9_15 c9_16 hc9_16 c9_17 hc9_17 R9_0 hR9_0 R9_1 hR9_1 R9_2 hR9_2 R9_3 hR9_3 R9_4 hR9_4 R9_5 hR9_5 R9_6 hR9_6 R9_7 hR9_7 R9_8 hR9_8 R9_9 hR9_9 Bw9 ⊢
    clear bb9 sz9
    clear c8_0 c8_1 c8_2 c8_3 c8_4 c8_5 c8_6 c8_7 c8_8 c8_9 c8_10 c8_11 c8_12 c8_13 c8_14 c8_15 c8_16 c8_17 hc8_0 hc8_1 hc8_2 hc8_3 hc8_4 hc8_5 hc8_6 hc8_7 hc8_8 hc8_9 hc8_10 hc8_11 hc8_12 hc8_13 hc8_14 hc8_15 hc8_16 hc8_17 R8_0 R8_1 R8_2 R8_3 R8_4 R8_5 R8_6 R8_7 R8_8 R8_9 hR8_0 hR8_1 hR8_2 hR8_3 hR8_4 hR8_5 hR8_6 hR8_7 hR8_8 hR8_9 k8_0 k8_1 k8_2 k8_3 k8_4 k8_5 k8_6 k8_7 k8_8 k8_9 k8_10 k8_11 k8_12 k8_13 k8_14 k8_15 k8_16 k8_17 Bw8 b10
    have k9_0 := fun p : Past W10 => Past.cell (W := W10) c9_0 hc9_0 p
    have k9_1 := fun p : Past W10 => Past.cell (W := W10) c9_1 hc9_1 p
    have k9_2 := fun p : Past W10 => Past.cell (W := W10) c9_2 hc9_2 p
    have k9_3 := fun p : Past W10 => Past.cell (W := W10) c9_3 hc9_3 p
    have k9_4 := fun p : Past W10 => Past.cell (W := W10) c9_4 hc9_4 p
    have k9_5 := fun p : Past W10 => Past.cell (W := W10) c9_5 hc9_5 p
    have k9_6 := fun p : Past W10 => Past.cell (W := W10) c9_6 hc9_6 p
    have k9_7 := fun p : Past W10 => Past.cell (W := W10) c9_7 hc9_7 p
    have k9_8 := fun p : Past W10 => Past.cell (W := W10) c9_8 hc9_8 p
    have k9_9 := fun p : Past W10 => Past.cell (W := W10) c9_9 hc9_9 p
    have k9_10 := fun p : Past W10 => Past.cell (W := W10) c9_10 hc9_10 p
    have k9_11 := fun p : Past W10 => Past.cell (W := W10) c9_11 hc9_11 p
    have k9_12 := fun p : Past W10 => Past.cell (W := W10) c9_12 hc9_12 p
    have k9_13 := fun p : Past W10 => Past.cell (W := W10) c9_13 hc9_13 p
    have k9_14 := fun p : Past W10 => Past.cell (W := W10) c9_14 hc9_14 p
    have k9_15 := fun p : Past W10 => Past.cell (W := W10) c9_15 hc9_15 p
    have k9_16 := fun p : Past W10 => Past.cell (W := W10) c9_16 hc9_16 p
    have k9_17 := fun p : Past W10 => Past.cell (W := W10) c9_17 hc9_17 p
    obtain ⟨a11, hn11⟩ : ∃ n, ((Pctx.prog t10).getD (0, [])).1 = n := ⟨_, rfl⟩
    obtain ⟨r11, hr11⟩ : ∃ n, ((Pctx.prog t10).getD (0, [])).2 = n := ⟨_, rfl⟩
    obtain ⟨k11, hk11⟩ : ∃ n, (Pctx.prog t10).isSome = n := ⟨_, rfl⟩
    have EN11 := Lib.hid hn11
    have ER11 := Lib.hid hr11
    have EK11 := Lib.hid hk11
    clear hn11 hr11 hk11
    go_wp2_with fail
    refine (Pctx.impl_pctx t10 (by omega) (Past.start W10).w (HSTD.out.below ((Past.start W10).below Bw9.out)) (Split.shaped_below HSH.out ((Past.start W10).below Bw9.out)) ((((Past.start W10).below Bw9.out).cell (p := ⟨0, 0, none⟩) (Pctx.gErr_lt HG.out)).trans HG.out)).mono ?_
    rintro e w11 hres
    obtain ⟨p11, q11, rfl, o11, b11⟩ := asCtx EN11.out ER11.out EK11.out hres
    clear hres
    have hA11 := (Below.refl w11.heap.size w11).alloc (Nat.le_refl _) (.cells #[.int .i64 a11, .slice p11 r11.length q11] 26)
    go_upto_region 13 with fail
    have hs11 : w11.heap.size < (w11.alloc (.cells #[.int .i64 a11, .slice p11 r11.length q11] 26)).heap.size := by simp
    have G11 := BoxAt.new w11 26 #[.int .i64 a11, .slice p11 r11.length q11]
    have bb10 := (Past.start W10).h.trans ((b11.trans (hA11.mono b11.size)).mono (Past.start W10).h.size)
    have sz10 := bb10.size
    have c10_0 : (w11.alloc (.cells #[.int .i64 a11, .slice p11 r11.length q11] 26)).cell? ⟨g1, 0, none⟩ = some (.int .i64 a1) := (bb10.cell (p := ⟨g1, 0, none⟩) hc9_0).trans c9_0
    have hc10_0 : g1 < (w11.alloc (.cells #[.int .i64 a11, .slice p11 r11.length q11] 26)).heap.size := Nat.lt_of_lt_of_le hc9_0 sz10
    have c10_1 : (w11.alloc (.cells #[.int .i64 a11, .slice p11 r11.length q11] 26)).cell? ⟨g1, 1, none⟩ = some (.slice p1 r1.length q1) := (bb10.cell (p := ⟨g1, 1, none⟩) hc9_1).trans c9_1
    have hc10_1 : g1 < (w11.alloc (.cells #[.int .i64 a11, .slice p11 r11.length q11] 26)).heap.size := Nat.lt_of_lt_of_le hc9_1 sz10
    have c10_2 : (w11.alloc (.cells #[.int .i64 a11, .slice p11 r11.length q11] 26)).cell? ⟨g2, 0, none⟩ = some (.int .i64 a2) := (bb10.cell (p := ⟨g2, 0, none⟩) hc9_2).trans c9_2
    have hc10_2 : g2 < (w11.alloc (.cells #[.int .i64 a11, .slice p11 r11.length q11] 26)).heap.size := Nat.lt_of_lt_of_le hc9_2 sz10
    have c10_3 : (w11.alloc (.cells #[.int .i64 a11, .slice p11 r11.length q11] 26)).cell? ⟨g2, 1, none⟩ = some (.slice p2 r2.length q2) := (bb10.cell (p := ⟨g2, 1, none⟩) hc9_3).trans c9_3
    have hc10_3 : g2 < (w11.alloc (.cells #[.int .i64 a11, .slice p11 r11.length q11] 26)).heap.size := Nat.lt_of_lt_of_le hc9_3 sz10
    have c10_4 : (w11.alloc (.cells #[.int .i64 a11, .slice p11 r11.length q11] 26)).cell? ⟨g3, 0, none⟩ = some (.int .i64 a2) := (bb10.cell (p := ⟨g3, 0, none⟩) hc9_4).trans c9_4
    have hc10_4 : g3 < (w11.alloc (.cells #[.int .i64 a11, .slice p11 r11.length q11] 26)).heap.size := Nat.lt_of_lt_of_le hc9_4 sz10
    have c10_5 : (w11.alloc (.cells #[.int .i64 a11, .slice p11 r11.length q11] 26)).cell? ⟨g3, 1, none⟩ = some (.slice p3 r2.length q3) := (bb10.cell (p := ⟨g3, 1, none⟩) hc9_5).trans c9_5
    have hc10_5 : g3 < (w11.alloc (.cells #[.int .i64 a11, .slice p11 r11.length q11] 26)).heap.size := Nat.lt_of_lt_of_le hc9_5 sz10
    have c10_6 : (w11.alloc (.cells #[.int .i64 a11, .slice p11 r11.length q11] 26)).cell? ⟨g4, 0, none⟩ = some (.int .i64 a4) := (bb10.cell (p := ⟨g4, 0, none⟩) hc9_6).trans c9_6
    have hc10_6 : g4 < (w11.alloc (.cells #[.int .i64 a11, .slice p11 r11.length q11] 26)).heap.size := Nat.lt_of_lt_of_le hc9_6 sz10
    have c10_7 : (w11.alloc (.cells #[.int .i64 a11, .slice p11 r11.length q11] 26)).cell? ⟨g4, 1, none⟩ = some (.slice p4 r4.length q4) := (bb10.cell (p := ⟨g4, 1, none⟩) hc9_7).trans c9_7
    have hc10_7 : g4 < (w11.alloc (.cells #[.int .i64 a11, .slice p11 r11.length q11] 26)).heap.size := Nat.lt_of_lt_of_le hc9_7 sz10
    have c10_8 : (w11.alloc (.cells #[.int .i64 a11, .slice p11 r11.length q11] 26)).cell? ⟨g5, 0, none⟩ = some (.int .i64 a5) := (bb10.cell (p := ⟨g5, 0, none⟩) hc9_8).trans c9_8
    have hc10_8 : g5 < (w11.alloc (.cells #[.int .i64 a11, .slice p11 r11.length q11] 26)).heap.size := Nat.lt_of_lt_of_le hc9_8 sz10
    have c10_9 : (w11.alloc (.cells #[.int .i64 a11, .slice p11 r11.length q11] 26)).cell? ⟨g5, 1, none⟩ = some (.slice p5 r5.length q5) := (bb10.cell (p := ⟨g5, 1, none⟩) hc9_9).trans c9_9
    have hc10_9 : g5 < (w11.alloc (.cells #[.int .i64 a11, .slice p11 r11.length q11] 26)).heap.size := Nat.lt_of_lt_of_le hc9_9 sz10
    have c10_10 : (w11.alloc (.cells #[.int .i64 a11, .slice p11 r11.length q11] 26)).cell? ⟨g6, 0, none⟩ = some (.int .i64 a6) := (bb10.cell (p := ⟨g6, 0, none⟩) hc9_10).trans c9_10
    have hc10_10 : g6 < (w11.alloc (.cells #[.int .i64 a11, .slice p11 r11.length q11] 26)).heap.size := Nat.lt_of_lt_of_le hc9_10 sz10
    have c10_11 : (w11.alloc (.cells #[.int .i64 a11, .slice p11 r11.length q11] 26)).cell? ⟨g6, 1, none⟩ = some (.slice p6 r6.length q6) := (bb10.cell (p := ⟨g6, 1, none⟩) hc9_11).trans c9_11
    have hc10_11 : g6 < (w11.alloc (.cells #[.int .i64 a11, .slice p11 r11.length q11] 26)).heap.size := Nat.lt_of_lt_of_le hc9_11 sz10
    have c10_12 : (w11.alloc (.cells #[.int .i64 a11, .slice p11 r11.length q11] 26)).cell? ⟨g7, 0, none⟩ = some (.int .i64 a6) := (bb10.cell (p := ⟨g7, 0, none⟩) hc9_12).trans c9_12
    have hc10_12 : g7 < (w11.alloc (.cells #[.int .i64 a11, .slice p11 r11.length q11] 26)).heap.size := Nat.lt_of_lt_of_le hc9_12 sz10
    have c10_13 : (w11.alloc (.cells #[.int .i64 a11, .slice p11 r11.length q11] 26)).cell? ⟨g7, 1, none⟩ = some (.slice p7 r6.length q7) := (bb10.cell (p := ⟨g7, 1, none⟩) hc9_13).trans c9_13
    have hc10_13 : g7 < (w11.alloc (.cells #[.int .i64 a11, .slice p11 r11.length q11] 26)).heap.size := Nat.lt_of_lt_of_le hc9_13 sz10
    have c10_14 : (w11.alloc (.cells #[.int .i64 a11, .slice p11 r11.length q11] 26)).cell? ⟨g8, 0, none⟩ = some (.int .i64 a8) := (bb10.cell (p := ⟨g8, 0, none⟩) hc9_14).trans c9_14
    have hc10_14 : g8 < (w11.alloc (.cells #[.int .i64 a11, .slice p11 r11.length q11] 26)).heap.size := Nat.lt_of_lt_of_le hc9_14 sz10
    have c10_15 : (w11.alloc (.cells #[.int .i64 a11, .slice p11 r11.length q11] 26)).cell? ⟨g8, 1, none⟩ = some (.slice p8 r8.length q8) := (bb10.cell (p := ⟨g8, 1, none⟩) hc9_15).trans c9_15
    have hc10_15 : g8 < (w11.alloc (.cells #[.int .i64 a11, .slice p11 r11.length q11] 26)).heap.size := Nat.lt_of_lt_of_le hc9_15 sz10
    have c10_16 : (w11.alloc (.cells #[.int .i64 a11, .slice p11 r11.length q11] 26)).cell? ⟨g8 + 1, 0, none⟩ = some (.int .i64 a9) := (bb10.cell (p := ⟨g8 + 1, 0, none⟩) hc9_16).trans c9_16
    have hc10_16 : g8 + 1 < (w11.alloc (.cells #[.int .i64 a11, .slice p11 r11.length q11] 26)).heap.size := Nat.lt_of_lt_of_le hc9_16 sz10
    have c10_17 : (w11.alloc (.cells #[.int .i64 a11, .slice p11 r11.length q11] 26)).cell? ⟨g8 + 1, 1, none⟩ = some (.slice p9 r9.length q9) := (bb10.cell (p := ⟨g8 + 1, 1, none⟩) hc9_17).trans c9_17
    have hc10_17 : g8 + 1 < (w11.alloc (.cells #[.int .i64 a11, .slice p11 r11.length q11] 26)).heap.size := Nat.lt_of_lt_of_le hc9_17 sz10
    have R10_0 := Lib.hid (R9_0.out.below bb10 hR9_0)
    have hR10_0 : w.heap.size ≤ (w11.alloc (.cells #[.int .i64 a11, .slice p11 r11.length q11] 26)).heap.size := Nat.le_trans hR9_0 sz10
    have R10_1 := Lib.hid (R9_1.out.below bb10 hR9_1)
    have hR10_1 : g1 ≤ (w11.alloc (.cells #[.int .i64 a11, .slice p11 r11.length q11] 26)).heap.size := Nat.le_trans hR9_1 sz10
    have R10_2 := Lib.hid (R9_2.out.below bb10 hR9_2)
    have hR10_2 : g2 ≤ (w11.alloc (.cells #[.int .i64 a11, .slice p11 r11.length q11] 26)).heap.size := Nat.le_trans hR9_2 sz10
    have R10_3 := Lib.hid (R9_3.out.below bb10 hR9_3)
    have hR10_3 : g3 ≤ (w11.alloc (.cells #[.int .i64 a11, .slice p11 r11.length q11] 26)).heap.size := Nat.le_trans hR9_3 sz10
    have R10_4 := Lib.hid (R9_4.out.below bb10 hR9_4)
    have hR10_4 : g4 ≤ (w11.alloc (.cells #[.int .i64 a11, .slice p11 r11.length q11] 26)).heap.size := Nat.le_trans hR9_4 sz10
    have R10_5 := Lib.hid (R9_5.out.below bb10 hR9_5)
    have hR10_5 : g5 ≤ (w11.alloc (.cells #[.int .i64 a11, .slice p11 r11.length q11] 26)).heap.size := Nat.le_trans hR9_5 sz10
    have R10_6 := Lib.hid (R9_6.out.below bb10 hR9_6)
    have hR10_6 : g6 ≤ (w11.alloc (.cells #[.int .i64 a11, .slice p11 r11.length q11] 26)).heap.size := Nat.le_trans hR9_6 sz10
    have R10_7 := Lib.hid (R9_7.out.below bb10 hR9_7)
    have hR10_7 : g7 ≤ (w11.alloc (.cells #[.int .i64 a11, .slice p11 r11.length q11] 26)).heap.size := Nat.le_trans hR9_7 sz10
    have R10_8 := Lib.hid (R9_8.out.below bb10 hR9_8)
    have hR10_8 : g8 ≤ (w11.alloc (.cells #[.int .i64 a11, .slice p11 r11.length q11] 26)).heap.size := Nat.le_trans hR9_8 sz10
    have R10_9 := Lib.hid (R9_9.out.below bb10 hR9_9)
    have hR10_9 : g8 ≤ (w11.alloc (.cells #[.int .i64 a11, .slice p11 r11.length q11] 26)).heap.size := Nat.le_trans hR9_9 sz10
    have Bw10 := Lib.hid (Bw9.out.trans (bb10.mono Bw9.out.size))
    have c10_18 : (w11.alloc (.cells #[.int .i64 a11, .slice p11 r11.length q11] 26)).cell? ⟨w11.heap.size, 0, none⟩ = some (.int .i64 a11) := G11.cell 0
    have hc10_18 : w11.heap.size < (w11.alloc (.cells #[.int .i64 a11, .slice p11 r11.length q11] 26)).heap.size := hs11
    have c10_19 : (w11.alloc (.cells #[.int .i64 a11, .slice p11 r11.length q11] 26)).cell? ⟨w11.heap.size, 1, none⟩ = some (.slice p11 r11.length q11) := G11.cell 1
    have hc10_19 : w11.heap.size < (w11.alloc (.cells #[.int .i64 a11, .slice p11 r11.length q11] 26)).heap.size := hs11
    have R10_10 := Lib.hid (o11.reads.below hA11 (Nat.le_refl _))
    have hR10_10 : w11.heap.size ≤ (w11.alloc (.cells #[.int .i64 a11, .slice p11 r11.length q11] 26)).heap.size := Nat.le_of_lt hs11
    generalize w11.alloc (.cells #[.int .i64 a11, .slice p11 r11.length q11] 26) = W11 at bb10 sz10 c10_0 hc10_0 c10_1 hc10_1 c10_2 hc10_2 c10_3 hc10_3 c10_4 hc10_4 c10_5 hc10_5 c10_6 hc10_6 c10_7 hc10_7 c10_8 hc10_8 c10_9 hc10_9 c10_10 hc10_10 c10_11 hc10_11 c10_12 hc10_12 c10_13 hc10_13 c10_14 hc10_14 c10_15 hc10_15 c10_16 hc10_16 c10_17 hc10_17 R10_0 hR10_0 R10_1 hR10_1 R10_2 hR10_2 R10_3 hR10_3 R10_4 hR10_4 R10_5 hR10_5 R10_6 hR10_6 R10_7 hR10_7 R10_8 hR10_8 R10_9 hR10_9 Bw10 c10_18 hc10_18 c10_19 hc10_19 R10_10 hR10_10 ⊢
    clear bb10 sz10
    clear c9_0 c9_1 c9_2 c9_3 c9_4 c9_5 c9_6 c9_7 c9_8 c9_9 c9_10 c9_11 c9_12 c9_13 c9_14 c9_15 c9_16 c9_17 hc9_0 hc9_1 hc9_2 hc9_3 hc9_4 hc9_5 hc9_6 hc9_7 hc9_8 hc9_9 hc9_10 hc9_11 hc9_12 hc9_13 hc9_14 hc9_15 hc9_16 hc9_17 R9_0 R9_1 R9_2 R9_3 R9_4 R9_5 R9_6 R9_7 R9_8 R9_9 hR9_0 hR9_1 hR9_2 hR9_3 hR9_4 hR9_5 hR9_6 hR9_7 hR9_8 hR9_9 k9_0 k9_1 k9_2 k9_3 k9_4 k9_5 k9_6 k9_7 k9_8 k9_9 k9_10 k9_11 k9_12 k9_13 k9_14 k9_15 k9_16 k9_17 Bw9 G11 o11 b11 hA11 hs11
    generalize w11.heap.size = g11 at *
    have k10_0 := fun p : Past W11 => Past.cell (W := W11) c10_0 hc10_0 p
    have k10_1 := fun p : Past W11 => Past.cell (W := W11) c10_1 hc10_1 p
    have k10_2 := fun p : Past W11 => Past.cell (W := W11) c10_2 hc10_2 p
    have k10_3 := fun p : Past W11 => Past.cell (W := W11) c10_3 hc10_3 p
    have k10_4 := fun p : Past W11 => Past.cell (W := W11) c10_4 hc10_4 p
    have k10_5 := fun p : Past W11 => Past.cell (W := W11) c10_5 hc10_5 p
    have k10_6 := fun p : Past W11 => Past.cell (W := W11) c10_6 hc10_6 p
    have k10_7 := fun p : Past W11 => Past.cell (W := W11) c10_7 hc10_7 p
    have k10_8 := fun p : Past W11 => Past.cell (W := W11) c10_8 hc10_8 p
    have k10_9 := fun p : Past W11 => Past.cell (W := W11) c10_9 hc10_9 p
    have k10_10 := fun p : Past W11 => Past.cell (W := W11) c10_10 hc10_10 p
    have k10_11 := fun p : Past W11 => Past.cell (W := W11) c10_11 hc10_11 p
    have k10_12 := fun p : Past W11 => Past.cell (W := W11) c10_12 hc10_12 p
    have k10_13 := fun p : Past W11 => Past.cell (W := W11) c10_13 hc10_13 p
    have k10_14 := fun p : Past W11 => Past.cell (W := W11) c10_14 hc10_14 p
    have k10_15 := fun p : Past W11 => Past.cell (W := W11) c10_15 hc10_15 p
    have k10_16 := fun p : Past W11 => Past.cell (W := W11) c10_16 hc10_16 p
    have k10_17 := fun p : Past W11 => Past.cell (W := W11) c10_17 hc10_17 p
    have k10_18 := fun p : Past W11 => Past.cell (W := W11) c10_18 hc10_18 p
    have k10_19 := fun p : Past W11 => Past.cell (W := W11) c10_19 hc10_19 p
    have hsp := Pctx.spec_pctx t10 (by omega) (Past.start W11).w
    rw [← Pctx.same] at hsp
    go_wp2_with fail
    refine (hsp).mono ?_
    rintro e w12 hres
    obtain ⟨p12, q12, rfl, o12, b12⟩ := asCtx EN11.out ER11.out EK11.out hres
    clear hres
    have hA12 := (Below.refl w12.heap.size w12).alloc (Nat.le_refl _) (.cells #[.int .i64 a11, .slice p12 r11.length q12] 26)
    go_upto_region 14 with fail
    have hs12 : w12.heap.size < (w12.alloc (.cells #[.int .i64 a11, .slice p12 r11.length q12] 26)).heap.size := by simp
    have G12 := BoxAt.new w12 26 #[.int .i64 a11, .slice p12 r11.length q12]
    have bb11 := (Past.start W11).h.trans ((b12.trans (hA12.mono b12.size)).mono (Past.start W11).h.size)
    have sz11 := bb11.size
    have c11_0 : (w12.alloc (.cells #[.int .i64 a11, .slice p12 r11.length q12] 26)).cell? ⟨g1, 0, none⟩ = some (.int .i64 a1) := (bb11.cell (p := ⟨g1, 0, none⟩) hc10_0).trans c10_0
    have hc11_0 : g1 < (w12.alloc (.cells #[.int .i64 a11, .slice p12 r11.length q12] 26)).heap.size := Nat.lt_of_lt_of_le hc10_0 sz11
    have c11_1 : (w12.alloc (.cells #[.int .i64 a11, .slice p12 r11.length q12] 26)).cell? ⟨g1, 1, none⟩ = some (.slice p1 r1.length q1) := (bb11.cell (p := ⟨g1, 1, none⟩) hc10_1).trans c10_1
    have hc11_1 : g1 < (w12.alloc (.cells #[.int .i64 a11, .slice p12 r11.length q12] 26)).heap.size := Nat.lt_of_lt_of_le hc10_1 sz11
    have c11_2 : (w12.alloc (.cells #[.int .i64 a11, .slice p12 r11.length q12] 26)).cell? ⟨g2, 0, none⟩ = some (.int .i64 a2) := (bb11.cell (p := ⟨g2, 0, none⟩) hc10_2).trans c10_2
    have hc11_2 : g2 < (w12.alloc (.cells #[.int .i64 a11, .slice p12 r11.length q12] 26)).heap.size := Nat.lt_of_lt_of_le hc10_2 sz11
    have c11_3 : (w12.alloc (.cells #[.int .i64 a11, .slice p12 r11.length q12] 26)).cell? ⟨g2, 1, none⟩ = some (.slice p2 r2.length q2) := (bb11.cell (p := ⟨g2, 1, none⟩) hc10_3).trans c10_3
    have hc11_3 : g2 < (w12.alloc (.cells #[.int .i64 a11, .slice p12 r11.length q12] 26)).heap.size := Nat.lt_of_lt_of_le hc10_3 sz11
    have c11_4 : (w12.alloc (.cells #[.int .i64 a11, .slice p12 r11.length q12] 26)).cell? ⟨g3, 0, none⟩ = some (.int .i64 a2) := (bb11.cell (p := ⟨g3, 0, none⟩) hc10_4).trans c10_4
    have hc11_4 : g3 < (w12.alloc (.cells #[.int .i64 a11, .slice p12 r11.length q12] 26)).heap.size := Nat.lt_of_lt_of_le hc10_4 sz11
    have c11_5 : (w12.alloc (.cells #[.int .i64 a11, .slice p12 r11.length q12] 26)).cell? ⟨g3, 1, none⟩ = some (.slice p3 r2.length q3) := (bb11.cell (p := ⟨g3, 1, none⟩) hc10_5).trans c10_5
    have hc11_5 : g3 < (w12.alloc (.cells #[.int .i64 a11, .slice p12 r11.length q12] 26)).heap.size := Nat.lt_of_lt_of_le hc10_5 sz11
    have c11_6 : (w12.alloc (.cells #[.int .i64 a11, .slice p12 r11.length q12] 26)).cell? ⟨g4, 0, none⟩ = some (.int .i64 a4) := (bb11.cell (p := ⟨g4, 0, none⟩) hc10_6).trans c10_6
    have hc11_6 : g4 < (w12.alloc (.cells #[.int .i64 a11, .slice p12 r11.length q12] 26)).heap.size := Nat.lt_of_lt_of_le hc10_6 sz11
    have c11_7 : (w12.alloc (.cells #[.int .i64 a11, .slice p12 r11.length q12] 26)).cell? ⟨g4, 1, none⟩ = some (.slice p4 r4.length q4) := (bb11.cell (p := ⟨g4, 1, none⟩) hc10_7).trans c10_7
    have hc11_7 : g4 < (w12.alloc (.cells #[.int .i64 a11, .slice p12 r11.length q12] 26)).heap.size := Nat.lt_of_lt_of_le hc10_7 sz11
    have c11_8 : (w12.alloc (.cells #[.int .i64 a11, .slice p12 r11.length q12] 26)).cell? ⟨g5, 0, none⟩ = some (.int .i64 a5) := (bb11.cell (p := ⟨g5, 0, none⟩) hc10_8).trans c10_8
    have hc11_8 : g5 < (w12.alloc (.cells #[.int .i64 a11, .slice p12 r11.length q12] 26)).heap.size := Nat.lt_of_lt_of_le hc10_8 sz11
    have c11_9 : (w12.alloc (.cells #[.int .i64 a11, .slice p12 r11.length q12] 26)).cell? ⟨g5, 1, none⟩ = some (.slice p5 r5.length q5) := (bb11.cell (p := ⟨g5, 1, none⟩) hc10_9).trans c10_9
    have hc11_9 : g5 < (w12.alloc (.cells #[.int .i64 a11, .slice p12 r11.length q12] 26)).heap.size := Nat.lt_of_lt_of_le hc10_9 sz11
    have c11_10 : (w12.alloc (.cells #[.int .i64 a11, .slice p12 r11.length q12] 26)).cell? ⟨g6, 0, none⟩ = some (.int .i64 a6) := (bb11.cell (p := ⟨g6, 0, none⟩) hc10_10).trans c10_10
    have hc11_10 : g6 < (w12.alloc (.cells #[.int .i64 a11, .slice p12 r11.length q12] 26)).heap.size := Nat.lt_of_lt_of_le hc10_10 sz11
    have c11_11 : (w12.alloc (.cells #[.int .i64 a11, .slice p12 r11.length q12] 26)).cell? ⟨g6, 1, none⟩ = some (.slice p6 r6.length q6) := (bb11.cell (p := ⟨g6, 1, none⟩) hc10_11).trans c10_11
    have hc11_11 : g6 < (w12.alloc (.cells #[.int .i64 a11, .slice p12 r11.length q12] 26)).heap.size := Nat.lt_of_lt_of_le hc10_11 sz11
    have c11_12 : (w12.alloc (.cells #[.int .i64 a11, .slice p12 r11.length q12] 26)).cell? ⟨g7, 0, none⟩ = some (.int .i64 a6) := (bb11.cell (p := ⟨g7, 0, none⟩) hc10_12).trans c10_12
    have hc11_12 : g7 < (w12.alloc (.cells #[.int .i64 a11, .slice p12 r11.length q12] 26)).heap.size := Nat.lt_of_lt_of_le hc10_12 sz11
    have c11_13 : (w12.alloc (.cells #[.int .i64 a11, .slice p12 r11.length q12] 26)).cell? ⟨g7, 1, none⟩ = some (.slice p7 r6.length q7) := (bb11.cell (p := ⟨g7, 1, none⟩) hc10_13).trans c10_13
    have hc11_13 : g7 < (w12.alloc (.cells #[.int .i64 a11, .slice p12 r11.length q12] 26)).heap.size := Nat.lt_of_lt_of_le hc10_13 sz11
    have c11_14 : (w12.alloc (.cells #[.int .i64 a11, .slice p12 r11.length q12] 26)).cell? ⟨g8, 0, none⟩ = some (.int .i64 a8) := (bb11.cell (p := ⟨g8, 0, none⟩) hc10_14).trans c10_14
    have hc11_14 : g8 < (w12.alloc (.cells #[.int .i64 a11, .slice p12 r11.length q12] 26)).heap.size := Nat.lt_of_lt_of_le hc10_14 sz11
    have c11_15 : (w12.alloc (.cells #[.int .i64 a11, .slice p12 r11.length q12] 26)).cell? ⟨g8, 1, none⟩ = some (.slice p8 r8.length q8) := (bb11.cell (p := ⟨g8, 1, none⟩) hc10_15).trans c10_15
    have hc11_15 : g8 < (w12.alloc (.cells #[.int .i64 a11, .slice p12 r11.length q12] 26)).heap.size := Nat.lt_of_lt_of_le hc10_15 sz11
    have c11_16 : (w12.alloc (.cells #[.int .i64 a11, .slice p12 r11.length q12] 26)).cell? ⟨g8 + 1, 0, none⟩ = some (.int .i64 a9) := (bb11.cell (p := ⟨g8 + 1, 0, none⟩) hc10_16).trans c10_16
    have hc11_16 : g8 + 1 < (w12.alloc (.cells #[.int .i64 a11, .slice p12 r11.length q12] 26)).heap.size := Nat.lt_of_lt_of_le hc10_16 sz11
    have c11_17 : (w12.alloc (.cells #[.int .i64 a11, .slice p12 r11.length q12] 26)).cell? ⟨g8 + 1, 1, none⟩ = some (.slice p9 r9.length q9) := (bb11.cell (p := ⟨g8 + 1, 1, none⟩) hc10_17).trans c10_17
    have hc11_17 : g8 + 1 < (w12.alloc (.cells #[.int .i64 a11, .slice p12 r11.length q12] 26)).heap.size := Nat.lt_of_lt_of_le hc10_17 sz11
    have c11_18 : (w12.alloc (.cells #[.int .i64 a11, .slice p12 r11.length q12] 26)).cell? ⟨g11, 0, none⟩ = some (.int .i64 a11) := (bb11.cell (p := ⟨g11, 0, none⟩) hc10_18).trans c10_18
    have hc11_18 : g11 < (w12.alloc (.cells #[.int .i64 a11, .slice p12 r11.length q12] 26)).heap.size := Nat.lt_of_lt_of_le hc10_18 sz11
    have c11_19 : (w12.alloc (.cells #[.int .i64 a11, .slice p12 r11.length q12] 26)).cell? ⟨g11, 1, none⟩ = some (.slice p11 r11.length q11) := (bb11.cell (p := ⟨g11, 1, none⟩) hc10_19).trans c10_19
    have hc11_19 : g11 < (w12.alloc (.cells #[.int .i64 a11, .slice p12 r11.length q12] 26)).heap.size := Nat.lt_of_lt_of_le hc10_19 sz11
    have R11_0 := Lib.hid (R10_0.out.below bb11 hR10_0)
    have hR11_0 : w.heap.size ≤ (w12.alloc (.cells #[.int .i64 a11, .slice p12 r11.length q12] 26)).heap.size := Nat.le_trans hR10_0 sz11
    have R11_1 := Lib.hid (R10_1.out.below bb11 hR10_1)
    have hR11_1 : g1 ≤ (w12.alloc (.cells #[.int .i64 a11, .slice p12 r11.length q12] 26)).heap.size := Nat.le_trans hR10_1 sz11
    have R11_2 := Lib.hid (R10_2.out.below bb11 hR10_2)
    have hR11_2 : g2 ≤ (w12.alloc (.cells #[.int .i64 a11, .slice p12 r11.length q12] 26)).heap.size := Nat.le_trans hR10_2 sz11
    have R11_3 := Lib.hid (R10_3.out.below bb11 hR10_3)
    have hR11_3 : g3 ≤ (w12.alloc (.cells #[.int .i64 a11, .slice p12 r11.length q12] 26)).heap.size := Nat.le_trans hR10_3 sz11
    have R11_4 := Lib.hid (R10_4.out.below bb11 hR10_4)
    have hR11_4 : g4 ≤ (w12.alloc (.cells #[.int .i64 a11, .slice p12 r11.length q12] 26)).heap.size := Nat.le_trans hR10_4 sz11
    have R11_5 := Lib.hid (R10_5.out.below bb11 hR10_5)
    have hR11_5 : g5 ≤ (w12.alloc (.cells #[.int .i64 a11, .slice p12 r11.length q12] 26)).heap.size := Nat.le_trans hR10_5 sz11
    have R11_6 := Lib.hid (R10_6.out.below bb11 hR10_6)
    have hR11_6 : g6 ≤ (w12.alloc (.cells #[.int .i64 a11, .slice p12 r11.length q12] 26)).heap.size := Nat.le_trans hR10_6 sz11
    have R11_7 := Lib.hid (R10_7.out.below bb11 hR10_7)
    have hR11_7 : g7 ≤ (w12.alloc (.cells #[.int .i64 a11, .slice p12 r11.length q12] 26)).heap.size := Nat.le_trans hR10_7 sz11
    have R11_8 := Lib.hid (R10_8.out.below bb11 hR10_8)
    have hR11_8 : g8 ≤ (w12.alloc (.cells #[.int .i64 a11, .slice p12 r11.length q12] 26)).heap.size := Nat.le_trans hR10_8 sz11
    have R11_9 := Lib.hid (R10_9.out.below bb11 hR10_9)
    have hR11_9 : g8 ≤ (w12.alloc (.cells #[.int .i64 a11, .slice p12 r11.length q12] 26)).heap.size := Nat.le_trans hR10_9 sz11
    have R11_10 := Lib.hid (R10_10.out.below bb11 hR10_10)
    have hR11_10 : g11 ≤ (w12.alloc (.cells #[.int .i64 a11, .slice p12 r11.length q12] 26)).heap.size := Nat.le_trans hR10_10 sz11
    have Bw11 := Lib.hid (Bw10.out.trans (bb11.mono Bw10.out.size))
    have c11_20 : (w12.alloc (.cells #[.int .i64 a11, .slice p12 r11.length q12] 26)).cell? ⟨w12.heap.size, 0, none⟩ = some (.int .i64 a11) := G12.cell 0
    have hc11_20 : w12.heap.size < (w12.alloc (.cells #[.int .i64 a11, .slice p12 r11.length q12] 26)).heap.size := hs12
    have c11_21 : (w12.alloc (.cells #[.int .i64 a11, .slice p12 r11.length q12] 26)).cell? ⟨w12.heap.size, 1, none⟩ = some (.slice p12 r11.length q12) := G12.cell 1
    have hc11_21 : w12.heap.size < (w12.alloc (.cells #[.int .i64 a11, .slice p12 r11.length q12] 26)).heap.size := hs12
    have R11_11 := Lib.hid (o12.reads.below hA12 (Nat.le_refl _))
    have hR11_11 : w12.heap.size ≤ (w12.alloc (.cells #[.int .i64 a11, .slice p12 r11.length q12] 26)).heap.size := Nat.le_of_lt hs12
    generalize w12.alloc (.cells #[.int .i64 a11, .slice p12 r11.length q12] 26) = W12 at bb11 sz11 c11_0 hc11_0 c11_1 hc11_1 c11_2 hc11_2 c11_3 hc11_3 c11_4 hc11_4 c11_5 hc11_5 c11_6 hc11_6 c11_7 hc11_7 c11_8 hc11_8 c11_9 hc11_9 c11_10 hc11_10 c11_11 hc11_11 c11_12 hc11_12 c11_13 hc11_13 c11_14 hc11_14 c11_15 hc11_15 c11_16 hc11_16 c11_17 hc11_17 c11_18 hc11_18 c11_19 hc11_19 R11_0 hR11_0 R11_1 hR11_1 R11_2 hR11_2 R11_3 hR11_3 R11_4 hR11_4 R11_5 hR11_5 R11_6 hR11_6 R11_7 hR11_7 R11_8 hR11_8 R11_9 hR11_9 R11_10 hR11_10 Bw11 c11_20 hc11_20 c11_21 hc11_21 R11_11 hR11_11 ⊢
    clear bb11 sz11
    clear c10_0 c10_1 c10_2 c10_3 c10_4 c10_5 c10_6 c10_7 c10_8 c10_9 c10_10 c10_11 c10_12 c10_13 c10_14 c10_15 c10_16 c10_17 c10_18 c10_19 hc10_0 hc10_1 hc10_2 hc10_3 hc10_4 hc10_5 hc10_6 hc10_7 hc10_8 hc10_9 hc10_10 hc10_11 hc10_12 hc10_13 hc10_14 hc10_15 hc10_16 hc10_17 hc10_18 hc10_19 R10_0 R10_1 R10_2 R10_3 R10_4 R10_5 R10_6 R10_7 R10_8 R10_9 R10_10 hR10_0 hR10_1 hR10_2 hR10_3 hR10_4 hR10_5 hR10_6 hR10_7 hR10_8 hR10_9 hR10_10 k10_0 k10_1 k10_2 k10_3 k10_4 k10_5 k10_6 k10_7 k10_8 k10_9 k10_10 k10_11 k10_12 k10_13 k10_14 k10_15 k10_16 k10_17 k10_18 k10_19 Bw10 G12 o12 b12 hA12 hs12
    generalize w12.heap.size = g12 at *
    have k11_0 := fun p : Past W12 => Past.cell (W := W12) c11_0 hc11_0 p
    have k11_1 := fun p : Past W12 => Past.cell (W := W12) c11_1 hc11_1 p
    have k11_2 := fun p : Past W12 => Past.cell (W := W12) c11_2 hc11_2 p
    have k11_3 := fun p : Past W12 => Past.cell (W := W12) c11_3 hc11_3 p
    have k11_4 := fun p : Past W12 => Past.cell (W := W12) c11_4 hc11_4 p
    have k11_5 := fun p : Past W12 => Past.cell (W := W12) c11_5 hc11_5 p
    have k11_6 := fun p : Past W12 => Past.cell (W := W12) c11_6 hc11_6 p
    have k11_7 := fun p : Past W12 => Past.cell (W := W12) c11_7 hc11_7 p
    have k11_8 := fun p : Past W12 => Past.cell (W := W12) c11_8 hc11_8 p
    have k11_9 := fun p : Past W12 => Past.cell (W := W12) c11_9 hc11_9 p
    have k11_10 := fun p : Past W12 => Past.cell (W := W12) c11_10 hc11_10 p
    have k11_11 := fun p : Past W12 => Past.cell (W := W12) c11_11 hc11_11 p
    have k11_12 := fun p : Past W12 => Past.cell (W := W12) c11_12 hc11_12 p
    have k11_13 := fun p : Past W12 => Past.cell (W := W12) c11_13 hc11_13 p
    have k11_14 := fun p : Past W12 => Past.cell (W := W12) c11_14 hc11_14 p
    have k11_15 := fun p : Past W12 => Past.cell (W := W12) c11_15 hc11_15 p
    have k11_16 := fun p : Past W12 => Past.cell (W := W12) c11_16 hc11_16 p
    have k11_17 := fun p : Past W12 => Past.cell (W := W12) c11_17 hc11_17 p
    have k11_18 := fun p : Past W12 => Past.cell (W := W12) c11_18 hc11_18 p
    have k11_19 := fun p : Past W12 => Past.cell (W := W12) c11_19 hc11_19 p
    have k11_20 := fun p : Past W12 => Past.cell (W := W12) c11_20 hc11_20 p
    have k11_21 := fun p : Past W12 => Past.cell (W := W12) c11_21 hc11_21 p
    have hk2 : (k2 != k2) = false := by simp
    have hk6 : (k6 != k6) = false := by simp
    have hk11 : (k11 != k11) = false := by simp
    have E2 := Lib.hid fun p : Past W12 => p.of (spec_eqc a2 a2 _ _ r2 r2 g2 g3 p.w (Past.reads R11_2.out hR11_2 p) (Past.reads R11_3.out hR11_3 p) (Past.len hR11_2 p) (Past.len hR11_3 p))
    rw [show (a2 == a2 && r2 == r2) = true by simp] at E2
    have E6 := Lib.hid fun p : Past W12 => p.of (spec_eqc a6 a6 _ _ r6 r6 g6 g7 p.w (Past.reads R11_6.out hR11_6 p) (Past.reads R11_7.out hR11_7 p) (Past.len hR11_6 p) (Past.len hR11_7 p))
    rw [show (a6 == a6 && r6 == r6) = true by simp] at E6
    have E11 := Lib.hid fun p : Past W12 => p.of (spec_eqc a11 a11 _ _ r11 r11 g11 g12 p.w (Past.reads R11_10.out hR11_10 p) (Past.reads R11_11.out hR11_11 p) (Past.len hR11_10 p) (Past.len hR11_11 p))
    rw [show (a11 == a11 && r11 == r11) = true by simp] at E11
    obtain ⟨e8, he8⟩ : ∃ t, (a8 == a9 && r8 == r9) = t := ⟨_, rfl⟩
    have EI := Lib.hid fun p : Past W12 => p.of (impl_eqc a8 a9 _ _ r8 r9 g8 g8 p.w (Past.reads R11_8.out hR11_8 p) (Past.reads R11_9.out hR11_9 p) (Past.len hR11_8 p) (Past.len hR11_9 p))
    have ES := Lib.hid fun p : Past W12 => p.of (spec_eqc a8 a9 _ _ r8 r9 g8 g8 p.w (Past.reads R11_8.out hR11_8 p) (Past.reads R11_9.out hR11_9 p) (Past.len hR11_8 p) (Past.len hR11_9 p))
    rw [he8] at EI ES
    clear he8
    have hq8 : (e8 != e8) = false := by simp
    obtain ⟨c4, hc4⟩ : ∃ t, colOf a4 r4 x4 = t := ⟨_, rfl⟩
    have CI := Lib.hid fun p : Past W12 => p.of (impl_col a4 _ r4 x4 g4 p.w (Past.reads R11_4.out hR11_4 p) (Past.len hR11_4 p))
    have CS := Lib.hid fun p : Past W12 => p.of (spec_col a4 _ r4 x4 g4 p.w (Past.reads R11_4.out hR11_4 p) (Past.len hR11_4 p))
    rw [hc4] at CI CS
    clear hc4
    have hq4 : (c4 != c4) = false := by simp
    obtain ⟨i8, hi8⟩ : ∃ t, isCtx a8 r8 = t := ⟨_, rfl⟩
    have EI8 := Lib.hid hi8
    have II := Lib.hid fun p : Past W12 => p.of (impl_isCtx a8 _ r8 g8 p.w (Past.reads R11_8.out hR11_8 p) (Past.len hR11_8 p))
    have IS := Lib.hid fun p : Past W12 => p.of (spec_isCtx a8 _ r8 g8 p.w (Past.reads R11_8.out hR11_8 p) (Past.len hR11_8 p))
    rw [hi8] at II IS
    clear hi8
    have hqi : (i8 != i8) = false := by simp
    have OI := Lib.hid fun p : Past W12 => p.of (impl_objCount a8 _ r8 g8 p.w (Past.reads R11_8.out hR11_8 p) (Past.len hR11_8 p))
    have hqo : ((r8.length : Int) != (r8.length : Int)) = false := by simp
    clear hsp
    go_wp2_with fail
    refine wp_region_pastIn (Past.start W12) (by kernel_rfl) (by kernel_rfl) ?_
    repeat (go_big_quiet_step (first | with_reducible exact E2.out _ | with_reducible exact E6.out _ | with_reducible exact E11.out _ | with_reducible exact EI.out _ | with_reducible exact ES.out _ | with_reducible exact CI.out _ | with_reducible exact CS.out _ | with_reducible exact II.out _ | with_reducible exact IS.out _ | with_reducible exact OI.out _))
    refine wpQuiet_nil ?_
    rintro _ ⟨z1, rfl⟩
    clear E2 E6 E11 EI ES CI CS II IS OI hq8 hq4 hqi hqo hk2 hk6 hk11
    have bb12 := z1.h
    have sz12 := bb12.size
    have c12_0 : (z1.w).cell? ⟨g1, 0, none⟩ = some (.int .i64 a1) := (bb12.cell (p := ⟨g1, 0, none⟩) hc11_0).trans c11_0
    have hc12_0 : g1 < (z1.w).heap.size := Nat.lt_of_lt_of_le hc11_0 sz12
    have c12_1 : (z1.w).cell? ⟨g1, 1, none⟩ = some (.slice p1 r1.length q1) := (bb12.cell (p := ⟨g1, 1, none⟩) hc11_1).trans c11_1
    have hc12_1 : g1 < (z1.w).heap.size := Nat.lt_of_lt_of_le hc11_1 sz12
    have c12_2 : (z1.w).cell? ⟨g2, 0, none⟩ = some (.int .i64 a2) := (bb12.cell (p := ⟨g2, 0, none⟩) hc11_2).trans c11_2
    have hc12_2 : g2 < (z1.w).heap.size := Nat.lt_of_lt_of_le hc11_2 sz12
    have c12_3 : (z1.w).cell? ⟨g2, 1, none⟩ = some (.slice p2 r2.length q2) := (bb12.cell (p := ⟨g2, 1, none⟩) hc11_3).trans c11_3
    have hc12_3 : g2 < (z1.w).heap.size := Nat.lt_of_lt_of_le hc11_3 sz12
    have c12_4 : (z1.w).cell? ⟨g3, 0, none⟩ = some (.int .i64 a2) := (bb12.cell (p := ⟨g3, 0, none⟩) hc11_4).trans c11_4
    have hc12_4 : g3 < (z1.w).heap.size := Nat.lt_of_lt_of_le hc11_4 sz12
    have c12_5 : (z1.w).cell? ⟨g3, 1, none⟩ = some (.slice p3 r2.length q3) := (bb12.cell (p := ⟨g3, 1, none⟩) hc11_5).trans c11_5
    have hc12_5 : g3 < (z1.w).heap.size := Nat.lt_of_lt_of_le hc11_5 sz12
    have c12_6 : (z1.w).cell? ⟨g4, 0, none⟩ = some (.int .i64 a4) := (bb12.cell (p := ⟨g4, 0, none⟩) hc11_6).trans c11_6
    have hc12_6 : g4 < (z1.w).heap.size := Nat.lt_of_lt_of_le hc11_6 sz12
    have c12_7 : (z1.w).cell? ⟨g4, 1, none⟩ = some (.slice p4 r4.length q4) := (bb12.cell (p := ⟨g4, 1, none⟩) hc11_7).trans c11_7
    have hc12_7 : g4 < (z1.w).heap.size := Nat.lt_of_lt_of_le hc11_7 sz12
    have c12_8 : (z1.w).cell? ⟨g5, 0, none⟩ = some (.int .i64 a5) := (bb12.cell (p := ⟨g5, 0, none⟩) hc11_8).trans c11_8
    have hc12_8 : g5 < (z1.w).heap.size := Nat.lt_of_lt_of_le hc11_8 sz12
    have c12_9 : (z1.w).cell? ⟨g5, 1, none⟩ = some (.slice p5 r5.length q5) := (bb12.cell (p := ⟨g5, 1, none⟩) hc11_9).trans c11_9
    have hc12_9 : g5 < (z1.w).heap.size := Nat.lt_of_lt_of_le hc11_9 sz12
    have c12_10 : (z1.w).cell? ⟨g6, 0, none⟩ = some (.int .i64 a6) := (bb12.cell (p := ⟨g6, 0, none⟩) hc11_10).trans c11_10
    have hc12_10 : g6 < (z1.w).heap.size := Nat.lt_of_lt_of_le hc11_10 sz12
    have c12_11 : (z1.w).cell? ⟨g6, 1, none⟩ = some (.slice p6 r6.length q6) := (bb12.cell (p := ⟨g6, 1, none⟩) hc11_11).trans c11_11
    have hc12_11 : g6 < (z1.w).heap.size := Nat.lt_of_lt_of_le hc11_11 sz12
    have c12_12 : (z1.w).cell? ⟨g7, 0, none⟩ = some (.int .i64 a6) := (bb12.cell (p := ⟨g7, 0, none⟩) hc11_12).trans c11_12
    have hc12_12 : g7 < (z1.w).heap.size := Nat.lt_of_lt_of_le hc11_12 sz12
    have c12_13 : (z1.w).cell? ⟨g7, 1, none⟩ = some (.slice p7 r6.length q7) := (bb12.cell (p := ⟨g7, 1, none⟩) hc11_13).trans c11_13
    have hc12_13 : g7 < (z1.w).heap.size := Nat.lt_of_lt_of_le hc11_13 sz12
    have c12_14 : (z1.w).cell? ⟨g8, 0, none⟩ = some (.int .i64 a8) := (bb12.cell (p := ⟨g8, 0, none⟩) hc11_14).trans c11_14
    have hc12_14 : g8 < (z1.w).heap.size := Nat.lt_of_lt_of_le hc11_14 sz12
    have c12_15 : (z1.w).cell? ⟨g8, 1, none⟩ = some (.slice p8 r8.length q8) := (bb12.cell (p := ⟨g8, 1, none⟩) hc11_15).trans c11_15
    have hc12_15 : g8 < (z1.w).heap.size := Nat.lt_of_lt_of_le hc11_15 sz12
    have c12_16 : (z1.w).cell? ⟨g8 + 1, 0, none⟩ = some (.int .i64 a9) := (bb12.cell (p := ⟨g8 + 1, 0, none⟩) hc11_16).trans c11_16
    have hc12_16 : g8 + 1 < (z1.w).heap.size := Nat.lt_of_lt_of_le hc11_16 sz12
    have c12_17 : (z1.w).cell? ⟨g8 + 1, 1, none⟩ = some (.slice p9 r9.length q9) := (bb12.cell (p := ⟨g8 + 1, 1, none⟩) hc11_17).trans c11_17
    have hc12_17 : g8 + 1 < (z1.w).heap.size := Nat.lt_of_lt_of_le hc11_17 sz12
    have c12_18 : (z1.w).cell? ⟨g11, 0, none⟩ = some (.int .i64 a11) := (bb12.cell (p := ⟨g11, 0, none⟩) hc11_18).trans c11_18
    have hc12_18 : g11 < (z1.w).heap.size := Nat.lt_of_lt_of_le hc11_18 sz12
    have c12_19 : (z1.w).cell? ⟨g11, 1, none⟩ = some (.slice p11 r11.length q11) := (bb12.cell (p := ⟨g11, 1, none⟩) hc11_19).trans c11_19
    have hc12_19 : g11 < (z1.w).heap.size := Nat.lt_of_lt_of_le hc11_19 sz12
    have c12_20 : (z1.w).cell? ⟨g12, 0, none⟩ = some (.int .i64 a11) := (bb12.cell (p := ⟨g12, 0, none⟩) hc11_20).trans c11_20
    have hc12_20 : g12 < (z1.w).heap.size := Nat.lt_of_lt_of_le hc11_20 sz12
    have c12_21 : (z1.w).cell? ⟨g12, 1, none⟩ = some (.slice p12 r11.length q12) := (bb12.cell (p := ⟨g12, 1, none⟩) hc11_21).trans c11_21
    have hc12_21 : g12 < (z1.w).heap.size := Nat.lt_of_lt_of_le hc11_21 sz12
    have R12_0 := Lib.hid (R11_0.out.below bb12 hR11_0)
    have hR12_0 : w.heap.size ≤ (z1.w).heap.size := Nat.le_trans hR11_0 sz12
    have R12_1 := Lib.hid (R11_1.out.below bb12 hR11_1)
    have hR12_1 : g1 ≤ (z1.w).heap.size := Nat.le_trans hR11_1 sz12
    have R12_2 := Lib.hid (R11_2.out.below bb12 hR11_2)
    have hR12_2 : g2 ≤ (z1.w).heap.size := Nat.le_trans hR11_2 sz12
    have R12_3 := Lib.hid (R11_3.out.below bb12 hR11_3)
    have hR12_3 : g3 ≤ (z1.w).heap.size := Nat.le_trans hR11_3 sz12
    have R12_4 := Lib.hid (R11_4.out.below bb12 hR11_4)
    have hR12_4 : g4 ≤ (z1.w).heap.size := Nat.le_trans hR11_4 sz12
    have R12_5 := Lib.hid (R11_5.out.below bb12 hR11_5)
    have hR12_5 : g5 ≤ (z1.w).heap.size := Nat.le_trans hR11_5 sz12
    have R12_6 := Lib.hid (R11_6.out.below bb12 hR11_6)
    have hR12_6 : g6 ≤ (z1.w).heap.size := Nat.le_trans hR11_6 sz12
    have R12_7 := Lib.hid (R11_7.out.below bb12 hR11_7)
    have hR12_7 : g7 ≤ (z1.w).heap.size := Nat.le_trans hR11_7 sz12
    have R12_8 := Lib.hid (R11_8.out.below bb12 hR11_8)
    have hR12_8 : g8 ≤ (z1.w).heap.size := Nat.le_trans hR11_8 sz12
    have R12_9 := Lib.hid (R11_9.out.below bb12 hR11_9)
    have hR12_9 : g8 ≤ (z1.w).heap.size := Nat.le_trans hR11_9 sz12
    have R12_10 := Lib.hid (R11_10.out.below bb12 hR11_10)
    have hR12_10 : g11 ≤ (z1.w).heap.size := Nat.le_trans hR11_10 sz12
    have R12_11 := Lib.hid (R11_11.out.below bb12 hR11_11)
    have hR12_11 : g12 ≤ (z1.w).heap.size := Nat.le_trans hR11_11 sz12
    have Bw12 := Lib.hid (Bw11.out.trans (bb12.mono Bw11.out.size))
    generalize z1.w = WZ at bb12 sz12 c12_0 hc12_0 c12_1 hc12_1 c12_2 hc12_2 c12_3 hc12_3 c12_4 hc12_4 c12_5 hc12_5 c12_6 hc12_6 c12_7 hc12_7 c12_8 hc12_8 c12_9 hc12_9 c12_10 hc12_10 c12_11 hc12_11 c12_12 hc12_12 c12_13 hc12_13 c12_14 hc12_14 c12_15 hc12_15 c12_16 hc12_16 c12_17 hc12_17 c12_18 hc12_18 c12_19 hc12_19 c12_20 hc12_20 c12_21 hc12_21 R12_0 hR12_0 R12_1 hR12_1 R12_2 hR12_2 R12_3 hR12_3 R12_4 hR12_4 R12_5 hR12_5 R12_6 hR12_6 R12_7 hR12_7 R12_8 hR12_8 R12_9 hR12_9 R12_10 hR12_10 R12_11 hR12_11 Bw12 ⊢
    clear bb12 sz12
    clear c11_0 c11_1 c11_2 c11_3 c11_4 c11_5 c11_6 c11_7 c11_8 c11_9 c11_10 c11_11 c11_12 c11_13 c11_14 c11_15 c11_16 c11_17 c11_18 c11_19 c11_20 c11_21 hc11_0 hc11_1 hc11_2 hc11_3 hc11_4 hc11_5 hc11_6 hc11_7 hc11_8 hc11_9 hc11_10 hc11_11 hc11_12 hc11_13 hc11_14 hc11_15 hc11_16 hc11_17 hc11_18 hc11_19 hc11_20 hc11_21 R11_0 R11_1 R11_2 R11_3 R11_4 R11_5 R11_6 R11_7 R11_8 R11_9 R11_10 R11_11 hR11_0 hR11_1 hR11_2 hR11_3 hR11_4 hR11_5 hR11_6 hR11_7 hR11_8 hR11_9 hR11_10 hR11_11 k11_0 k11_1 k11_2 k11_3 k11_4 k11_5 k11_6 k11_7 k11_8 k11_9 k11_10 k11_11 k11_12 k11_13 k11_14 k11_15 k11_16 k11_17 k11_18 k11_19 k11_20 k11_21 Bw11
    have k12_0 := fun p : Past WZ => Past.cell (W := WZ) c12_0 hc12_0 p
    have k12_1 := fun p : Past WZ => Past.cell (W := WZ) c12_1 hc12_1 p
    have k12_2 := fun p : Past WZ => Past.cell (W := WZ) c12_2 hc12_2 p
    have k12_3 := fun p : Past WZ => Past.cell (W := WZ) c12_3 hc12_3 p
    have k12_4 := fun p : Past WZ => Past.cell (W := WZ) c12_4 hc12_4 p
    have k12_5 := fun p : Past WZ => Past.cell (W := WZ) c12_5 hc12_5 p
    have k12_6 := fun p : Past WZ => Past.cell (W := WZ) c12_6 hc12_6 p
    have k12_7 := fun p : Past WZ => Past.cell (W := WZ) c12_7 hc12_7 p
    have k12_8 := fun p : Past WZ => Past.cell (W := WZ) c12_8 hc12_8 p
    have k12_9 := fun p : Past WZ => Past.cell (W := WZ) c12_9 hc12_9 p
    have k12_10 := fun p : Past WZ => Past.cell (W := WZ) c12_10 hc12_10 p
    have k12_11 := fun p : Past WZ => Past.cell (W := WZ) c12_11 hc12_11 p
    have k12_12 := fun p : Past WZ => Past.cell (W := WZ) c12_12 hc12_12 p
    have k12_13 := fun p : Past WZ => Past.cell (W := WZ) c12_13 hc12_13 p
    have k12_14 := fun p : Past WZ => Past.cell (W := WZ) c12_14 hc12_14 p
    have k12_15 := fun p : Past WZ => Past.cell (W := WZ) c12_15 hc12_15 p
    have k12_16 := fun p : Past WZ => Past.cell (W := WZ) c12_16 hc12_16 p
    have k12_17 := fun p : Past WZ => Past.cell (W := WZ) c12_17 hc12_17 p
    have k12_18 := fun p : Past WZ => Past.cell (W := WZ) c12_18 hc12_18 p
    have k12_19 := fun p : Past WZ => Past.cell (W := WZ) c12_19 hc12_19 p
    have k12_20 := fun p : Past WZ => Past.cell (W := WZ) c12_20 hc12_20 p
    have k12_21 := fun p : Past WZ => Past.cell (W := WZ) c12_21 hc12_21 p
    obtain ⟨t13, ht13⟩ : ∃ t, CtxText.ctxText a8 r8 = t := ⟨_, rfl⟩
    have ET := Lib.hid ht13
    have hl13 : t13.length ≤ 1048576 := by rw [← ht13]; exact text_len
    have hct := CtxText.impl_ctxText a8 _ r8 g8 (Past.start WZ).w (Past.reads R12_8.out hR12_8 (Past.start WZ)) (Past.len hR12_8 (Past.start WZ)) (HSTD.out.below ((Past.start WZ).below Bw12.out)).pow
    rw [ht13] at hct
    clear ht13
    go_wp2_with fail
    refine hct.mono ?_
    clear hct
    rintro e w13 ⟨rfl, b13⟩
    have bb13 := (Past.start WZ).h.trans (b13.mono (Past.start WZ).h.size)
    have sz13 := bb13.size
    have c13_0 : (w13).cell? ⟨g1, 0, none⟩ = some (.int .i64 a1) := (bb13.cell (p := ⟨g1, 0, none⟩) hc12_0).trans c12_0
    have hc13_0 : g1 < (w13).heap.size := Nat.lt_of_lt_of_le hc12_0 sz13
    have c13_1 : (w13).cell? ⟨g1, 1, none⟩ = some (.slice p1 r1.length q1) := (bb13.cell (p := ⟨g1, 1, none⟩) hc12_1).trans c12_1
    have hc13_1 : g1 < (w13).heap.size := Nat.lt_of_lt_of_le hc12_1 sz13
    have c13_2 : (w13).cell? ⟨g2, 0, none⟩ = some (.int .i64 a2) := (bb13.cell (p := ⟨g2, 0, none⟩) hc12_2).trans c12_2
    have hc13_2 : g2 < (w13).heap.size := Nat.lt_of_lt_of_le hc12_2 sz13
    have c13_3 : (w13).cell? ⟨g2, 1, none⟩ = some (.slice p2 r2.length q2) := (bb13.cell (p := ⟨g2, 1, none⟩) hc12_3).trans c12_3
    have hc13_3 : g2 < (w13).heap.size := Nat.lt_of_lt_of_le hc12_3 sz13
    have c13_4 : (w13).cell? ⟨g3, 0, none⟩ = some (.int .i64 a2) := (bb13.cell (p := ⟨g3, 0, none⟩) hc12_4).trans c12_4
    have hc13_4 : g3 < (w13).heap.size := Nat.lt_of_lt_of_le hc12_4 sz13
    have c13_5 : (w13).cell? ⟨g3, 1, none⟩ = some (.slice p3 r2.length q3) := (bb13.cell (p := ⟨g3, 1, none⟩) hc12_5).trans c12_5
    have hc13_5 : g3 < (w13).heap.size := Nat.lt_of_lt_of_le hc12_5 sz13
    have c13_6 : (w13).cell? ⟨g4, 0, none⟩ = some (.int .i64 a4) := (bb13.cell (p := ⟨g4, 0, none⟩) hc12_6).trans c12_6
    have hc13_6 : g4 < (w13).heap.size := Nat.lt_of_lt_of_le hc12_6 sz13
    have c13_7 : (w13).cell? ⟨g4, 1, none⟩ = some (.slice p4 r4.length q4) := (bb13.cell (p := ⟨g4, 1, none⟩) hc12_7).trans c12_7
    have hc13_7 : g4 < (w13).heap.size := Nat.lt_of_lt_of_le hc12_7 sz13
    have c13_8 : (w13).cell? ⟨g5, 0, none⟩ = some (.int .i64 a5) := (bb13.cell (p := ⟨g5, 0, none⟩) hc12_8).trans c12_8
    have hc13_8 : g5 < (w13).heap.size := Nat.lt_of_lt_of_le hc12_8 sz13
    have c13_9 : (w13).cell? ⟨g5, 1, none⟩ = some (.slice p5 r5.length q5) := (bb13.cell (p := ⟨g5, 1, none⟩) hc12_9).trans c12_9
    have hc13_9 : g5 < (w13).heap.size := Nat.lt_of_lt_of_le hc12_9 sz13
    have c13_10 : (w13).cell? ⟨g6, 0, none⟩ = some (.int .i64 a6) := (bb13.cell (p := ⟨g6, 0, none⟩) hc12_10).trans c12_10
    have hc13_10 : g6 < (w13).heap.size := Nat.lt_of_lt_of_le hc12_10 sz13
    have c13_11 : (w13).cell? ⟨g6, 1, none⟩ = some (.slice p6 r6.length q6) := (bb13.cell (p := ⟨g6, 1, none⟩) hc12_11).trans c12_11
    have hc13_11 : g6 < (w13).heap.size := Nat.lt_of_lt_of_le hc12_11 sz13
    have c13_12 : (w13).cell? ⟨g7, 0, none⟩ = some (.int .i64 a6) := (bb13.cell (p := ⟨g7, 0, none⟩) hc12_12).trans c12_12
    have hc13_12 : g7 < (w13).heap.size := Nat.lt_of_lt_of_le hc12_12 sz13
    have c13_13 : (w13).cell? ⟨g7, 1, none⟩ = some (.slice p7 r6.length q7) := (bb13.cell (p := ⟨g7, 1, none⟩) hc12_13).trans c12_13
    have hc13_13 : g7 < (w13).heap.size := Nat.lt_of_lt_of_le hc12_13 sz13
    have c13_14 : (w13).cell? ⟨g8, 0, none⟩ = some (.int .i64 a8) := (bb13.cell (p := ⟨g8, 0, none⟩) hc12_14).trans c12_14
    have hc13_14 : g8 < (w13).heap.size := Nat.lt_of_lt_of_le hc12_14 sz13
    have c13_15 : (w13).cell? ⟨g8, 1, none⟩ = some (.slice p8 r8.length q8) := (bb13.cell (p := ⟨g8, 1, none⟩) hc12_15).trans c12_15
    have hc13_15 : g8 < (w13).heap.size := Nat.lt_of_lt_of_le hc12_15 sz13
    have c13_16 : (w13).cell? ⟨g8 + 1, 0, none⟩ = some (.int .i64 a9) := (bb13.cell (p := ⟨g8 + 1, 0, none⟩) hc12_16).trans c12_16
    have hc13_16 : g8 + 1 < (w13).heap.size := Nat.lt_of_lt_of_le hc12_16 sz13
    have c13_17 : (w13).cell? ⟨g8 + 1, 1, none⟩ = some (.slice p9 r9.length q9) := (bb13.cell (p := ⟨g8 + 1, 1, none⟩) hc12_17).trans c12_17
    have hc13_17 : g8 + 1 < (w13).heap.size := Nat.lt_of_lt_of_le hc12_17 sz13
    have c13_18 : (w13).cell? ⟨g11, 0, none⟩ = some (.int .i64 a11) := (bb13.cell (p := ⟨g11, 0, none⟩) hc12_18).trans c12_18
    have hc13_18 : g11 < (w13).heap.size := Nat.lt_of_lt_of_le hc12_18 sz13
    have c13_19 : (w13).cell? ⟨g11, 1, none⟩ = some (.slice p11 r11.length q11) := (bb13.cell (p := ⟨g11, 1, none⟩) hc12_19).trans c12_19
    have hc13_19 : g11 < (w13).heap.size := Nat.lt_of_lt_of_le hc12_19 sz13
    have c13_20 : (w13).cell? ⟨g12, 0, none⟩ = some (.int .i64 a11) := (bb13.cell (p := ⟨g12, 0, none⟩) hc12_20).trans c12_20
    have hc13_20 : g12 < (w13).heap.size := Nat.lt_of_lt_of_le hc12_20 sz13
    have c13_21 : (w13).cell? ⟨g12, 1, none⟩ = some (.slice p12 r11.length q12) := (bb13.cell (p := ⟨g12, 1, none⟩) hc12_21).trans c12_21
    have hc13_21 : g12 < (w13).heap.size := Nat.lt_of_lt_of_le hc12_21 sz13
    have R13_0 := Lib.hid (R12_0.out.below bb13 hR12_0)
    have hR13_0 : w.heap.size ≤ (w13).heap.size := Nat.le_trans hR12_0 sz13
    have R13_1 := Lib.hid (R12_1.out.below bb13 hR12_1)
    have hR13_1 : g1 ≤ (w13).heap.size := Nat.le_trans hR12_1 sz13
    have R13_2 := Lib.hid (R12_2.out.below bb13 hR12_2)
    have hR13_2 : g2 ≤ (w13).heap.size := Nat.le_trans hR12_2 sz13
    have R13_3 := Lib.hid (R12_3.out.below bb13 hR12_3)
    have hR13_3 : g3 ≤ (w13).heap.size := Nat.le_trans hR12_3 sz13
    have R13_4 := Lib.hid (R12_4.out.below bb13 hR12_4)
    have hR13_4 : g4 ≤ (w13).heap.size := Nat.le_trans hR12_4 sz13
    have R13_5 := Lib.hid (R12_5.out.below bb13 hR12_5)
    have hR13_5 : g5 ≤ (w13).heap.size := Nat.le_trans hR12_5 sz13
    have R13_6 := Lib.hid (R12_6.out.below bb13 hR12_6)
    have hR13_6 : g6 ≤ (w13).heap.size := Nat.le_trans hR12_6 sz13
    have R13_7 := Lib.hid (R12_7.out.below bb13 hR12_7)
    have hR13_7 : g7 ≤ (w13).heap.size := Nat.le_trans hR12_7 sz13
    have R13_8 := Lib.hid (R12_8.out.below bb13 hR12_8)
    have hR13_8 : g8 ≤ (w13).heap.size := Nat.le_trans hR12_8 sz13
    have R13_9 := Lib.hid (R12_9.out.below bb13 hR12_9)
    have hR13_9 : g8 ≤ (w13).heap.size := Nat.le_trans hR12_9 sz13
    have R13_10 := Lib.hid (R12_10.out.below bb13 hR12_10)
    have hR13_10 : g11 ≤ (w13).heap.size := Nat.le_trans hR12_10 sz13
    have R13_11 := Lib.hid (R12_11.out.below bb13 hR12_11)
    have hR13_11 : g12 ≤ (w13).heap.size := Nat.le_trans hR12_11 sz13
    have Bw13 := Lib.hid (Bw12.out.trans (bb13.mono Bw12.out.size))
    generalize w13 = W13 at bb13 sz13 c13_0 hc13_0 c13_1 hc13_1 c13_2 hc13_2 c13_3 hc13_3 c13_4 hc13_4 c13_5 hc13_5 c13_6 hc13_6 c13_7 hc13_7 c13_8 hc13_8 c13_9 hc13_9 c13_10 hc13_10 c13_11 hc13_11 c13_12 hc13_12 c13_13 hc13_13 c13_14 hc13_14 c13_15 hc13_15 c13_16 hc13_16 c13_17 hc13_17 c13_18 hc13_18 c13_19 hc13_19 c13_20 hc13_20 c13_21 hc13_21 R13_0 hR13_0 R13_1 hR13_1 R13_2 hR13_2 R13_3 hR13_3 R13_4 hR13_4 R13_5 hR13_5 R13_6 hR13_6 R13_7 hR13_7 R13_8 hR13_8 R13_9 hR13_9 R13_10 hR13_10 R13_11 hR13_11 Bw13 ⊢
    clear bb13 sz13
    clear c12_0 c12_1 c12_2 c12_3 c12_4 c12_5 c12_6 c12_7 c12_8 c12_9 c12_10 c12_11 c12_12 c12_13 c12_14 c12_15 c12_16 c12_17 c12_18 c12_19 c12_20 c12_21 hc12_0 hc12_1 hc12_2 hc12_3 hc12_4 hc12_5 hc12_6 hc12_7 hc12_8 hc12_9 hc12_10 hc12_11 hc12_12 hc12_13 hc12_14 hc12_15 hc12_16 hc12_17 hc12_18 hc12_19 hc12_20 hc12_21 R12_0 R12_1 R12_2 R12_3 R12_4 R12_5 R12_6 R12_7 R12_8 R12_9 R12_10 R12_11 hR12_0 hR12_1 hR12_2 hR12_3 hR12_4 hR12_5 hR12_6 hR12_7 hR12_8 hR12_9 hR12_10 hR12_11 k12_0 k12_1 k12_2 k12_3 k12_4 k12_5 k12_6 k12_7 k12_8 k12_9 k12_10 k12_11 k12_12 k12_13 k12_14 k12_15 k12_16 k12_17 k12_18 k12_19 k12_20 k12_21 Bw12 b13
    have k13_0 := fun p : Past W13 => Past.cell (W := W13) c13_0 hc13_0 p
    have k13_1 := fun p : Past W13 => Past.cell (W := W13) c13_1 hc13_1 p
    have k13_2 := fun p : Past W13 => Past.cell (W := W13) c13_2 hc13_2 p
    have k13_3 := fun p : Past W13 => Past.cell (W := W13) c13_3 hc13_3 p
    have k13_4 := fun p : Past W13 => Past.cell (W := W13) c13_4 hc13_4 p
    have k13_5 := fun p : Past W13 => Past.cell (W := W13) c13_5 hc13_5 p
    have k13_6 := fun p : Past W13 => Past.cell (W := W13) c13_6 hc13_6 p
    have k13_7 := fun p : Past W13 => Past.cell (W := W13) c13_7 hc13_7 p
    have k13_8 := fun p : Past W13 => Past.cell (W := W13) c13_8 hc13_8 p
    have k13_9 := fun p : Past W13 => Past.cell (W := W13) c13_9 hc13_9 p
    have k13_10 := fun p : Past W13 => Past.cell (W := W13) c13_10 hc13_10 p
    have k13_11 := fun p : Past W13 => Past.cell (W := W13) c13_11 hc13_11 p
    have k13_12 := fun p : Past W13 => Past.cell (W := W13) c13_12 hc13_12 p
    have k13_13 := fun p : Past W13 => Past.cell (W := W13) c13_13 hc13_13 p
    have k13_14 := fun p : Past W13 => Past.cell (W := W13) c13_14 hc13_14 p
    have k13_15 := fun p : Past W13 => Past.cell (W := W13) c13_15 hc13_15 p
    have k13_16 := fun p : Past W13 => Past.cell (W := W13) c13_16 hc13_16 p
    have k13_17 := fun p : Past W13 => Past.cell (W := W13) c13_17 hc13_17 p
    have k13_18 := fun p : Past W13 => Past.cell (W := W13) c13_18 hc13_18 p
    have k13_19 := fun p : Past W13 => Past.cell (W := W13) c13_19 hc13_19 p
    have k13_20 := fun p : Past W13 => Past.cell (W := W13) c13_20 hc13_20 p
    have k13_21 := fun p : Past W13 => Past.cell (W := W13) c13_21 hc13_21 p
    obtain ⟨a14, hn14⟩ : ∃ n, ((Pctx.prog t13).getD (0, [])).1 = n := ⟨_, rfl⟩
    obtain ⟨r14, hr14⟩ : ∃ n, ((Pctx.prog t13).getD (0, [])).2 = n := ⟨_, rfl⟩
    obtain ⟨k14, hk14⟩ : ∃ n, (Pctx.prog t13).isSome = n := ⟨_, rfl⟩
    have EN14 := Lib.hid hn14
    have ER14 := Lib.hid hr14
    have EK14 := Lib.hid hk14
    clear hn14 hr14 hk14
    go_wp2_with fail
    refine (Pctx.impl_pctx t13 hl13 (Past.start W13).w (HSTD.out.below ((Past.start W13).below Bw13.out)) (Split.shaped_below HSH.out ((Past.start W13).below Bw13.out)) ((((Past.start W13).below Bw13.out).cell (p := ⟨0, 0, none⟩) (Pctx.gErr_lt HG.out)).trans HG.out)).mono ?_
    rintro e w14 hres
    obtain ⟨p14, q14, rfl, o14, b14⟩ := asCtx EN14.out ER14.out EK14.out hres
    clear hres
    have hA14 := (Below.refl w14.heap.size w14).alloc (Nat.le_refl _) (.cells #[.int .i64 a14, .slice p14 r14.length q14] 26)
    go_upto_region 18 with fail
    have hs14 : w14.heap.size < (w14.alloc (.cells #[.int .i64 a14, .slice p14 r14.length q14] 26)).heap.size := by simp
    have G14 := BoxAt.new w14 26 #[.int .i64 a14, .slice p14 r14.length q14]
    have bb14 := (Past.start W13).h.trans ((b14.trans (hA14.mono b14.size)).mono (Past.start W13).h.size)
    have sz14 := bb14.size
    have c14_0 : (w14.alloc (.cells #[.int .i64 a14, .slice p14 r14.length q14] 26)).cell? ⟨g1, 0, none⟩ = some (.int .i64 a1) := (bb14.cell (p := ⟨g1, 0, none⟩) hc13_0).trans c13_0
    have hc14_0 : g1 < (w14.alloc (.cells #[.int .i64 a14, .slice p14 r14.length q14] 26)).heap.size := Nat.lt_of_lt_of_le hc13_0 sz14
    have c14_1 : (w14.alloc (.cells #[.int .i64 a14, .slice p14 r14.length q14] 26)).cell? ⟨g1, 1, none⟩ = some (.slice p1 r1.length q1) := (bb14.cell (p := ⟨g1, 1, none⟩) hc13_1).trans c13_1
    have hc14_1 : g1 < (w14.alloc (.cells #[.int .i64 a14, .slice p14 r14.length q14] 26)).heap.size := Nat.lt_of_lt_of_le hc13_1 sz14
    have c14_2 : (w14.alloc (.cells #[.int .i64 a14, .slice p14 r14.length q14] 26)).cell? ⟨g2, 0, none⟩ = some (.int .i64 a2) := (bb14.cell (p := ⟨g2, 0, none⟩) hc13_2).trans c13_2
    have hc14_2 : g2 < (w14.alloc (.cells #[.int .i64 a14, .slice p14 r14.length q14] 26)).heap.size := Nat.lt_of_lt_of_le hc13_2 sz14
    have c14_3 : (w14.alloc (.cells #[.int .i64 a14, .slice p14 r14.length q14] 26)).cell? ⟨g2, 1, none⟩ = some (.slice p2 r2.length q2) := (bb14.cell (p := ⟨g2, 1, none⟩) hc13_3).trans c13_3
    have hc14_3 : g2 < (w14.alloc (.cells #[.int .i64 a14, .slice p14 r14.length q14] 26)).heap.size := Nat.lt_of_lt_of_le hc13_3 sz14
    have c14_4 : (w14.alloc (.cells #[.int .i64 a14, .slice p14 r14.length q14] 26)).cell? ⟨g3, 0, none⟩ = some (.int .i64 a2) := (bb14.cell (p := ⟨g3, 0, none⟩) hc13_4).trans c13_4
    have hc14_4 : g3 < (w14.alloc (.cells #[.int .i64 a14, .slice p14 r14.length q14] 26)).heap.size := Nat.lt_of_lt_of_le hc13_4 sz14
    have c14_5 : (w14.alloc (.cells #[.int .i64 a14, .slice p14 r14.length q14] 26)).cell? ⟨g3, 1, none⟩ = some (.slice p3 r2.length q3) := (bb14.cell (p := ⟨g3, 1, none⟩) hc13_5).trans c13_5
    have hc14_5 : g3 < (w14.alloc (.cells #[.int .i64 a14, .slice p14 r14.length q14] 26)).heap.size := Nat.lt_of_lt_of_le hc13_5 sz14
    have c14_6 : (w14.alloc (.cells #[.int .i64 a14, .slice p14 r14.length q14] 26)).cell? ⟨g4, 0, none⟩ = some (.int .i64 a4) := (bb14.cell (p := ⟨g4, 0, none⟩) hc13_6).trans c13_6
    have hc14_6 : g4 < (w14.alloc (.cells #[.int .i64 a14, .slice p14 r14.length q14] 26)).heap.size := Nat.lt_of_lt_of_le hc13_6 sz14
    have c14_7 : (w14.alloc (.cells #[.int .i64 a14, .slice p14 r14.length q14] 26)).cell? ⟨g4, 1, none⟩ = some (.slice p4 r4.length q4) := (bb14.cell (p := ⟨g4, 1, none⟩) hc13_7).trans c13_7
    have hc14_7 : g4 < (w14.alloc (.cells #[.int .i64 a14, .slice p14 r14.length q14] 26)).heap.size := Nat.lt_of_lt_of_le hc13_7 sz14
    have c14_8 : (w14.alloc (.cells #[.int .i64 a14, .slice p14 r14.length q14] 26)).cell? ⟨g5, 0, none⟩ = some (.int .i64 a5) := (bb14.cell (p := ⟨g5, 0, none⟩) hc13_8).trans c13_8
    have hc14_8 : g5 < (w14.alloc (.cells #[.int .i64 a14, .slice p14 r14.length q14] 26)).heap.size := Nat.lt_of_lt_of_le hc13_8 sz14
    have c14_9 : (w14.alloc (.cells #[.int .i64 a14, .slice p14 r14.length q14] 26)).cell? ⟨g5, 1, none⟩ = some (.slice p5 r5.length q5) := (bb14.cell (p := ⟨g5, 1, none⟩) hc13_9).trans c13_9
    have hc14_9 : g5 < (w14.alloc (.cells #[.int .i64 a14, .slice p14 r14.length q14] 26)).heap.size := Nat.lt_of_lt_of_le hc13_9 sz14
    have c14_10 : (w14.alloc (.cells #[.int .i64 a14, .slice p14 r14.length q14] 26)).cell? ⟨g6, 0, none⟩ = some (.int .i64 a6) := (bb14.cell (p := ⟨g6, 0, none⟩) hc13_10).trans c13_10
    have hc14_10 : g6 < (w14.alloc (.cells #[.int .i64 a14, .slice p14 r14.length q14] 26)).heap.size := Nat.lt_of_lt_of_le hc13_10 sz14
    have c14_11 : (w14.alloc (.cells #[.int .i64 a14, .slice p14 r14.length q14] 26)).cell? ⟨g6, 1, none⟩ = some (.slice p6 r6.length q6) := (bb14.cell (p := ⟨g6, 1, none⟩) hc13_11).trans c13_11
    have hc14_11 : g6 < (w14.alloc (.cells #[.int .i64 a14, .slice p14 r14.length q14] 26)).heap.size := Nat.lt_of_lt_of_le hc13_11 sz14
    have c14_12 : (w14.alloc (.cells #[.int .i64 a14, .slice p14 r14.length q14] 26)).cell? ⟨g7, 0, none⟩ = some (.int .i64 a6) := (bb14.cell (p := ⟨g7, 0, none⟩) hc13_12).trans c13_12
    have hc14_12 : g7 < (w14.alloc (.cells #[.int .i64 a14, .slice p14 r14.length q14] 26)).heap.size := Nat.lt_of_lt_of_le hc13_12 sz14
    have c14_13 : (w14.alloc (.cells #[.int .i64 a14, .slice p14 r14.length q14] 26)).cell? ⟨g7, 1, none⟩ = some (.slice p7 r6.length q7) := (bb14.cell (p := ⟨g7, 1, none⟩) hc13_13).trans c13_13
    have hc14_13 : g7 < (w14.alloc (.cells #[.int .i64 a14, .slice p14 r14.length q14] 26)).heap.size := Nat.lt_of_lt_of_le hc13_13 sz14
    have c14_14 : (w14.alloc (.cells #[.int .i64 a14, .slice p14 r14.length q14] 26)).cell? ⟨g8, 0, none⟩ = some (.int .i64 a8) := (bb14.cell (p := ⟨g8, 0, none⟩) hc13_14).trans c13_14
    have hc14_14 : g8 < (w14.alloc (.cells #[.int .i64 a14, .slice p14 r14.length q14] 26)).heap.size := Nat.lt_of_lt_of_le hc13_14 sz14
    have c14_15 : (w14.alloc (.cells #[.int .i64 a14, .slice p14 r14.length q14] 26)).cell? ⟨g8, 1, none⟩ = some (.slice p8 r8.length q8) := (bb14.cell (p := ⟨g8, 1, none⟩) hc13_15).trans c13_15
    have hc14_15 : g8 < (w14.alloc (.cells #[.int .i64 a14, .slice p14 r14.length q14] 26)).heap.size := Nat.lt_of_lt_of_le hc13_15 sz14
    have c14_16 : (w14.alloc (.cells #[.int .i64 a14, .slice p14 r14.length q14] 26)).cell? ⟨g8 + 1, 0, none⟩ = some (.int .i64 a9) := (bb14.cell (p := ⟨g8 + 1, 0, none⟩) hc13_16).trans c13_16
    have hc14_16 : g8 + 1 < (w14.alloc (.cells #[.int .i64 a14, .slice p14 r14.length q14] 26)).heap.size := Nat.lt_of_lt_of_le hc13_16 sz14
    have c14_17 : (w14.alloc (.cells #[.int .i64 a14, .slice p14 r14.length q14] 26)).cell? ⟨g8 + 1, 1, none⟩ = some (.slice p9 r9.length q9) := (bb14.cell (p := ⟨g8 + 1, 1, none⟩) hc13_17).trans c13_17
    have hc14_17 : g8 + 1 < (w14.alloc (.cells #[.int .i64 a14, .slice p14 r14.length q14] 26)).heap.size := Nat.lt_of_lt_of_le hc13_17 sz14
    have c14_18 : (w14.alloc (.cells #[.int .i64 a14, .slice p14 r14.length q14] 26)).cell? ⟨g11, 0, none⟩ = some (.int .i64 a11) := (bb14.cell (p := ⟨g11, 0, none⟩) hc13_18).trans c13_18
    have hc14_18 : g11 < (w14.alloc (.cells #[.int .i64 a14, .slice p14 r14.length q14] 26)).heap.size := Nat.lt_of_lt_of_le hc13_18 sz14
    have c14_19 : (w14.alloc (.cells #[.int .i64 a14, .slice p14 r14.length q14] 26)).cell? ⟨g11, 1, none⟩ = some (.slice p11 r11.length q11) := (bb14.cell (p := ⟨g11, 1, none⟩) hc13_19).trans c13_19
    have hc14_19 : g11 < (w14.alloc (.cells #[.int .i64 a14, .slice p14 r14.length q14] 26)).heap.size := Nat.lt_of_lt_of_le hc13_19 sz14
    have c14_20 : (w14.alloc (.cells #[.int .i64 a14, .slice p14 r14.length q14] 26)).cell? ⟨g12, 0, none⟩ = some (.int .i64 a11) := (bb14.cell (p := ⟨g12, 0, none⟩) hc13_20).trans c13_20
    have hc14_20 : g12 < (w14.alloc (.cells #[.int .i64 a14, .slice p14 r14.length q14] 26)).heap.size := Nat.lt_of_lt_of_le hc13_20 sz14
    have c14_21 : (w14.alloc (.cells #[.int .i64 a14, .slice p14 r14.length q14] 26)).cell? ⟨g12, 1, none⟩ = some (.slice p12 r11.length q12) := (bb14.cell (p := ⟨g12, 1, none⟩) hc13_21).trans c13_21
    have hc14_21 : g12 < (w14.alloc (.cells #[.int .i64 a14, .slice p14 r14.length q14] 26)).heap.size := Nat.lt_of_lt_of_le hc13_21 sz14
    have R14_0 := Lib.hid (R13_0.out.below bb14 hR13_0)
    have hR14_0 : w.heap.size ≤ (w14.alloc (.cells #[.int .i64 a14, .slice p14 r14.length q14] 26)).heap.size := Nat.le_trans hR13_0 sz14
    have R14_1 := Lib.hid (R13_1.out.below bb14 hR13_1)
    have hR14_1 : g1 ≤ (w14.alloc (.cells #[.int .i64 a14, .slice p14 r14.length q14] 26)).heap.size := Nat.le_trans hR13_1 sz14
    have R14_2 := Lib.hid (R13_2.out.below bb14 hR13_2)
    have hR14_2 : g2 ≤ (w14.alloc (.cells #[.int .i64 a14, .slice p14 r14.length q14] 26)).heap.size := Nat.le_trans hR13_2 sz14
    have R14_3 := Lib.hid (R13_3.out.below bb14 hR13_3)
    have hR14_3 : g3 ≤ (w14.alloc (.cells #[.int .i64 a14, .slice p14 r14.length q14] 26)).heap.size := Nat.le_trans hR13_3 sz14
    have R14_4 := Lib.hid (R13_4.out.below bb14 hR13_4)
    have hR14_4 : g4 ≤ (w14.alloc (.cells #[.int .i64 a14, .slice p14 r14.length q14] 26)).heap.size := Nat.le_trans hR13_4 sz14
    have R14_5 := Lib.hid (R13_5.out.below bb14 hR13_5)
    have hR14_5 : g5 ≤ (w14.alloc (.cells #[.int .i64 a14, .slice p14 r14.length q14] 26)).heap.size := Nat.le_trans hR13_5 sz14
    have R14_6 := Lib.hid (R13_6.out.below bb14 hR13_6)
    have hR14_6 : g6 ≤ (w14.alloc (.cells #[.int .i64 a14, .slice p14 r14.length q14] 26)).heap.size := Nat.le_trans hR13_6 sz14
    have R14_7 := Lib.hid (R13_7.out.below bb14 hR13_7)
    have hR14_7 : g7 ≤ (w14.alloc (.cells #[.int .i64 a14, .slice p14 r14.length q14] 26)).heap.size := Nat.le_trans hR13_7 sz14
    have R14_8 := Lib.hid (R13_8.out.below bb14 hR13_8)
    have hR14_8 : g8 ≤ (w14.alloc (.cells #[.int .i64 a14, .slice p14 r14.length q14] 26)).heap.size := Nat.le_trans hR13_8 sz14
    have R14_9 := Lib.hid (R13_9.out.below bb14 hR13_9)
    have hR14_9 : g8 ≤ (w14.alloc (.cells #[.int .i64 a14, .slice p14 r14.length q14] 26)).heap.size := Nat.le_trans hR13_9 sz14
    have R14_10 := Lib.hid (R13_10.out.below bb14 hR13_10)
    have hR14_10 : g11 ≤ (w14.alloc (.cells #[.int .i64 a14, .slice p14 r14.length q14] 26)).heap.size := Nat.le_trans hR13_10 sz14
    have R14_11 := Lib.hid (R13_11.out.below bb14 hR13_11)
    have hR14_11 : g12 ≤ (w14.alloc (.cells #[.int .i64 a14, .slice p14 r14.length q14] 26)).heap.size := Nat.le_trans hR13_11 sz14
    have Bw14 := Lib.hid (Bw13.out.trans (bb14.mono Bw13.out.size))
    have c14_22 : (w14.alloc (.cells #[.int .i64 a14, .slice p14 r14.length q14] 26)).cell? ⟨w14.heap.size, 0, none⟩ = some (.int .i64 a14) := G14.cell 0
    have hc14_22 : w14.heap.size < (w14.alloc (.cells #[.int .i64 a14, .slice p14 r14.length q14] 26)).heap.size := hs14
    have c14_23 : (w14.alloc (.cells #[.int .i64 a14, .slice p14 r14.length q14] 26)).cell? ⟨w14.heap.size, 1, none⟩ = some (.slice p14 r14.length q14) := G14.cell 1
    have hc14_23 : w14.heap.size < (w14.alloc (.cells #[.int .i64 a14, .slice p14 r14.length q14] 26)).heap.size := hs14
    have R14_12 := Lib.hid (o14.reads.below hA14 (Nat.le_refl _))
    have hR14_12 : w14.heap.size ≤ (w14.alloc (.cells #[.int .i64 a14, .slice p14 r14.length q14] 26)).heap.size := Nat.le_of_lt hs14
    generalize w14.alloc (.cells #[.int .i64 a14, .slice p14 r14.length q14] 26) = W14 at bb14 sz14 c14_0 hc14_0 c14_1 hc14_1 c14_2 hc14_2 c14_3 hc14_3 c14_4 hc14_4 c14_5 hc14_5 c14_6 hc14_6 c14_7 hc14_7 c14_8 hc14_8 c14_9 hc14_9 c14_10 hc14_10 c14_11 hc14_11 c14_12 hc14_12 c14_13 hc14_13 c14_14 hc14_14 c14_15 hc14_15 c14_16 hc14_16 c14_17 hc14_17 c14_18 hc14_18 c14_19 hc14_19 c14_20 hc14_20 c14_21 hc14_21 R14_0 hR14_0 R14_1 hR14_1 R14_2 hR14_2 R14_3 hR14_3 R14_4 hR14_4 R14_5 hR14_5 R14_6 hR14_6 R14_7 hR14_7 R14_8 hR14_8 R14_9 hR14_9 R14_10 hR14_10 R14_11 hR14_11 Bw14 c14_22 hc14_22 c14_23 hc14_23 R14_12 hR14_12 ⊢
    clear bb14 sz14
    clear c13_0 c13_1 c13_2 c13_3 c13_4 c13_5 c13_6 c13_7 c13_8 c13_9 c13_10 c13_11 c13_12 c13_13 c13_14 c13_15 c13_16 c13_17 c13_18 c13_19 c13_20 c13_21 hc13_0 hc13_1 hc13_2 hc13_3 hc13_4 hc13_5 hc13_6 hc13_7 hc13_8 hc13_9 hc13_10 hc13_11 hc13_12 hc13_13 hc13_14 hc13_15 hc13_16 hc13_17 hc13_18 hc13_19 hc13_20 hc13_21 R13_0 R13_1 R13_2 R13_3 R13_4 R13_5 R13_6 R13_7 R13_8 R13_9 R13_10 R13_11 hR13_0 hR13_1 hR13_2 hR13_3 hR13_4 hR13_5 hR13_6 hR13_7 hR13_8 hR13_9 hR13_10 hR13_11 k13_0 k13_1 k13_2 k13_3 k13_4 k13_5 k13_6 k13_7 k13_8 k13_9 k13_10 k13_11 k13_12 k13_13 k13_14 k13_15 k13_16 k13_17 k13_18 k13_19 k13_20 k13_21 Bw13 G14 o14 b14 hA14 hs14
    generalize w14.heap.size = g14 at *
    have k14_0 := fun p : Past W14 => Past.cell (W := W14) c14_0 hc14_0 p
    have k14_1 := fun p : Past W14 => Past.cell (W := W14) c14_1 hc14_1 p
    have k14_2 := fun p : Past W14 => Past.cell (W := W14) c14_2 hc14_2 p
    have k14_3 := fun p : Past W14 => Past.cell (W := W14) c14_3 hc14_3 p
    have k14_4 := fun p : Past W14 => Past.cell (W := W14) c14_4 hc14_4 p
    have k14_5 := fun p : Past W14 => Past.cell (W := W14) c14_5 hc14_5 p
    have k14_6 := fun p : Past W14 => Past.cell (W := W14) c14_6 hc14_6 p
    have k14_7 := fun p : Past W14 => Past.cell (W := W14) c14_7 hc14_7 p
    have k14_8 := fun p : Past W14 => Past.cell (W := W14) c14_8 hc14_8 p
    have k14_9 := fun p : Past W14 => Past.cell (W := W14) c14_9 hc14_9 p
    have k14_10 := fun p : Past W14 => Past.cell (W := W14) c14_10 hc14_10 p
    have k14_11 := fun p : Past W14 => Past.cell (W := W14) c14_11 hc14_11 p
    have k14_12 := fun p : Past W14 => Past.cell (W := W14) c14_12 hc14_12 p
    have k14_13 := fun p : Past W14 => Past.cell (W := W14) c14_13 hc14_13 p
    have k14_14 := fun p : Past W14 => Past.cell (W := W14) c14_14 hc14_14 p
    have k14_15 := fun p : Past W14 => Past.cell (W := W14) c14_15 hc14_15 p
    have k14_16 := fun p : Past W14 => Past.cell (W := W14) c14_16 hc14_16 p
    have k14_17 := fun p : Past W14 => Past.cell (W := W14) c14_17 hc14_17 p
    have k14_18 := fun p : Past W14 => Past.cell (W := W14) c14_18 hc14_18 p
    have k14_19 := fun p : Past W14 => Past.cell (W := W14) c14_19 hc14_19 p
    have k14_20 := fun p : Past W14 => Past.cell (W := W14) c14_20 hc14_20 p
    have k14_21 := fun p : Past W14 => Past.cell (W := W14) c14_21 hc14_21 p
    have k14_22 := fun p : Past W14 => Past.cell (W := W14) c14_22 hc14_22 p
    have k14_23 := fun p : Past W14 => Past.cell (W := W14) c14_23 hc14_23 p
    have hrt := read_text (a := a8) (rs := r8) (n := a14) (xs := r14) (ok := k14) (by rw [ET.out]; exact EN14.out) (by rw [ET.out]; exact ER14.out) (by rw [ET.out]; exact EK14.out)
    rw [EI8.out] at hrt
    obtain ⟨hk14, hrt2⟩ := hrt
    have TS := Lib.hid fun p : Past W14 => p.of (CtxText.spec_ctxText a8 _ r8 g8 p.w (Past.reads R14_8.out hR14_8 p) (Past.len hR14_8 p))
    rw [ET.out] at TS
    have IS := Lib.hid fun p : Past W14 => p.of (spec_isCtx a8 _ r8 g8 p.w (Past.reads R14_8.out hR14_8 p) (Past.len hR14_8 p))
    rw [EI8.out] at IS
    have hqt : (t13 == t13) = true := by simp
    have hqk : (i8 != i8) = false := by simp
    have EY := Lib.hid fun p : Past W14 => p.of (spec_eqc a14 a8 _ _ r14 r8 g14 g8 p.w (Past.reads R14_12.out hR14_12 p) (Past.reads R14_8.out hR14_8 p) (Past.len hR14_12 p) (Past.len hR14_8 p))
    go_cut [166] (fun s166 wx => s166 = .bool false ∧ ∃ p : Past W14, wx = p.w)
    case first =>
      subst hk14
      cases k14 with
      | false =>
        have ka14 := k14_14 (Past.start W14)
        have ka15 := k14_15 (Past.start W14)
        go_wp2_with fail
        refine (TS.out (Past.start W14)).mono ?_
        rintro e _ ⟨rfl, y1, rfl⟩
        have kb14 := k14_14 y1
        have kb15 := k14_15 y1
        go_wp2_with fail
        refine (IS.out y1).mono ?_
        rintro e _ ⟨rfl, y2, rfl⟩
        go_wp2_with fail
        go_meet
        exact ⟨rfl, y2, rfl⟩
      | true =>
        obtain ⟨ha, hr⟩ := hrt2 rfl
        rw [show (a14 == a8 && r14 == r8) = true by rw [ha, hr]; simp] at EY
        clear ha hr hrt2
        have ka14 := k14_14 (Past.start W14)
        have ka15 := k14_15 (Past.start W14)
        go_wp2_with fail
        refine (TS.out (Past.start W14)).mono ?_
        rintro e _ ⟨rfl, y1, rfl⟩
        have kb14 := k14_14 y1
        have kb15 := k14_15 y1
        go_wp2_with fail
        refine (IS.out y1).mono ?_
        rintro e _ ⟨rfl, y2, rfl⟩
        have kc14 := k14_14 y2
        have kc15 := k14_15 y2
        have kc22 := k14_22 y2
        have kc23 := k14_23 y2
        go_wp2_with fail
        refine (EY.out y2).mono ?_
        rintro e _ ⟨rfl, y3, rfl⟩
        go_wp2_with fail
        go_meet
        exact ⟨rfl, y3, rfl⟩
    case rest =>
    obtain ⟨rfl, z5, rfl⟩ := hcut
    clear TS IS EY hqt hqk hrt2 EN14 ER14 EK14 ET EI8
    have bb15 := z5.h
    have sz15 := bb15.size
    have c15_0 : (z5.w).cell? ⟨g1, 0, none⟩ = some (.int .i64 a1) := (bb15.cell (p := ⟨g1, 0, none⟩) hc14_0).trans c14_0
    have hc15_0 : g1 < (z5.w).heap.size := Nat.lt_of_lt_of_le hc14_0 sz15
    have c15_1 : (z5.w).cell? ⟨g1, 1, none⟩ = some (.slice p1 r1.length q1) := (bb15.cell (p := ⟨g1, 1, none⟩) hc14_1).trans c14_1
    have hc15_1 : g1 < (z5.w).heap.size := Nat.lt_of_lt_of_le hc14_1 sz15
    have c15_2 : (z5.w).cell? ⟨g2, 0, none⟩ = some (.int .i64 a2) := (bb15.cell (p := ⟨g2, 0, none⟩) hc14_2).trans c14_2
    have hc15_2 : g2 < (z5.w).heap.size := Nat.lt_of_lt_of_le hc14_2 sz15
    have c15_3 : (z5.w).cell? ⟨g2, 1, none⟩ = some (.slice p2 r2.length q2) := (bb15.cell (p := ⟨g2, 1, none⟩) hc14_3).trans c14_3
    have hc15_3 : g2 < (z5.w).heap.size := Nat.lt_of_lt_of_le hc14_3 sz15
    have c15_4 : (z5.w).cell? ⟨g3, 0, none⟩ = some (.int .i64 a2) := (bb15.cell (p := ⟨g3, 0, none⟩) hc14_4).trans c14_4
    have hc15_4 : g3 < (z5.w).heap.size := Nat.lt_of_lt_of_le hc14_4 sz15
    have c15_5 : (z5.w).cell? ⟨g3, 1, none⟩ = some (.slice p3 r2.length q3) := (bb15.cell (p := ⟨g3, 1, none⟩) hc14_5).trans c14_5
    have hc15_5 : g3 < (z5.w).heap.size := Nat.lt_of_lt_of_le hc14_5 sz15
    have c15_6 : (z5.w).cell? ⟨g4, 0, none⟩ = some (.int .i64 a4) := (bb15.cell (p := ⟨g4, 0, none⟩) hc14_6).trans c14_6
    have hc15_6 : g4 < (z5.w).heap.size := Nat.lt_of_lt_of_le hc14_6 sz15
    have c15_7 : (z5.w).cell? ⟨g4, 1, none⟩ = some (.slice p4 r4.length q4) := (bb15.cell (p := ⟨g4, 1, none⟩) hc14_7).trans c14_7
    have hc15_7 : g4 < (z5.w).heap.size := Nat.lt_of_lt_of_le hc14_7 sz15
    have c15_8 : (z5.w).cell? ⟨g5, 0, none⟩ = some (.int .i64 a5) := (bb15.cell (p := ⟨g5, 0, none⟩) hc14_8).trans c14_8
    have hc15_8 : g5 < (z5.w).heap.size := Nat.lt_of_lt_of_le hc14_8 sz15
    have c15_9 : (z5.w).cell? ⟨g5, 1, none⟩ = some (.slice p5 r5.length q5) := (bb15.cell (p := ⟨g5, 1, none⟩) hc14_9).trans c14_9
    have hc15_9 : g5 < (z5.w).heap.size := Nat.lt_of_lt_of_le hc14_9 sz15
    have c15_10 : (z5.w).cell? ⟨g6, 0, none⟩ = some (.int .i64 a6) := (bb15.cell (p := ⟨g6, 0, none⟩) hc14_10).trans c14_10
    have hc15_10 : g6 < (z5.w).heap.size := Nat.lt_of_lt_of_le hc14_10 sz15
    have c15_11 : (z5.w).cell? ⟨g6, 1, none⟩ = some (.slice p6 r6.length q6) := (bb15.cell (p := ⟨g6, 1, none⟩) hc14_11).trans c14_11
    have hc15_11 : g6 < (z5.w).heap.size := Nat.lt_of_lt_of_le hc14_11 sz15
    have c15_12 : (z5.w).cell? ⟨g7, 0, none⟩ = some (.int .i64 a6) := (bb15.cell (p := ⟨g7, 0, none⟩) hc14_12).trans c14_12
    have hc15_12 : g7 < (z5.w).heap.size := Nat.lt_of_lt_of_le hc14_12 sz15
    have c15_13 : (z5.w).cell? ⟨g7, 1, none⟩ = some (.slice p7 r6.length q7) := (bb15.cell (p := ⟨g7, 1, none⟩) hc14_13).trans c14_13
    have hc15_13 : g7 < (z5.w).heap.size := Nat.lt_of_lt_of_le hc14_13 sz15
    have c15_14 : (z5.w).cell? ⟨g8, 0, none⟩ = some (.int .i64 a8) := (bb15.cell (p := ⟨g8, 0, none⟩) hc14_14).trans c14_14
    have hc15_14 : g8 < (z5.w).heap.size := Nat.lt_of_lt_of_le hc14_14 sz15
    have c15_15 : (z5.w).cell? ⟨g8, 1, none⟩ = some (.slice p8 r8.length q8) := (bb15.cell (p := ⟨g8, 1, none⟩) hc14_15).trans c14_15
    have hc15_15 : g8 < (z5.w).heap.size := Nat.lt_of_lt_of_le hc14_15 sz15
    have c15_16 : (z5.w).cell? ⟨g8 + 1, 0, none⟩ = some (.int .i64 a9) := (bb15.cell (p := ⟨g8 + 1, 0, none⟩) hc14_16).trans c14_16
    have hc15_16 : g8 + 1 < (z5.w).heap.size := Nat.lt_of_lt_of_le hc14_16 sz15
    have c15_17 : (z5.w).cell? ⟨g8 + 1, 1, none⟩ = some (.slice p9 r9.length q9) := (bb15.cell (p := ⟨g8 + 1, 1, none⟩) hc14_17).trans c14_17
    have hc15_17 : g8 + 1 < (z5.w).heap.size := Nat.lt_of_lt_of_le hc14_17 sz15
    have c15_18 : (z5.w).cell? ⟨g11, 0, none⟩ = some (.int .i64 a11) := (bb15.cell (p := ⟨g11, 0, none⟩) hc14_18).trans c14_18
    have hc15_18 : g11 < (z5.w).heap.size := Nat.lt_of_lt_of_le hc14_18 sz15
    have c15_19 : (z5.w).cell? ⟨g11, 1, none⟩ = some (.slice p11 r11.length q11) := (bb15.cell (p := ⟨g11, 1, none⟩) hc14_19).trans c14_19
    have hc15_19 : g11 < (z5.w).heap.size := Nat.lt_of_lt_of_le hc14_19 sz15
    have c15_20 : (z5.w).cell? ⟨g12, 0, none⟩ = some (.int .i64 a11) := (bb15.cell (p := ⟨g12, 0, none⟩) hc14_20).trans c14_20
    have hc15_20 : g12 < (z5.w).heap.size := Nat.lt_of_lt_of_le hc14_20 sz15
    have c15_21 : (z5.w).cell? ⟨g12, 1, none⟩ = some (.slice p12 r11.length q12) := (bb15.cell (p := ⟨g12, 1, none⟩) hc14_21).trans c14_21
    have hc15_21 : g12 < (z5.w).heap.size := Nat.lt_of_lt_of_le hc14_21 sz15
    have c15_22 : (z5.w).cell? ⟨g14, 0, none⟩ = some (.int .i64 a14) := (bb15.cell (p := ⟨g14, 0, none⟩) hc14_22).trans c14_22
    have hc15_22 : g14 < (z5.w).heap.size := Nat.lt_of_lt_of_le hc14_22 sz15
    have c15_23 : (z5.w).cell? ⟨g14, 1, none⟩ = some (.slice p14 r14.length q14) := (bb15.cell (p := ⟨g14, 1, none⟩) hc14_23).trans c14_23
    have hc15_23 : g14 < (z5.w).heap.size := Nat.lt_of_lt_of_le hc14_23 sz15
    have R15_0 := Lib.hid (R14_0.out.below bb15 hR14_0)
    have hR15_0 : w.heap.size ≤ (z5.w).heap.size := Nat.le_trans hR14_0 sz15
    have R15_1 := Lib.hid (R14_1.out.below bb15 hR14_1)
    have hR15_1 : g1 ≤ (z5.w).heap.size := Nat.le_trans hR14_1 sz15
    have R15_2 := Lib.hid (R14_2.out.below bb15 hR14_2)
    have hR15_2 : g2 ≤ (z5.w).heap.size := Nat.le_trans hR14_2 sz15
    have R15_3 := Lib.hid (R14_3.out.below bb15 hR14_3)
    have hR15_3 : g3 ≤ (z5.w).heap.size := Nat.le_trans hR14_3 sz15
    have R15_4 := Lib.hid (R14_4.out.below bb15 hR14_4)
    have hR15_4 : g4 ≤ (z5.w).heap.size := Nat.le_trans hR14_4 sz15
    have R15_5 := Lib.hid (R14_5.out.below bb15 hR14_5)
    have hR15_5 : g5 ≤ (z5.w).heap.size := Nat.le_trans hR14_5 sz15
    have R15_6 := Lib.hid (R14_6.out.below bb15 hR14_6)
    have hR15_6 : g6 ≤ (z5.w).heap.size := Nat.le_trans hR14_6 sz15
    have R15_7 := Lib.hid (R14_7.out.below bb15 hR14_7)
    have hR15_7 : g7 ≤ (z5.w).heap.size := Nat.le_trans hR14_7 sz15
    have R15_8 := Lib.hid (R14_8.out.below bb15 hR14_8)
    have hR15_8 : g8 ≤ (z5.w).heap.size := Nat.le_trans hR14_8 sz15
    have R15_9 := Lib.hid (R14_9.out.below bb15 hR14_9)
    have hR15_9 : g8 ≤ (z5.w).heap.size := Nat.le_trans hR14_9 sz15
    have R15_10 := Lib.hid (R14_10.out.below bb15 hR14_10)
    have hR15_10 : g11 ≤ (z5.w).heap.size := Nat.le_trans hR14_10 sz15
    have R15_11 := Lib.hid (R14_11.out.below bb15 hR14_11)
    have hR15_11 : g12 ≤ (z5.w).heap.size := Nat.le_trans hR14_11 sz15
    have R15_12 := Lib.hid (R14_12.out.below bb15 hR14_12)
    have hR15_12 : g14 ≤ (z5.w).heap.size := Nat.le_trans hR14_12 sz15
    have Bw15 := Lib.hid (Bw14.out.trans (bb15.mono Bw14.out.size))
    generalize z5.w = WY at bb15 sz15 c15_0 hc15_0 c15_1 hc15_1 c15_2 hc15_2 c15_3 hc15_3 c15_4 hc15_4 c15_5 hc15_5 c15_6 hc15_6 c15_7 hc15_7 c15_8 hc15_8 c15_9 hc15_9 c15_10 hc15_10 c15_11 hc15_11 c15_12 hc15_12 c15_13 hc15_13 c15_14 hc15_14 c15_15 hc15_15 c15_16 hc15_16 c15_17 hc15_17 c15_18 hc15_18 c15_19 hc15_19 c15_20 hc15_20 c15_21 hc15_21 c15_22 hc15_22 c15_23 hc15_23 R15_0 hR15_0 R15_1 hR15_1 R15_2 hR15_2 R15_3 hR15_3 R15_4 hR15_4 R15_5 hR15_5 R15_6 hR15_6 R15_7 hR15_7 R15_8 hR15_8 R15_9 hR15_9 R15_10 hR15_10 R15_11 hR15_11 R15_12 hR15_12 Bw15 ⊢
    clear bb15 sz15
    clear c14_0 c14_1 c14_2 c14_3 c14_4 c14_5 c14_6 c14_7 c14_8 c14_9 c14_10 c14_11 c14_12 c14_13 c14_14 c14_15 c14_16 c14_17 c14_18 c14_19 c14_20 c14_21 c14_22 c14_23 hc14_0 hc14_1 hc14_2 hc14_3 hc14_4 hc14_5 hc14_6 hc14_7 hc14_8 hc14_9 hc14_10 hc14_11 hc14_12 hc14_13 hc14_14 hc14_15 hc14_16 hc14_17 hc14_18 hc14_19 hc14_20 hc14_21 hc14_22 hc14_23 R14_0 R14_1 R14_2 R14_3 R14_4 R14_5 R14_6 R14_7 R14_8 R14_9 R14_10 R14_11 R14_12 hR14_0 hR14_1 hR14_2 hR14_3 hR14_4 hR14_5 hR14_6 hR14_7 hR14_8 hR14_9 hR14_10 hR14_11 hR14_12 k14_0 k14_1 k14_2 k14_3 k14_4 k14_5 k14_6 k14_7 k14_8 k14_9 k14_10 k14_11 k14_12 k14_13 k14_14 k14_15 k14_16 k14_17 k14_18 k14_19 k14_20 k14_21 k14_22 k14_23 Bw14
    have k15_0 := fun p : Past WY => Past.cell (W := WY) c15_0 hc15_0 p
    have k15_1 := fun p : Past WY => Past.cell (W := WY) c15_1 hc15_1 p
    have k15_2 := fun p : Past WY => Past.cell (W := WY) c15_2 hc15_2 p
    have k15_3 := fun p : Past WY => Past.cell (W := WY) c15_3 hc15_3 p
    have k15_4 := fun p : Past WY => Past.cell (W := WY) c15_4 hc15_4 p
    have k15_5 := fun p : Past WY => Past.cell (W := WY) c15_5 hc15_5 p
    have k15_6 := fun p : Past WY => Past.cell (W := WY) c15_6 hc15_6 p
    have k15_7 := fun p : Past WY => Past.cell (W := WY) c15_7 hc15_7 p
    have k15_8 := fun p : Past WY => Past.cell (W := WY) c15_8 hc15_8 p
    have k15_9 := fun p : Past WY => Past.cell (W := WY) c15_9 hc15_9 p
    have k15_10 := fun p : Past WY => Past.cell (W := WY) c15_10 hc15_10 p
    have k15_11 := fun p : Past WY => Past.cell (W := WY) c15_11 hc15_11 p
    have k15_12 := fun p : Past WY => Past.cell (W := WY) c15_12 hc15_12 p
    have k15_13 := fun p : Past WY => Past.cell (W := WY) c15_13 hc15_13 p
    have k15_14 := fun p : Past WY => Past.cell (W := WY) c15_14 hc15_14 p
    have k15_15 := fun p : Past WY => Past.cell (W := WY) c15_15 hc15_15 p
    have k15_16 := fun p : Past WY => Past.cell (W := WY) c15_16 hc15_16 p
    have k15_17 := fun p : Past WY => Past.cell (W := WY) c15_17 hc15_17 p
    have k15_18 := fun p : Past WY => Past.cell (W := WY) c15_18 hc15_18 p
    have k15_19 := fun p : Past WY => Past.cell (W := WY) c15_19 hc15_19 p
    have k15_20 := fun p : Past WY => Past.cell (W := WY) c15_20 hc15_20 p
    have k15_21 := fun p : Past WY => Past.cell (W := WY) c15_21 hc15_21 p
    have k15_22 := fun p : Past WY => Past.cell (W := WY) c15_22 hc15_22 p
    have k15_23 := fun p : Past WY => Past.cell (W := WY) c15_23 hc15_23 p
    cases k6 with
    | false =>
      obtain ⟨a16, hn16⟩ : ∃ n, ((dual a2 r2).getD (0, [])).1 = n := ⟨_, rfl⟩
      obtain ⟨r16, hr16⟩ : ∃ n, ((dual a2 r2).getD (0, [])).2 = n := ⟨_, rfl⟩
      obtain ⟨k16, hk16⟩ : ∃ n, (dual a2 r2).isSome = n := ⟨_, rfl⟩
      have EN16 := Lib.hid hn16
      have ER16 := Lib.hid hr16
      have EK16 := Lib.hid hk16
      clear hn16 hr16 hk16
      go_wp2_with fail
      refine (impl_dual a2 _ r2 g2 (Past.start WY).w (Past.reads R15_2.out hR15_2 (Past.start WY)) (Past.len hR15_2 (Past.start WY))).mono ?_
      rintro e w16 hres
      obtain ⟨p16, q16, rfl, o16, b16⟩ := asCtx EN16.out ER16.out EK16.out hres
      clear hres
      have hA16 := (Below.refl w16.heap.size w16).alloc (Nat.le_refl _) (.cells #[.int .i64 a16, .slice p16 r16.length q16] 26)
      go_upto_region 25 with fail
      have hs16 : w16.heap.size < (w16.alloc (.cells #[.int .i64 a16, .slice p16 r16.length q16] 26)).heap.size := by simp
      have G16 := BoxAt.new w16 26 #[.int .i64 a16, .slice p16 r16.length q16]
      have bb16 := (Past.start WY).h.trans ((b16.trans (hA16.mono b16.size)).mono (Past.start WY).h.size)
      have sz16 := bb16.size
      have c16_0 : (w16.alloc (.cells #[.int .i64 a16, .slice p16 r16.length q16] 26)).cell? ⟨g1, 0, none⟩ = some (.int .i64 a1) := (bb16.cell (p := ⟨g1, 0, none⟩) hc15_0).trans c15_0
      have hc16_0 : g1 < (w16.alloc (.cells #[.int .i64 a16, .slice p16 r16.length q16] 26)).heap.size := Nat.lt_of_lt_of_le hc15_0 sz16
      have c16_1 : (w16.alloc (.cells #[.int .i64 a16, .slice p16 r16.length q16] 26)).cell? ⟨g1, 1, none⟩ = some (.slice p1 r1.length q1) := (bb16.cell (p := ⟨g1, 1, none⟩) hc15_1).trans c15_1
      have hc16_1 : g1 < (w16.alloc (.cells #[.int .i64 a16, .slice p16 r16.length q16] 26)).heap.size := Nat.lt_of_lt_of_le hc15_1 sz16
      have c16_2 : (w16.alloc (.cells #[.int .i64 a16, .slice p16 r16.length q16] 26)).cell? ⟨g2, 0, none⟩ = some (.int .i64 a2) := (bb16.cell (p := ⟨g2, 0, none⟩) hc15_2).trans c15_2
      have hc16_2 : g2 < (w16.alloc (.cells #[.int .i64 a16, .slice p16 r16.length q16] 26)).heap.size := Nat.lt_of_lt_of_le hc15_2 sz16
      have c16_3 : (w16.alloc (.cells #[.int .i64 a16, .slice p16 r16.length q16] 26)).cell? ⟨g2, 1, none⟩ = some (.slice p2 r2.length q2) := (bb16.cell (p := ⟨g2, 1, none⟩) hc15_3).trans c15_3
      have hc16_3 : g2 < (w16.alloc (.cells #[.int .i64 a16, .slice p16 r16.length q16] 26)).heap.size := Nat.lt_of_lt_of_le hc15_3 sz16
      have c16_4 : (w16.alloc (.cells #[.int .i64 a16, .slice p16 r16.length q16] 26)).cell? ⟨g3, 0, none⟩ = some (.int .i64 a2) := (bb16.cell (p := ⟨g3, 0, none⟩) hc15_4).trans c15_4
      have hc16_4 : g3 < (w16.alloc (.cells #[.int .i64 a16, .slice p16 r16.length q16] 26)).heap.size := Nat.lt_of_lt_of_le hc15_4 sz16
      have c16_5 : (w16.alloc (.cells #[.int .i64 a16, .slice p16 r16.length q16] 26)).cell? ⟨g3, 1, none⟩ = some (.slice p3 r2.length q3) := (bb16.cell (p := ⟨g3, 1, none⟩) hc15_5).trans c15_5
      have hc16_5 : g3 < (w16.alloc (.cells #[.int .i64 a16, .slice p16 r16.length q16] 26)).heap.size := Nat.lt_of_lt_of_le hc15_5 sz16
      have c16_6 : (w16.alloc (.cells #[.int .i64 a16, .slice p16 r16.length q16] 26)).cell? ⟨g4, 0, none⟩ = some (.int .i64 a4) := (bb16.cell (p := ⟨g4, 0, none⟩) hc15_6).trans c15_6
      have hc16_6 : g4 < (w16.alloc (.cells #[.int .i64 a16, .slice p16 r16.length q16] 26)).heap.size := Nat.lt_of_lt_of_le hc15_6 sz16
      have c16_7 : (w16.alloc (.cells #[.int .i64 a16, .slice p16 r16.length q16] 26)).cell? ⟨g4, 1, none⟩ = some (.slice p4 r4.length q4) := (bb16.cell (p := ⟨g4, 1, none⟩) hc15_7).trans c15_7
      have hc16_7 : g4 < (w16.alloc (.cells #[.int .i64 a16, .slice p16 r16.length q16] 26)).heap.size := Nat.lt_of_lt_of_le hc15_7 sz16
      have c16_8 : (w16.alloc (.cells #[.int .i64 a16, .slice p16 r16.length q16] 26)).cell? ⟨g5, 0, none⟩ = some (.int .i64 a5) := (bb16.cell (p := ⟨g5, 0, none⟩) hc15_8).trans c15_8
      have hc16_8 : g5 < (w16.alloc (.cells #[.int .i64 a16, .slice p16 r16.length q16] 26)).heap.size := Nat.lt_of_lt_of_le hc15_8 sz16
      have c16_9 : (w16.alloc (.cells #[.int .i64 a16, .slice p16 r16.length q16] 26)).cell? ⟨g5, 1, none⟩ = some (.slice p5 r5.length q5) := (bb16.cell (p := ⟨g5, 1, none⟩) hc15_9).trans c15_9
      have hc16_9 : g5 < (w16.alloc (.cells #[.int .i64 a16, .slice p16 r16.length q16] 26)).heap.size := Nat.lt_of_lt_of_le hc15_9 sz16
      have c16_10 : (w16.alloc (.cells #[.int .i64 a16, .slice p16 r16.length q16] 26)).cell? ⟨g6, 0, none⟩ = some (.int .i64 a6) := (bb16.cell (p := ⟨g6, 0, none⟩) hc15_10).trans c15_10
      have hc16_10 : g6 < (w16.alloc (.cells #[.int .i64 a16, .slice p16 r16.length q16] 26)).heap.size := Nat.lt_of_lt_of_le hc15_10 sz16
      have c16_11 : (w16.alloc (.cells #[.int .i64 a16, .slice p16 r16.length q16] 26)).cell? ⟨g6, 1, none⟩ = some (.slice p6 r6.length q6) := (bb16.cell (p := ⟨g6, 1, none⟩) hc15_11).trans c15_11
      have hc16_11 : g6 < (w16.alloc (.cells #[.int .i64 a16, .slice p16 r16.length q16] 26)).heap.size := Nat.lt_of_lt_of_le hc15_11 sz16
      have c16_12 : (w16.alloc (.cells #[.int .i64 a16, .slice p16 r16.length q16] 26)).cell? ⟨g7, 0, none⟩ = some (.int .i64 a6) := (bb16.cell (p := ⟨g7, 0, none⟩) hc15_12).trans c15_12
      have hc16_12 : g7 < (w16.alloc (.cells #[.int .i64 a16, .slice p16 r16.length q16] 26)).heap.size := Nat.lt_of_lt_of_le hc15_12 sz16
      have c16_13 : (w16.alloc (.cells #[.int .i64 a16, .slice p16 r16.length q16] 26)).cell? ⟨g7, 1, none⟩ = some (.slice p7 r6.length q7) := (bb16.cell (p := ⟨g7, 1, none⟩) hc15_13).trans c15_13
      have hc16_13 : g7 < (w16.alloc (.cells #[.int .i64 a16, .slice p16 r16.length q16] 26)).heap.size := Nat.lt_of_lt_of_le hc15_13 sz16
      have c16_14 : (w16.alloc (.cells #[.int .i64 a16, .slice p16 r16.length q16] 26)).cell? ⟨g8, 0, none⟩ = some (.int .i64 a8) := (bb16.cell (p := ⟨g8, 0, none⟩) hc15_14).trans c15_14
      have hc16_14 : g8 < (w16.alloc (.cells #[.int .i64 a16, .slice p16 r16.length q16] 26)).heap.size := Nat.lt_of_lt_of_le hc15_14 sz16
      have c16_15 : (w16.alloc (.cells #[.int .i64 a16, .slice p16 r16.length q16] 26)).cell? ⟨g8, 1, none⟩ = some (.slice p8 r8.length q8) := (bb16.cell (p := ⟨g8, 1, none⟩) hc15_15).trans c15_15
      have hc16_15 : g8 < (w16.alloc (.cells #[.int .i64 a16, .slice p16 r16.length q16] 26)).heap.size := Nat.lt_of_lt_of_le hc15_15 sz16
      have c16_16 : (w16.alloc (.cells #[.int .i64 a16, .slice p16 r16.length q16] 26)).cell? ⟨g8 + 1, 0, none⟩ = some (.int .i64 a9) := (bb16.cell (p := ⟨g8 + 1, 0, none⟩) hc15_16).trans c15_16
      have hc16_16 : g8 + 1 < (w16.alloc (.cells #[.int .i64 a16, .slice p16 r16.length q16] 26)).heap.size := Nat.lt_of_lt_of_le hc15_16 sz16
      have c16_17 : (w16.alloc (.cells #[.int .i64 a16, .slice p16 r16.length q16] 26)).cell? ⟨g8 + 1, 1, none⟩ = some (.slice p9 r9.length q9) := (bb16.cell (p := ⟨g8 + 1, 1, none⟩) hc15_17).trans c15_17
      have hc16_17 : g8 + 1 < (w16.alloc (.cells #[.int .i64 a16, .slice p16 r16.length q16] 26)).heap.size := Nat.lt_of_lt_of_le hc15_17 sz16
      have c16_18 : (w16.alloc (.cells #[.int .i64 a16, .slice p16 r16.length q16] 26)).cell? ⟨g11, 0, none⟩ = some (.int .i64 a11) := (bb16.cell (p := ⟨g11, 0, none⟩) hc15_18).trans c15_18
      have hc16_18 : g11 < (w16.alloc (.cells #[.int .i64 a16, .slice p16 r16.length q16] 26)).heap.size := Nat.lt_of_lt_of_le hc15_18 sz16
      have c16_19 : (w16.alloc (.cells #[.int .i64 a16, .slice p16 r16.length q16] 26)).cell? ⟨g11, 1, none⟩ = some (.slice p11 r11.length q11) := (bb16.cell (p := ⟨g11, 1, none⟩) hc15_19).trans c15_19
      have hc16_19 : g11 < (w16.alloc (.cells #[.int .i64 a16, .slice p16 r16.length q16] 26)).heap.size := Nat.lt_of_lt_of_le hc15_19 sz16
      have c16_20 : (w16.alloc (.cells #[.int .i64 a16, .slice p16 r16.length q16] 26)).cell? ⟨g12, 0, none⟩ = some (.int .i64 a11) := (bb16.cell (p := ⟨g12, 0, none⟩) hc15_20).trans c15_20
      have hc16_20 : g12 < (w16.alloc (.cells #[.int .i64 a16, .slice p16 r16.length q16] 26)).heap.size := Nat.lt_of_lt_of_le hc15_20 sz16
      have c16_21 : (w16.alloc (.cells #[.int .i64 a16, .slice p16 r16.length q16] 26)).cell? ⟨g12, 1, none⟩ = some (.slice p12 r11.length q12) := (bb16.cell (p := ⟨g12, 1, none⟩) hc15_21).trans c15_21
      have hc16_21 : g12 < (w16.alloc (.cells #[.int .i64 a16, .slice p16 r16.length q16] 26)).heap.size := Nat.lt_of_lt_of_le hc15_21 sz16
      have c16_22 : (w16.alloc (.cells #[.int .i64 a16, .slice p16 r16.length q16] 26)).cell? ⟨g14, 0, none⟩ = some (.int .i64 a14) := (bb16.cell (p := ⟨g14, 0, none⟩) hc15_22).trans c15_22
      have hc16_22 : g14 < (w16.alloc (.cells #[.int .i64 a16, .slice p16 r16.length q16] 26)).heap.size := Nat.lt_of_lt_of_le hc15_22 sz16
      have c16_23 : (w16.alloc (.cells #[.int .i64 a16, .slice p16 r16.length q16] 26)).cell? ⟨g14, 1, none⟩ = some (.slice p14 r14.length q14) := (bb16.cell (p := ⟨g14, 1, none⟩) hc15_23).trans c15_23
      have hc16_23 : g14 < (w16.alloc (.cells #[.int .i64 a16, .slice p16 r16.length q16] 26)).heap.size := Nat.lt_of_lt_of_le hc15_23 sz16
      have R16_0 := Lib.hid (R15_0.out.below bb16 hR15_0)
      have hR16_0 : w.heap.size ≤ (w16.alloc (.cells #[.int .i64 a16, .slice p16 r16.length q16] 26)).heap.size := Nat.le_trans hR15_0 sz16
      have R16_1 := Lib.hid (R15_1.out.below bb16 hR15_1)
      have hR16_1 : g1 ≤ (w16.alloc (.cells #[.int .i64 a16, .slice p16 r16.length q16] 26)).heap.size := Nat.le_trans hR15_1 sz16
      have R16_2 := Lib.hid (R15_2.out.below bb16 hR15_2)
      have hR16_2 : g2 ≤ (w16.alloc (.cells #[.int .i64 a16, .slice p16 r16.length q16] 26)).heap.size := Nat.le_trans hR15_2 sz16
      have R16_3 := Lib.hid (R15_3.out.below bb16 hR15_3)
      have hR16_3 : g3 ≤ (w16.alloc (.cells #[.int .i64 a16, .slice p16 r16.length q16] 26)).heap.size := Nat.le_trans hR15_3 sz16
      have R16_4 := Lib.hid (R15_4.out.below bb16 hR15_4)
      have hR16_4 : g4 ≤ (w16.alloc (.cells #[.int .i64 a16, .slice p16 r16.length q16] 26)).heap.size := Nat.le_trans hR15_4 sz16
      have R16_5 := Lib.hid (R15_5.out.below bb16 hR15_5)
      have hR16_5 : g5 ≤ (w16.alloc (.cells #[.int .i64 a16, .slice p16 r16.length q16] 26)).heap.size := Nat.le_trans hR15_5 sz16
      have R16_6 := Lib.hid (R15_6.out.below bb16 hR15_6)
      have hR16_6 : g6 ≤ (w16.alloc (.cells #[.int .i64 a16, .slice p16 r16.length q16] 26)).heap.size := Nat.le_trans hR15_6 sz16
      have R16_7 := Lib.hid (R15_7.out.below bb16 hR15_7)
      have hR16_7 : g7 ≤ (w16.alloc (.cells #[.int .i64 a16, .slice p16 r16.length q16] 26)).heap.size := Nat.le_trans hR15_7 sz16
      have R16_8 := Lib.hid (R15_8.out.below bb16 hR15_8)
      have hR16_8 : g8 ≤ (w16.alloc (.cells #[.int .i64 a16, .slice p16 r16.length q16] 26)).heap.size := Nat.le_trans hR15_8 sz16
      have R16_9 := Lib.hid (R15_9.out.below bb16 hR15_9)
      have hR16_9 : g8 ≤ (w16.alloc (.cells #[.int .i64 a16, .slice p16 r16.length q16] 26)).heap.size := Nat.le_trans hR15_9 sz16
      have R16_10 := Lib.hid (R15_10.out.below bb16 hR15_10)
      have hR16_10 : g11 ≤ (w16.alloc (.cells #[.int .i64 a16, .slice p16 r16.length q16] 26)).heap.size := Nat.le_trans hR15_10 sz16
      have R16_11 := Lib.hid (R15_11.out.below bb16 hR15_11)
      have hR16_11 : g12 ≤ (w16.alloc (.cells #[.int .i64 a16, .slice p16 r16.length q16] 26)).heap.size := Nat.le_trans hR15_11 sz16
      have R16_12 := Lib.hid (R15_12.out.below bb16 hR15_12)
      have hR16_12 : g14 ≤ (w16.alloc (.cells #[.int .i64 a16, .slice p16 r16.length q16] 26)).heap.size := Nat.le_trans hR15_12 sz16
      have Bw16 := Lib.hid (Bw15.out.trans (bb16.mono Bw15.out.size))
      have c16_24 : (w16.alloc (.cells #[.int .i64 a16, .slice p16 r16.length q16] 26)).cell? ⟨w16.heap.size, 0, none⟩ = some (.int .i64 a16) := G16.cell 0
      have hc16_24 : w16.heap.size < (w16.alloc (.cells #[.int .i64 a16, .slice p16 r16.length q16] 26)).heap.size := hs16
      have c16_25 : (w16.alloc (.cells #[.int .i64 a16, .slice p16 r16.length q16] 26)).cell? ⟨w16.heap.size, 1, none⟩ = some (.slice p16 r16.length q16) := G16.cell 1
      have hc16_25 : w16.heap.size < (w16.alloc (.cells #[.int .i64 a16, .slice p16 r16.length q16] 26)).heap.size := hs16
      have R16_13 := Lib.hid (o16.reads.below hA16 (Nat.le_refl _))
      have hR16_13 : w16.heap.size ≤ (w16.alloc (.cells #[.int .i64 a16, .slice p16 r16.length q16] 26)).heap.size := Nat.le_of_lt hs16
      generalize w16.alloc (.cells #[.int .i64 a16, .slice p16 r16.length q16] 26) = W16 at bb16 sz16 c16_0 hc16_0 c16_1 hc16_1 c16_2 hc16_2 c16_3 hc16_3 c16_4 hc16_4 c16_5 hc16_5 c16_6 hc16_6 c16_7 hc16_7 c16_8 hc16_8 c16_9 hc16_9 c16_10 hc16_10 c16_11 hc16_11 c16_12 hc16_12 c16_13 hc16_13 c16_14 hc16_14 c16_15 hc16_15 c16_16 hc16_16 c16_17 hc16_17 c16_18 hc16_18 c16_19 hc16_19 c16_20 hc16_20 c16_21 hc16_21 c16_22 hc16_22 c16_23 hc16_23 R16_0 hR16_0 R16_1 hR16_1 R16_2 hR16_2 R16_3 hR16_3 R16_4 hR16_4 R16_5 hR16_5 R16_6 hR16_6 R16_7 hR16_7 R16_8 hR16_8 R16_9 hR16_9 R16_10 hR16_10 R16_11 hR16_11 R16_12 hR16_12 Bw16 c16_24 hc16_24 c16_25 hc16_25 R16_13 hR16_13 ⊢
      clear bb16 sz16
      clear c15_0 c15_1 c15_2 c15_3 c15_4 c15_5 c15_6 c15_7 c15_8 c15_9 c15_10 c15_11 c15_12 c15_13 c15_14 c15_15 c15_16 c15_17 c15_18 c15_19 c15_20 c15_21 c15_22 c15_23 hc15_0 hc15_1 hc15_2 hc15_3 hc15_4 hc15_5 hc15_6 hc15_7 hc15_8 hc15_9 hc15_10 hc15_11 hc15_12 hc15_13 hc15_14 hc15_15 hc15_16 hc15_17 hc15_18 hc15_19 hc15_20 hc15_21 hc15_22 hc15_23 R15_0 R15_1 R15_2 R15_3 R15_4 R15_5 R15_6 R15_7 R15_8 R15_9 R15_10 R15_11 R15_12 hR15_0 hR15_1 hR15_2 hR15_3 hR15_4 hR15_5 hR15_6 hR15_7 hR15_8 hR15_9 hR15_10 hR15_11 hR15_12 k15_0 k15_1 k15_2 k15_3 k15_4 k15_5 k15_6 k15_7 k15_8 k15_9 k15_10 k15_11 k15_12 k15_13 k15_14 k15_15 k15_16 k15_17 k15_18 k15_19 k15_20 k15_21 k15_22 k15_23 Bw15 G16 o16 b16 hA16 hs16
      generalize w16.heap.size = g16 at *
      have k16_0 := fun p : Past W16 => Past.cell (W := W16) c16_0 hc16_0 p
      have k16_1 := fun p : Past W16 => Past.cell (W := W16) c16_1 hc16_1 p
      have k16_2 := fun p : Past W16 => Past.cell (W := W16) c16_2 hc16_2 p
      have k16_3 := fun p : Past W16 => Past.cell (W := W16) c16_3 hc16_3 p
      have k16_4 := fun p : Past W16 => Past.cell (W := W16) c16_4 hc16_4 p
      have k16_5 := fun p : Past W16 => Past.cell (W := W16) c16_5 hc16_5 p
      have k16_6 := fun p : Past W16 => Past.cell (W := W16) c16_6 hc16_6 p
      have k16_7 := fun p : Past W16 => Past.cell (W := W16) c16_7 hc16_7 p
      have k16_8 := fun p : Past W16 => Past.cell (W := W16) c16_8 hc16_8 p
      have k16_9 := fun p : Past W16 => Past.cell (W := W16) c16_9 hc16_9 p
      have k16_10 := fun p : Past W16 => Past.cell (W := W16) c16_10 hc16_10 p
      have k16_11 := fun p : Past W16 => Past.cell (W := W16) c16_11 hc16_11 p
      have k16_12 := fun p : Past W16 => Past.cell (W := W16) c16_12 hc16_12 p
      have k16_13 := fun p : Past W16 => Past.cell (W := W16) c16_13 hc16_13 p
      have k16_14 := fun p : Past W16 => Past.cell (W := W16) c16_14 hc16_14 p
      have k16_15 := fun p : Past W16 => Past.cell (W := W16) c16_15 hc16_15 p
      have k16_16 := fun p : Past W16 => Past.cell (W := W16) c16_16 hc16_16 p
      have k16_17 := fun p : Past W16 => Past.cell (W := W16) c16_17 hc16_17 p
      have k16_18 := fun p : Past W16 => Past.cell (W := W16) c16_18 hc16_18 p
      have k16_19 := fun p : Past W16 => Past.cell (W := W16) c16_19 hc16_19 p
      have k16_20 := fun p : Past W16 => Past.cell (W := W16) c16_20 hc16_20 p
      have k16_21 := fun p : Past W16 => Past.cell (W := W16) c16_21 hc16_21 p
      have k16_22 := fun p : Past W16 => Past.cell (W := W16) c16_22 hc16_22 p
      have k16_23 := fun p : Past W16 => Past.cell (W := W16) c16_23 hc16_23 p
      have k16_24 := fun p : Past W16 => Past.cell (W := W16) c16_24 hc16_24 p
      have k16_25 := fun p : Past W16 => Past.cell (W := W16) c16_25 hc16_25 p
      cases k2 with
      | false =>
        have hbb := (Past.start W16).below Bw16.out
        go_wp2_with fail
        go_ret
        exact ⟨rfl, hbb⟩
      | true =>
        have hdd := CtxLaws.dual_dual (opt_some EN2.out ER2.out EK2.out)
        obtain ⟨h1, h2, h3⟩ := again EN16.out ER16.out EK16.out hdd
        subst h3
        have EU := Lib.hid fun p : Past W16 => p.of (spec_eqc a16 a1 _ _ r16 r1 g16 g1 p.w (Past.reads R16_13.out hR16_13 p) (Past.reads R16_1.out hR16_1 p) (Past.len hR16_13 p) (Past.len hR16_1 p))
        rw [show (a16 == a1 && r16 == r1) = true by rw [h1, h2]; simp] at EU
        clear h1 h2 hdd
        have kd0 := k16_0 (Past.start W16)
        have kd1 := k16_1 (Past.start W16)
        have kd24 := k16_24 (Past.start W16)
        have kd25 := k16_25 (Past.start W16)
        go_wp2_with fail
        refine (EU.out (Past.start W16)).mono ?_
        rintro e _ ⟨rfl, y4, rfl⟩
        have hbb := y4.below Bw16.out
        go_wp2_with fail
        go_ret
        exact ⟨rfl, hbb⟩
    | true =>
      have hcc := CtxLaws.comp_comp (opt_some EN6.out ER6.out EK6.out)
      go_wp2_with fail
      refine (impl_comp a6 _ r6 g6 (Past.start WY).w (Past.reads R15_6.out hR15_6 (Past.start WY)) (Past.len hR15_6 (Past.start WY))).mono ?_
      rintro e w15 hres
      obtain ⟨p15, q15, rfl, o15, b15⟩ := someCtx hcc hres
      clear hres hcc
      have hA15 := (Below.refl w15.heap.size w15).alloc (Nat.le_refl _) (.cells #[.int .i64 a5, .slice p15 r5.length q15] 26)
      go_upto_region 22 with fail
      have hs15 : w15.heap.size < (w15.alloc (.cells #[.int .i64 a5, .slice p15 r5.length q15] 26)).heap.size := by simp
      have G15 := BoxAt.new w15 26 #[.int .i64 a5, .slice p15 r5.length q15]
      have bb16 := (Past.start WY).h.trans ((b15.trans (hA15.mono b15.size)).mono (Past.start WY).h.size)
      have sz16 := bb16.size
      have c16_0 : (w15.alloc (.cells #[.int .i64 a5, .slice p15 r5.length q15] 26)).cell? ⟨g1, 0, none⟩ = some (.int .i64 a1) := (bb16.cell (p := ⟨g1, 0, none⟩) hc15_0).trans c15_0
      have hc16_0 : g1 < (w15.alloc (.cells #[.int .i64 a5, .slice p15 r5.length q15] 26)).heap.size := Nat.lt_of_lt_of_le hc15_0 sz16
      have c16_1 : (w15.alloc (.cells #[.int .i64 a5, .slice p15 r5.length q15] 26)).cell? ⟨g1, 1, none⟩ = some (.slice p1 r1.length q1) := (bb16.cell (p := ⟨g1, 1, none⟩) hc15_1).trans c15_1
      have hc16_1 : g1 < (w15.alloc (.cells #[.int .i64 a5, .slice p15 r5.length q15] 26)).heap.size := Nat.lt_of_lt_of_le hc15_1 sz16
      have c16_2 : (w15.alloc (.cells #[.int .i64 a5, .slice p15 r5.length q15] 26)).cell? ⟨g2, 0, none⟩ = some (.int .i64 a2) := (bb16.cell (p := ⟨g2, 0, none⟩) hc15_2).trans c15_2
      have hc16_2 : g2 < (w15.alloc (.cells #[.int .i64 a5, .slice p15 r5.length q15] 26)).heap.size := Nat.lt_of_lt_of_le hc15_2 sz16
      have c16_3 : (w15.alloc (.cells #[.int .i64 a5, .slice p15 r5.length q15] 26)).cell? ⟨g2, 1, none⟩ = some (.slice p2 r2.length q2) := (bb16.cell (p := ⟨g2, 1, none⟩) hc15_3).trans c15_3
      have hc16_3 : g2 < (w15.alloc (.cells #[.int .i64 a5, .slice p15 r5.length q15] 26)).heap.size := Nat.lt_of_lt_of_le hc15_3 sz16
      have c16_4 : (w15.alloc (.cells #[.int .i64 a5, .slice p15 r5.length q15] 26)).cell? ⟨g3, 0, none⟩ = some (.int .i64 a2) := (bb16.cell (p := ⟨g3, 0, none⟩) hc15_4).trans c15_4
      have hc16_4 : g3 < (w15.alloc (.cells #[.int .i64 a5, .slice p15 r5.length q15] 26)).heap.size := Nat.lt_of_lt_of_le hc15_4 sz16
      have c16_5 : (w15.alloc (.cells #[.int .i64 a5, .slice p15 r5.length q15] 26)).cell? ⟨g3, 1, none⟩ = some (.slice p3 r2.length q3) := (bb16.cell (p := ⟨g3, 1, none⟩) hc15_5).trans c15_5
      have hc16_5 : g3 < (w15.alloc (.cells #[.int .i64 a5, .slice p15 r5.length q15] 26)).heap.size := Nat.lt_of_lt_of_le hc15_5 sz16
      have c16_6 : (w15.alloc (.cells #[.int .i64 a5, .slice p15 r5.length q15] 26)).cell? ⟨g4, 0, none⟩ = some (.int .i64 a4) := (bb16.cell (p := ⟨g4, 0, none⟩) hc15_6).trans c15_6
      have hc16_6 : g4 < (w15.alloc (.cells #[.int .i64 a5, .slice p15 r5.length q15] 26)).heap.size := Nat.lt_of_lt_of_le hc15_6 sz16
      have c16_7 : (w15.alloc (.cells #[.int .i64 a5, .slice p15 r5.length q15] 26)).cell? ⟨g4, 1, none⟩ = some (.slice p4 r4.length q4) := (bb16.cell (p := ⟨g4, 1, none⟩) hc15_7).trans c15_7
      have hc16_7 : g4 < (w15.alloc (.cells #[.int .i64 a5, .slice p15 r5.length q15] 26)).heap.size := Nat.lt_of_lt_of_le hc15_7 sz16
      have c16_8 : (w15.alloc (.cells #[.int .i64 a5, .slice p15 r5.length q15] 26)).cell? ⟨g5, 0, none⟩ = some (.int .i64 a5) := (bb16.cell (p := ⟨g5, 0, none⟩) hc15_8).trans c15_8
      have hc16_8 : g5 < (w15.alloc (.cells #[.int .i64 a5, .slice p15 r5.length q15] 26)).heap.size := Nat.lt_of_lt_of_le hc15_8 sz16
      have c16_9 : (w15.alloc (.cells #[.int .i64 a5, .slice p15 r5.length q15] 26)).cell? ⟨g5, 1, none⟩ = some (.slice p5 r5.length q5) := (bb16.cell (p := ⟨g5, 1, none⟩) hc15_9).trans c15_9
      have hc16_9 : g5 < (w15.alloc (.cells #[.int .i64 a5, .slice p15 r5.length q15] 26)).heap.size := Nat.lt_of_lt_of_le hc15_9 sz16
      have c16_10 : (w15.alloc (.cells #[.int .i64 a5, .slice p15 r5.length q15] 26)).cell? ⟨g6, 0, none⟩ = some (.int .i64 a6) := (bb16.cell (p := ⟨g6, 0, none⟩) hc15_10).trans c15_10
      have hc16_10 : g6 < (w15.alloc (.cells #[.int .i64 a5, .slice p15 r5.length q15] 26)).heap.size := Nat.lt_of_lt_of_le hc15_10 sz16
      have c16_11 : (w15.alloc (.cells #[.int .i64 a5, .slice p15 r5.length q15] 26)).cell? ⟨g6, 1, none⟩ = some (.slice p6 r6.length q6) := (bb16.cell (p := ⟨g6, 1, none⟩) hc15_11).trans c15_11
      have hc16_11 : g6 < (w15.alloc (.cells #[.int .i64 a5, .slice p15 r5.length q15] 26)).heap.size := Nat.lt_of_lt_of_le hc15_11 sz16
      have c16_12 : (w15.alloc (.cells #[.int .i64 a5, .slice p15 r5.length q15] 26)).cell? ⟨g7, 0, none⟩ = some (.int .i64 a6) := (bb16.cell (p := ⟨g7, 0, none⟩) hc15_12).trans c15_12
      have hc16_12 : g7 < (w15.alloc (.cells #[.int .i64 a5, .slice p15 r5.length q15] 26)).heap.size := Nat.lt_of_lt_of_le hc15_12 sz16
      have c16_13 : (w15.alloc (.cells #[.int .i64 a5, .slice p15 r5.length q15] 26)).cell? ⟨g7, 1, none⟩ = some (.slice p7 r6.length q7) := (bb16.cell (p := ⟨g7, 1, none⟩) hc15_13).trans c15_13
      have hc16_13 : g7 < (w15.alloc (.cells #[.int .i64 a5, .slice p15 r5.length q15] 26)).heap.size := Nat.lt_of_lt_of_le hc15_13 sz16
      have c16_14 : (w15.alloc (.cells #[.int .i64 a5, .slice p15 r5.length q15] 26)).cell? ⟨g8, 0, none⟩ = some (.int .i64 a8) := (bb16.cell (p := ⟨g8, 0, none⟩) hc15_14).trans c15_14
      have hc16_14 : g8 < (w15.alloc (.cells #[.int .i64 a5, .slice p15 r5.length q15] 26)).heap.size := Nat.lt_of_lt_of_le hc15_14 sz16
      have c16_15 : (w15.alloc (.cells #[.int .i64 a5, .slice p15 r5.length q15] 26)).cell? ⟨g8, 1, none⟩ = some (.slice p8 r8.length q8) := (bb16.cell (p := ⟨g8, 1, none⟩) hc15_15).trans c15_15
      have hc16_15 : g8 < (w15.alloc (.cells #[.int .i64 a5, .slice p15 r5.length q15] 26)).heap.size := Nat.lt_of_lt_of_le hc15_15 sz16
      have c16_16 : (w15.alloc (.cells #[.int .i64 a5, .slice p15 r5.length q15] 26)).cell? ⟨g8 + 1, 0, none⟩ = some (.int .i64 a9) := (bb16.cell (p := ⟨g8 + 1, 0, none⟩) hc15_16).trans c15_16
      have hc16_16 : g8 + 1 < (w15.alloc (.cells #[.int .i64 a5, .slice p15 r5.length q15] 26)).heap.size := Nat.lt_of_lt_of_le hc15_16 sz16
      have c16_17 : (w15.alloc (.cells #[.int .i64 a5, .slice p15 r5.length q15] 26)).cell? ⟨g8 + 1, 1, none⟩ = some (.slice p9 r9.length q9) := (bb16.cell (p := ⟨g8 + 1, 1, none⟩) hc15_17).trans c15_17
      have hc16_17 : g8 + 1 < (w15.alloc (.cells #[.int .i64 a5, .slice p15 r5.length q15] 26)).heap.size := Nat.lt_of_lt_of_le hc15_17 sz16
      have c16_18 : (w15.alloc (.cells #[.int .i64 a5, .slice p15 r5.length q15] 26)).cell? ⟨g11, 0, none⟩ = some (.int .i64 a11) := (bb16.cell (p := ⟨g11, 0, none⟩) hc15_18).trans c15_18
      have hc16_18 : g11 < (w15.alloc (.cells #[.int .i64 a5, .slice p15 r5.length q15] 26)).heap.size := Nat.lt_of_lt_of_le hc15_18 sz16
      have c16_19 : (w15.alloc (.cells #[.int .i64 a5, .slice p15 r5.length q15] 26)).cell? ⟨g11, 1, none⟩ = some (.slice p11 r11.length q11) := (bb16.cell (p := ⟨g11, 1, none⟩) hc15_19).trans c15_19
      have hc16_19 : g11 < (w15.alloc (.cells #[.int .i64 a5, .slice p15 r5.length q15] 26)).heap.size := Nat.lt_of_lt_of_le hc15_19 sz16
      have c16_20 : (w15.alloc (.cells #[.int .i64 a5, .slice p15 r5.length q15] 26)).cell? ⟨g12, 0, none⟩ = some (.int .i64 a11) := (bb16.cell (p := ⟨g12, 0, none⟩) hc15_20).trans c15_20
      have hc16_20 : g12 < (w15.alloc (.cells #[.int .i64 a5, .slice p15 r5.length q15] 26)).heap.size := Nat.lt_of_lt_of_le hc15_20 sz16
      have c16_21 : (w15.alloc (.cells #[.int .i64 a5, .slice p15 r5.length q15] 26)).cell? ⟨g12, 1, none⟩ = some (.slice p12 r11.length q12) := (bb16.cell (p := ⟨g12, 1, none⟩) hc15_21).trans c15_21
      have hc16_21 : g12 < (w15.alloc (.cells #[.int .i64 a5, .slice p15 r5.length q15] 26)).heap.size := Nat.lt_of_lt_of_le hc15_21 sz16
      have c16_22 : (w15.alloc (.cells #[.int .i64 a5, .slice p15 r5.length q15] 26)).cell? ⟨g14, 0, none⟩ = some (.int .i64 a14) := (bb16.cell (p := ⟨g14, 0, none⟩) hc15_22).trans c15_22
      have hc16_22 : g14 < (w15.alloc (.cells #[.int .i64 a5, .slice p15 r5.length q15] 26)).heap.size := Nat.lt_of_lt_of_le hc15_22 sz16
      have c16_23 : (w15.alloc (.cells #[.int .i64 a5, .slice p15 r5.length q15] 26)).cell? ⟨g14, 1, none⟩ = some (.slice p14 r14.length q14) := (bb16.cell (p := ⟨g14, 1, none⟩) hc15_23).trans c15_23
      have hc16_23 : g14 < (w15.alloc (.cells #[.int .i64 a5, .slice p15 r5.length q15] 26)).heap.size := Nat.lt_of_lt_of_le hc15_23 sz16
      have R16_0 := Lib.hid (R15_0.out.below bb16 hR15_0)
      have hR16_0 : w.heap.size ≤ (w15.alloc (.cells #[.int .i64 a5, .slice p15 r5.length q15] 26)).heap.size := Nat.le_trans hR15_0 sz16
      have R16_1 := Lib.hid (R15_1.out.below bb16 hR15_1)
      have hR16_1 : g1 ≤ (w15.alloc (.cells #[.int .i64 a5, .slice p15 r5.length q15] 26)).heap.size := Nat.le_trans hR15_1 sz16
      have R16_2 := Lib.hid (R15_2.out.below bb16 hR15_2)
      have hR16_2 : g2 ≤ (w15.alloc (.cells #[.int .i64 a5, .slice p15 r5.length q15] 26)).heap.size := Nat.le_trans hR15_2 sz16
      have R16_3 := Lib.hid (R15_3.out.below bb16 hR15_3)
      have hR16_3 : g3 ≤ (w15.alloc (.cells #[.int .i64 a5, .slice p15 r5.length q15] 26)).heap.size := Nat.le_trans hR15_3 sz16
      have R16_4 := Lib.hid (R15_4.out.below bb16 hR15_4)
      have hR16_4 : g4 ≤ (w15.alloc (.cells #[.int .i64 a5, .slice p15 r5.length q15] 26)).heap.size := Nat.le_trans hR15_4 sz16
      have R16_5 := Lib.hid (R15_5.out.below bb16 hR15_5)
      have hR16_5 : g5 ≤ (w15.alloc (.cells #[.int .i64 a5, .slice p15 r5.length q15] 26)).heap.size := Nat.le_trans hR15_5 sz16
      have R16_6 := Lib.hid (R15_6.out.below bb16 hR15_6)
      have hR16_6 : g6 ≤ (w15.alloc (.cells #[.int .i64 a5, .slice p15 r5.length q15] 26)).heap.size := Nat.le_trans hR15_6 sz16
      have R16_7 := Lib.hid (R15_7.out.below bb16 hR15_7)
      have hR16_7 : g7 ≤ (w15.alloc (.cells #[.int .i64 a5, .slice p15 r5.length q15] 26)).heap.size := Nat.le_trans hR15_7 sz16
      have R16_8 := Lib.hid (R15_8.out.below bb16 hR15_8)
      have hR16_8 : g8 ≤ (w15.alloc (.cells #[.int .i64 a5, .slice p15 r5.length q15] 26)).heap.size := Nat.le_trans hR15_8 sz16
      have R16_9 := Lib.hid (R15_9.out.below bb16 hR15_9)
      have hR16_9 : g8 ≤ (w15.alloc (.cells #[.int .i64 a5, .slice p15 r5.length q15] 26)).heap.size := Nat.le_trans hR15_9 sz16
      have R16_10 := Lib.hid (R15_10.out.below bb16 hR15_10)
      have hR16_10 : g11 ≤ (w15.alloc (.cells #[.int .i64 a5, .slice p15 r5.length q15] 26)).heap.size := Nat.le_trans hR15_10 sz16
      have R16_11 := Lib.hid (R15_11.out.below bb16 hR15_11)
      have hR16_11 : g12 ≤ (w15.alloc (.cells #[.int .i64 a5, .slice p15 r5.length q15] 26)).heap.size := Nat.le_trans hR15_11 sz16
      have R16_12 := Lib.hid (R15_12.out.below bb16 hR15_12)
      have hR16_12 : g14 ≤ (w15.alloc (.cells #[.int .i64 a5, .slice p15 r5.length q15] 26)).heap.size := Nat.le_trans hR15_12 sz16
      have Bw16 := Lib.hid (Bw15.out.trans (bb16.mono Bw15.out.size))
      have c16_24 : (w15.alloc (.cells #[.int .i64 a5, .slice p15 r5.length q15] 26)).cell? ⟨w15.heap.size, 0, none⟩ = some (.int .i64 a5) := G15.cell 0
      have hc16_24 : w15.heap.size < (w15.alloc (.cells #[.int .i64 a5, .slice p15 r5.length q15] 26)).heap.size := hs15
      have c16_25 : (w15.alloc (.cells #[.int .i64 a5, .slice p15 r5.length q15] 26)).cell? ⟨w15.heap.size, 1, none⟩ = some (.slice p15 r5.length q15) := G15.cell 1
      have hc16_25 : w15.heap.size < (w15.alloc (.cells #[.int .i64 a5, .slice p15 r5.length q15] 26)).heap.size := hs15
      have R16_13 := Lib.hid (o15.reads.below hA15 (Nat.le_refl _))
      have hR16_13 : w15.heap.size ≤ (w15.alloc (.cells #[.int .i64 a5, .slice p15 r5.length q15] 26)).heap.size := Nat.le_of_lt hs15
      generalize w15.alloc (.cells #[.int .i64 a5, .slice p15 r5.length q15] 26) = W15 at bb16 sz16 c16_0 hc16_0 c16_1 hc16_1 c16_2 hc16_2 c16_3 hc16_3 c16_4 hc16_4 c16_5 hc16_5 c16_6 hc16_6 c16_7 hc16_7 c16_8 hc16_8 c16_9 hc16_9 c16_10 hc16_10 c16_11 hc16_11 c16_12 hc16_12 c16_13 hc16_13 c16_14 hc16_14 c16_15 hc16_15 c16_16 hc16_16 c16_17 hc16_17 c16_18 hc16_18 c16_19 hc16_19 c16_20 hc16_20 c16_21 hc16_21 c16_22 hc16_22 c16_23 hc16_23 R16_0 hR16_0 R16_1 hR16_1 R16_2 hR16_2 R16_3 hR16_3 R16_4 hR16_4 R16_5 hR16_5 R16_6 hR16_6 R16_7 hR16_7 R16_8 hR16_8 R16_9 hR16_9 R16_10 hR16_10 R16_11 hR16_11 R16_12 hR16_12 Bw16 c16_24 hc16_24 c16_25 hc16_25 R16_13 hR16_13 ⊢
      clear bb16 sz16
      clear c15_0 c15_1 c15_2 c15_3 c15_4 c15_5 c15_6 c15_7 c15_8 c15_9 c15_10 c15_11 c15_12 c15_13 c15_14 c15_15 c15_16 c15_17 c15_18 c15_19 c15_20 c15_21 c15_22 c15_23 hc15_0 hc15_1 hc15_2 hc15_3 hc15_4 hc15_5 hc15_6 hc15_7 hc15_8 hc15_9 hc15_10 hc15_11 hc15_12 hc15_13 hc15_14 hc15_15 hc15_16 hc15_17 hc15_18 hc15_19 hc15_20 hc15_21 hc15_22 hc15_23 R15_0 R15_1 R15_2 R15_3 R15_4 R15_5 R15_6 R15_7 R15_8 R15_9 R15_10 R15_11 R15_12 hR15_0 hR15_1 hR15_2 hR15_3 hR15_4 hR15_5 hR15_6 hR15_7 hR15_8 hR15_9 hR15_10 hR15_11 hR15_12 k15_0 k15_1 k15_2 k15_3 k15_4 k15_5 k15_6 k15_7 k15_8 k15_9 k15_10 k15_11 k15_12 k15_13 k15_14 k15_15 k15_16 k15_17 k15_18 k15_19 k15_20 k15_21 k15_22 k15_23 Bw15 G15 o15 b15 hA15 hs15
      generalize w15.heap.size = g15 at *
      have k16_0 := fun p : Past W15 => Past.cell (W := W15) c16_0 hc16_0 p
      have k16_1 := fun p : Past W15 => Past.cell (W := W15) c16_1 hc16_1 p
      have k16_2 := fun p : Past W15 => Past.cell (W := W15) c16_2 hc16_2 p
      have k16_3 := fun p : Past W15 => Past.cell (W := W15) c16_3 hc16_3 p
      have k16_4 := fun p : Past W15 => Past.cell (W := W15) c16_4 hc16_4 p
      have k16_5 := fun p : Past W15 => Past.cell (W := W15) c16_5 hc16_5 p
      have k16_6 := fun p : Past W15 => Past.cell (W := W15) c16_6 hc16_6 p
      have k16_7 := fun p : Past W15 => Past.cell (W := W15) c16_7 hc16_7 p
      have k16_8 := fun p : Past W15 => Past.cell (W := W15) c16_8 hc16_8 p
      have k16_9 := fun p : Past W15 => Past.cell (W := W15) c16_9 hc16_9 p
      have k16_10 := fun p : Past W15 => Past.cell (W := W15) c16_10 hc16_10 p
      have k16_11 := fun p : Past W15 => Past.cell (W := W15) c16_11 hc16_11 p
      have k16_12 := fun p : Past W15 => Past.cell (W := W15) c16_12 hc16_12 p
      have k16_13 := fun p : Past W15 => Past.cell (W := W15) c16_13 hc16_13 p
      have k16_14 := fun p : Past W15 => Past.cell (W := W15) c16_14 hc16_14 p
      have k16_15 := fun p : Past W15 => Past.cell (W := W15) c16_15 hc16_15 p
      have k16_16 := fun p : Past W15 => Past.cell (W := W15) c16_16 hc16_16 p
      have k16_17 := fun p : Past W15 => Past.cell (W := W15) c16_17 hc16_17 p
      have k16_18 := fun p : Past W15 => Past.cell (W := W15) c16_18 hc16_18 p
      have k16_19 := fun p : Past W15 => Past.cell (W := W15) c16_19 hc16_19 p
      have k16_20 := fun p : Past W15 => Past.cell (W := W15) c16_20 hc16_20 p
      have k16_21 := fun p : Past W15 => Past.cell (W := W15) c16_21 hc16_21 p
      have k16_22 := fun p : Past W15 => Past.cell (W := W15) c16_22 hc16_22 p
      have k16_23 := fun p : Past W15 => Past.cell (W := W15) c16_23 hc16_23 p
      have k16_24 := fun p : Past W15 => Past.cell (W := W15) c16_24 hc16_24 p
      have k16_25 := fun p : Past W15 => Past.cell (W := W15) c16_25 hc16_25 p
      have EZ := Lib.hid fun p : Past W15 => p.of (spec_eqc a5 a5 _ _ r5 r5 g15 g5 p.w (Past.reads R16_13.out hR16_13 p) (Past.reads R16_5.out hR16_5 p) (Past.len hR16_13 p) (Past.len hR16_5 p))
      rw [show (a5 == a5 && r5 == r5) = true by simp] at EZ
      have ke8 := k16_8 (Past.start W15)
      have ke9 := k16_9 (Past.start W15)
      have ke24 := k16_24 (Past.start W15)
      have ke25 := k16_25 (Past.start W15)
      go_wp2_with fail
      refine (EZ.out (Past.start W15)).mono ?_
      rintro e _ ⟨rfl, y6, rfl⟩
      clear EZ
      have bb17 := y6.h
      have sz17 := bb17.size
      have c17_0 : (y6.w).cell? ⟨g1, 0, none⟩ = some (.int .i64 a1) := (bb17.cell (p := ⟨g1, 0, none⟩) hc16_0).trans c16_0
      have hc17_0 : g1 < (y6.w).heap.size := Nat.lt_of_lt_of_le hc16_0 sz17
      have c17_1 : (y6.w).cell? ⟨g1, 1, none⟩ = some (.slice p1 r1.length q1) := (bb17.cell (p := ⟨g1, 1, none⟩) hc16_1).trans c16_1
      have hc17_1 : g1 < (y6.w).heap.size := Nat.lt_of_lt_of_le hc16_1 sz17
      have c17_2 : (y6.w).cell? ⟨g2, 0, none⟩ = some (.int .i64 a2) := (bb17.cell (p := ⟨g2, 0, none⟩) hc16_2).trans c16_2
      have hc17_2 : g2 < (y6.w).heap.size := Nat.lt_of_lt_of_le hc16_2 sz17
      have c17_3 : (y6.w).cell? ⟨g2, 1, none⟩ = some (.slice p2 r2.length q2) := (bb17.cell (p := ⟨g2, 1, none⟩) hc16_3).trans c16_3
      have hc17_3 : g2 < (y6.w).heap.size := Nat.lt_of_lt_of_le hc16_3 sz17
      have c17_4 : (y6.w).cell? ⟨g3, 0, none⟩ = some (.int .i64 a2) := (bb17.cell (p := ⟨g3, 0, none⟩) hc16_4).trans c16_4
      have hc17_4 : g3 < (y6.w).heap.size := Nat.lt_of_lt_of_le hc16_4 sz17
      have c17_5 : (y6.w).cell? ⟨g3, 1, none⟩ = some (.slice p3 r2.length q3) := (bb17.cell (p := ⟨g3, 1, none⟩) hc16_5).trans c16_5
      have hc17_5 : g3 < (y6.w).heap.size := Nat.lt_of_lt_of_le hc16_5 sz17
      have c17_6 : (y6.w).cell? ⟨g4, 0, none⟩ = some (.int .i64 a4) := (bb17.cell (p := ⟨g4, 0, none⟩) hc16_6).trans c16_6
      have hc17_6 : g4 < (y6.w).heap.size := Nat.lt_of_lt_of_le hc16_6 sz17
      have c17_7 : (y6.w).cell? ⟨g4, 1, none⟩ = some (.slice p4 r4.length q4) := (bb17.cell (p := ⟨g4, 1, none⟩) hc16_7).trans c16_7
      have hc17_7 : g4 < (y6.w).heap.size := Nat.lt_of_lt_of_le hc16_7 sz17
      have c17_8 : (y6.w).cell? ⟨g5, 0, none⟩ = some (.int .i64 a5) := (bb17.cell (p := ⟨g5, 0, none⟩) hc16_8).trans c16_8
      have hc17_8 : g5 < (y6.w).heap.size := Nat.lt_of_lt_of_le hc16_8 sz17
      have c17_9 : (y6.w).cell? ⟨g5, 1, none⟩ = some (.slice p5 r5.length q5) := (bb17.cell (p := ⟨g5, 1, none⟩) hc16_9).trans c16_9
      have hc17_9 : g5 < (y6.w).heap.size := Nat.lt_of_lt_of_le hc16_9 sz17
      have c17_10 : (y6.w).cell? ⟨g6, 0, none⟩ = some (.int .i64 a6) := (bb17.cell (p := ⟨g6, 0, none⟩) hc16_10).trans c16_10
      have hc17_10 : g6 < (y6.w).heap.size := Nat.lt_of_lt_of_le hc16_10 sz17
      have c17_11 : (y6.w).cell? ⟨g6, 1, none⟩ = some (.slice p6 r6.length q6) := (bb17.cell (p := ⟨g6, 1, none⟩) hc16_11).trans c16_11
      have hc17_11 : g6 < (y6.w).heap.size := Nat.lt_of_lt_of_le hc16_11 sz17
      have c17_12 : (y6.w).cell? ⟨g7, 0, none⟩ = some (.int .i64 a6) := (bb17.cell (p := ⟨g7, 0, none⟩) hc16_12).trans c16_12
      have hc17_12 : g7 < (y6.w).heap.size := Nat.lt_of_lt_of_le hc16_12 sz17
      have c17_13 : (y6.w).cell? ⟨g7, 1, none⟩ = some (.slice p7 r6.length q7) := (bb17.cell (p := ⟨g7, 1, none⟩) hc16_13).trans c16_13
      have hc17_13 : g7 < (y6.w).heap.size := Nat.lt_of_lt_of_le hc16_13 sz17
      have c17_14 : (y6.w).cell? ⟨g8, 0, none⟩ = some (.int .i64 a8) := (bb17.cell (p := ⟨g8, 0, none⟩) hc16_14).trans c16_14
      have hc17_14 : g8 < (y6.w).heap.size := Nat.lt_of_lt_of_le hc16_14 sz17
      have c17_15 : (y6.w).cell? ⟨g8, 1, none⟩ = some (.slice p8 r8.length q8) := (bb17.cell (p := ⟨g8, 1, none⟩) hc16_15).trans c16_15
      have hc17_15 : g8 < (y6.w).heap.size := Nat.lt_of_lt_of_le hc16_15 sz17
      have c17_16 : (y6.w).cell? ⟨g8 + 1, 0, none⟩ = some (.int .i64 a9) := (bb17.cell (p := ⟨g8 + 1, 0, none⟩) hc16_16).trans c16_16
      have hc17_16 : g8 + 1 < (y6.w).heap.size := Nat.lt_of_lt_of_le hc16_16 sz17
      have c17_17 : (y6.w).cell? ⟨g8 + 1, 1, none⟩ = some (.slice p9 r9.length q9) := (bb17.cell (p := ⟨g8 + 1, 1, none⟩) hc16_17).trans c16_17
      have hc17_17 : g8 + 1 < (y6.w).heap.size := Nat.lt_of_lt_of_le hc16_17 sz17
      have c17_18 : (y6.w).cell? ⟨g11, 0, none⟩ = some (.int .i64 a11) := (bb17.cell (p := ⟨g11, 0, none⟩) hc16_18).trans c16_18
      have hc17_18 : g11 < (y6.w).heap.size := Nat.lt_of_lt_of_le hc16_18 sz17
      have c17_19 : (y6.w).cell? ⟨g11, 1, none⟩ = some (.slice p11 r11.length q11) := (bb17.cell (p := ⟨g11, 1, none⟩) hc16_19).trans c16_19
      have hc17_19 : g11 < (y6.w).heap.size := Nat.lt_of_lt_of_le hc16_19 sz17
      have c17_20 : (y6.w).cell? ⟨g12, 0, none⟩ = some (.int .i64 a11) := (bb17.cell (p := ⟨g12, 0, none⟩) hc16_20).trans c16_20
      have hc17_20 : g12 < (y6.w).heap.size := Nat.lt_of_lt_of_le hc16_20 sz17
      have c17_21 : (y6.w).cell? ⟨g12, 1, none⟩ = some (.slice p12 r11.length q12) := (bb17.cell (p := ⟨g12, 1, none⟩) hc16_21).trans c16_21
      have hc17_21 : g12 < (y6.w).heap.size := Nat.lt_of_lt_of_le hc16_21 sz17
      have c17_22 : (y6.w).cell? ⟨g14, 0, none⟩ = some (.int .i64 a14) := (bb17.cell (p := ⟨g14, 0, none⟩) hc16_22).trans c16_22
      have hc17_22 : g14 < (y6.w).heap.size := Nat.lt_of_lt_of_le hc16_22 sz17
      have c17_23 : (y6.w).cell? ⟨g14, 1, none⟩ = some (.slice p14 r14.length q14) := (bb17.cell (p := ⟨g14, 1, none⟩) hc16_23).trans c16_23
      have hc17_23 : g14 < (y6.w).heap.size := Nat.lt_of_lt_of_le hc16_23 sz17
      have c17_24 : (y6.w).cell? ⟨g15, 0, none⟩ = some (.int .i64 a5) := (bb17.cell (p := ⟨g15, 0, none⟩) hc16_24).trans c16_24
      have hc17_24 : g15 < (y6.w).heap.size := Nat.lt_of_lt_of_le hc16_24 sz17
      have c17_25 : (y6.w).cell? ⟨g15, 1, none⟩ = some (.slice p15 r5.length q15) := (bb17.cell (p := ⟨g15, 1, none⟩) hc16_25).trans c16_25
      have hc17_25 : g15 < (y6.w).heap.size := Nat.lt_of_lt_of_le hc16_25 sz17
      have R17_0 := Lib.hid (R16_0.out.below bb17 hR16_0)
      have hR17_0 : w.heap.size ≤ (y6.w).heap.size := Nat.le_trans hR16_0 sz17
      have R17_1 := Lib.hid (R16_1.out.below bb17 hR16_1)
      have hR17_1 : g1 ≤ (y6.w).heap.size := Nat.le_trans hR16_1 sz17
      have R17_2 := Lib.hid (R16_2.out.below bb17 hR16_2)
      have hR17_2 : g2 ≤ (y6.w).heap.size := Nat.le_trans hR16_2 sz17
      have R17_3 := Lib.hid (R16_3.out.below bb17 hR16_3)
      have hR17_3 : g3 ≤ (y6.w).heap.size := Nat.le_trans hR16_3 sz17
      have R17_4 := Lib.hid (R16_4.out.below bb17 hR16_4)
      have hR17_4 : g4 ≤ (y6.w).heap.size := Nat.le_trans hR16_4 sz17
      have R17_5 := Lib.hid (R16_5.out.below bb17 hR16_5)
      have hR17_5 : g5 ≤ (y6.w).heap.size := Nat.le_trans hR16_5 sz17
      have R17_6 := Lib.hid (R16_6.out.below bb17 hR16_6)
      have hR17_6 : g6 ≤ (y6.w).heap.size := Nat.le_trans hR16_6 sz17
      have R17_7 := Lib.hid (R16_7.out.below bb17 hR16_7)
      have hR17_7 : g7 ≤ (y6.w).heap.size := Nat.le_trans hR16_7 sz17
      have R17_8 := Lib.hid (R16_8.out.below bb17 hR16_8)
      have hR17_8 : g8 ≤ (y6.w).heap.size := Nat.le_trans hR16_8 sz17
      have R17_9 := Lib.hid (R16_9.out.below bb17 hR16_9)
      have hR17_9 : g8 ≤ (y6.w).heap.size := Nat.le_trans hR16_9 sz17
      have R17_10 := Lib.hid (R16_10.out.below bb17 hR16_10)
      have hR17_10 : g11 ≤ (y6.w).heap.size := Nat.le_trans hR16_10 sz17
      have R17_11 := Lib.hid (R16_11.out.below bb17 hR16_11)
      have hR17_11 : g12 ≤ (y6.w).heap.size := Nat.le_trans hR16_11 sz17
      have R17_12 := Lib.hid (R16_12.out.below bb17 hR16_12)
      have hR17_12 : g14 ≤ (y6.w).heap.size := Nat.le_trans hR16_12 sz17
      have R17_13 := Lib.hid (R16_13.out.below bb17 hR16_13)
      have hR17_13 : g15 ≤ (y6.w).heap.size := Nat.le_trans hR16_13 sz17
      have Bw17 := Lib.hid (Bw16.out.trans (bb17.mono Bw16.out.size))
      generalize y6.w = WX at bb17 sz17 c17_0 hc17_0 c17_1 hc17_1 c17_2 hc17_2 c17_3 hc17_3 c17_4 hc17_4 c17_5 hc17_5 c17_6 hc17_6 c17_7 hc17_7 c17_8 hc17_8 c17_9 hc17_9 c17_10 hc17_10 c17_11 hc17_11 c17_12 hc17_12 c17_13 hc17_13 c17_14 hc17_14 c17_15 hc17_15 c17_16 hc17_16 c17_17 hc17_17 c17_18 hc17_18 c17_19 hc17_19 c17_20 hc17_20 c17_21 hc17_21 c17_22 hc17_22 c17_23 hc17_23 c17_24 hc17_24 c17_25 hc17_25 R17_0 hR17_0 R17_1 hR17_1 R17_2 hR17_2 R17_3 hR17_3 R17_4 hR17_4 R17_5 hR17_5 R17_6 hR17_6 R17_7 hR17_7 R17_8 hR17_8 R17_9 hR17_9 R17_10 hR17_10 R17_11 hR17_11 R17_12 hR17_12 R17_13 hR17_13 Bw17 ⊢
      clear bb17 sz17
      clear c16_0 c16_1 c16_2 c16_3 c16_4 c16_5 c16_6 c16_7 c16_8 c16_9 c16_10 c16_11 c16_12 c16_13 c16_14 c16_15 c16_16 c16_17 c16_18 c16_19 c16_20 c16_21 c16_22 c16_23 c16_24 c16_25 hc16_0 hc16_1 hc16_2 hc16_3 hc16_4 hc16_5 hc16_6 hc16_7 hc16_8 hc16_9 hc16_10 hc16_11 hc16_12 hc16_13 hc16_14 hc16_15 hc16_16 hc16_17 hc16_18 hc16_19 hc16_20 hc16_21 hc16_22 hc16_23 hc16_24 hc16_25 R16_0 R16_1 R16_2 R16_3 R16_4 R16_5 R16_6 R16_7 R16_8 R16_9 R16_10 R16_11 R16_12 R16_13 hR16_0 hR16_1 hR16_2 hR16_3 hR16_4 hR16_5 hR16_6 hR16_7 hR16_8 hR16_9 hR16_10 hR16_11 hR16_12 hR16_13 k16_0 k16_1 k16_2 k16_3 k16_4 k16_5 k16_6 k16_7 k16_8 k16_9 k16_10 k16_11 k16_12 k16_13 k16_14 k16_15 k16_16 k16_17 k16_18 k16_19 k16_20 k16_21 k16_22 k16_23 k16_24 k16_25 Bw16
      have k17_0 := fun p : Past WX => Past.cell (W := WX) c17_0 hc17_0 p
      have k17_1 := fun p : Past WX => Past.cell (W := WX) c17_1 hc17_1 p
      have k17_2 := fun p : Past WX => Past.cell (W := WX) c17_2 hc17_2 p
      have k17_3 := fun p : Past WX => Past.cell (W := WX) c17_3 hc17_3 p
      have k17_4 := fun p : Past WX => Past.cell (W := WX) c17_4 hc17_4 p
      have k17_5 := fun p : Past WX => Past.cell (W := WX) c17_5 hc17_5 p
      have k17_6 := fun p : Past WX => Past.cell (W := WX) c17_6 hc17_6 p
      have k17_7 := fun p : Past WX => Past.cell (W := WX) c17_7 hc17_7 p
      have k17_8 := fun p : Past WX => Past.cell (W := WX) c17_8 hc17_8 p
      have k17_9 := fun p : Past WX => Past.cell (W := WX) c17_9 hc17_9 p
      have k17_10 := fun p : Past WX => Past.cell (W := WX) c17_10 hc17_10 p
      have k17_11 := fun p : Past WX => Past.cell (W := WX) c17_11 hc17_11 p
      have k17_12 := fun p : Past WX => Past.cell (W := WX) c17_12 hc17_12 p
      have k17_13 := fun p : Past WX => Past.cell (W := WX) c17_13 hc17_13 p
      have k17_14 := fun p : Past WX => Past.cell (W := WX) c17_14 hc17_14 p
      have k17_15 := fun p : Past WX => Past.cell (W := WX) c17_15 hc17_15 p
      have k17_16 := fun p : Past WX => Past.cell (W := WX) c17_16 hc17_16 p
      have k17_17 := fun p : Past WX => Past.cell (W := WX) c17_17 hc17_17 p
      have k17_18 := fun p : Past WX => Past.cell (W := WX) c17_18 hc17_18 p
      have k17_19 := fun p : Past WX => Past.cell (W := WX) c17_19 hc17_19 p
      have k17_20 := fun p : Past WX => Past.cell (W := WX) c17_20 hc17_20 p
      have k17_21 := fun p : Past WX => Past.cell (W := WX) c17_21 hc17_21 p
      have k17_22 := fun p : Past WX => Past.cell (W := WX) c17_22 hc17_22 p
      have k17_23 := fun p : Past WX => Past.cell (W := WX) c17_23 hc17_23 p
      have k17_24 := fun p : Past WX => Past.cell (W := WX) c17_24 hc17_24 p
      have k17_25 := fun p : Past WX => Past.cell (W := WX) c17_25 hc17_25 p
      obtain ⟨a16, hn16⟩ : ∃ n, ((dual a2 r2).getD (0, [])).1 = n := ⟨_, rfl⟩
      obtain ⟨r16, hr16⟩ : ∃ n, ((dual a2 r2).getD (0, [])).2 = n := ⟨_, rfl⟩
      obtain ⟨k16, hk16⟩ : ∃ n, (dual a2 r2).isSome = n := ⟨_, rfl⟩
      have EN16 := Lib.hid hn16
      have ER16 := Lib.hid hr16
      have EK16 := Lib.hid hk16
      clear hn16 hr16 hk16
      go_wp2_with fail
      refine (impl_dual a2 _ r2 g2 (Past.start WX).w (Past.reads R17_2.out hR17_2 (Past.start WX)) (Past.len hR17_2 (Past.start WX))).mono ?_
      rintro e w16 hres
      obtain ⟨p16, q16, rfl, o16, b16⟩ := asCtx EN16.out ER16.out EK16.out hres
      clear hres
      have hA16 := (Below.refl w16.heap.size w16).alloc (Nat.le_refl _) (.cells #[.int .i64 a16, .slice p16 r16.length q16] 26)
      go_upto_region 25 with fail
      have hs16 : w16.heap.size < (w16.alloc (.cells #[.int .i64 a16, .slice p16 r16.length q16] 26)).heap.size := by simp
      have G16 := BoxAt.new w16 26 #[.int .i64 a16, .slice p16 r16.length q16]
      have bb18 := (Past.start WX).h.trans ((b16.trans (hA16.mono b16.size)).mono (Past.start WX).h.size)
      have sz18 := bb18.size
      have c18_0 : (w16.alloc (.cells #[.int .i64 a16, .slice p16 r16.length q16] 26)).cell? ⟨g1, 0, none⟩ = some (.int .i64 a1) := (bb18.cell (p := ⟨g1, 0, none⟩) hc17_0).trans c17_0
      have hc18_0 : g1 < (w16.alloc (.cells #[.int .i64 a16, .slice p16 r16.length q16] 26)).heap.size := Nat.lt_of_lt_of_le hc17_0 sz18
      have c18_1 : (w16.alloc (.cells #[.int .i64 a16, .slice p16 r16.length q16] 26)).cell? ⟨g1, 1, none⟩ = some (.slice p1 r1.length q1) := (bb18.cell (p := ⟨g1, 1, none⟩) hc17_1).trans c17_1
      have hc18_1 : g1 < (w16.alloc (.cells #[.int .i64 a16, .slice p16 r16.length q16] 26)).heap.size := Nat.lt_of_lt_of_le hc17_1 sz18
      have c18_2 : (w16.alloc (.cells #[.int .i64 a16, .slice p16 r16.length q16] 26)).cell? ⟨g2, 0, none⟩ = some (.int .i64 a2) := (bb18.cell (p := ⟨g2, 0, none⟩) hc17_2).trans c17_2
      have hc18_2 : g2 < (w16.alloc (.cells #[.int .i64 a16, .slice p16 r16.length q16] 26)).heap.size := Nat.lt_of_lt_of_le hc17_2 sz18
      have c18_3 : (w16.alloc (.cells #[.int .i64 a16, .slice p16 r16.length q16] 26)).cell? ⟨g2, 1, none⟩ = some (.slice p2 r2.length q2) := (bb18.cell (p := ⟨g2, 1, none⟩) hc17_3).trans c17_3
      have hc18_3 : g2 < (w16.alloc (.cells #[.int .i64 a16, .slice p16 r16.length q16] 26)).heap.size := Nat.lt_of_lt_of_le hc17_3 sz18
      have c18_4 : (w16.alloc (.cells #[.int .i64 a16, .slice p16 r16.length q16] 26)).cell? ⟨g3, 0, none⟩ = some (.int .i64 a2) := (bb18.cell (p := ⟨g3, 0, none⟩) hc17_4).trans c17_4
      have hc18_4 : g3 < (w16.alloc (.cells #[.int .i64 a16, .slice p16 r16.length q16] 26)).heap.size := Nat.lt_of_lt_of_le hc17_4 sz18
      have c18_5 : (w16.alloc (.cells #[.int .i64 a16, .slice p16 r16.length q16] 26)).cell? ⟨g3, 1, none⟩ = some (.slice p3 r2.length q3) := (bb18.cell (p := ⟨g3, 1, none⟩) hc17_5).trans c17_5
      have hc18_5 : g3 < (w16.alloc (.cells #[.int .i64 a16, .slice p16 r16.length q16] 26)).heap.size := Nat.lt_of_lt_of_le hc17_5 sz18
      have c18_6 : (w16.alloc (.cells #[.int .i64 a16, .slice p16 r16.length q16] 26)).cell? ⟨g4, 0, none⟩ = some (.int .i64 a4) := (bb18.cell (p := ⟨g4, 0, none⟩) hc17_6).trans c17_6
      have hc18_6 : g4 < (w16.alloc (.cells #[.int .i64 a16, .slice p16 r16.length q16] 26)).heap.size := Nat.lt_of_lt_of_le hc17_6 sz18
      have c18_7 : (w16.alloc (.cells #[.int .i64 a16, .slice p16 r16.length q16] 26)).cell? ⟨g4, 1, none⟩ = some (.slice p4 r4.length q4) := (bb18.cell (p := ⟨g4, 1, none⟩) hc17_7).trans c17_7
      have hc18_7 : g4 < (w16.alloc (.cells #[.int .i64 a16, .slice p16 r16.length q16] 26)).heap.size := Nat.lt_of_lt_of_le hc17_7 sz18
      have c18_8 : (w16.alloc (.cells #[.int .i64 a16, .slice p16 r16.length q16] 26)).cell? ⟨g5, 0, none⟩ = some (.int .i64 a5) := (bb18.cell (p := ⟨g5, 0, none⟩) hc17_8).trans c17_8
      have hc18_8 : g5 < (w16.alloc (.cells #[.int .i64 a16, .slice p16 r16.length q16] 26)).heap.size := Nat.lt_of_lt_of_le hc17_8 sz18
      have c18_9 : (w16.alloc (.cells #[.int .i64 a16, .slice p16 r16.length q16] 26)).cell? ⟨g5, 1, none⟩ = some (.slice p5 r5.length q5) := (bb18.cell (p := ⟨g5, 1, none⟩) hc17_9).trans c17_9
      have hc18_9 : g5 < (w16.alloc (.cells #[.int .i64 a16, .slice p16 r16.length q16] 26)).heap.size := Nat.lt_of_lt_of_le hc17_9 sz18
      have c18_10 : (w16.alloc (.cells #[.int .i64 a16, .slice p16 r16.length q16] 26)).cell? ⟨g6, 0, none⟩ = some (.int .i64 a6) := (bb18.cell (p := ⟨g6, 0, none⟩) hc17_10).trans c17_10
      have hc18_10 : g6 < (w16.alloc (.cells #[.int .i64 a16, .slice p16 r16.length q16] 26)).heap.size := Nat.lt_of_lt_of_le hc17_10 sz18
      have c18_11 : (w16.alloc (.cells #[.int .i64 a16, .slice p16 r16.length q16] 26)).cell? ⟨g6, 1, none⟩ = some (.slice p6 r6.length q6) := (bb18.cell (p := ⟨g6, 1, none⟩) hc17_11).trans c17_11
      have hc18_11 : g6 < (w16.alloc (.cells #[.int .i64 a16, .slice p16 r16.length q16] 26)).heap.size := Nat.lt_of_lt_of_le hc17_11 sz18
      have c18_12 : (w16.alloc (.cells #[.int .i64 a16, .slice p16 r16.length q16] 26)).cell? ⟨g7, 0, none⟩ = some (.int .i64 a6) := (bb18.cell (p := ⟨g7, 0, none⟩) hc17_12).trans c17_12
      have hc18_12 : g7 < (w16.alloc (.cells #[.int .i64 a16, .slice p16 r16.length q16] 26)).heap.size := Nat.lt_of_lt_of_le hc17_12 sz18
      have c18_13 : (w16.alloc (.cells #[.int .i64 a16, .slice p16 r16.length q16] 26)).cell? ⟨g7, 1, none⟩ = some (.slice p7 r6.length q7) := (bb18.cell (p := ⟨g7, 1, none⟩) hc17_13).trans c17_13
      have hc18_13 : g7 < (w16.alloc (.cells #[.int .i64 a16, .slice p16 r16.length q16] 26)).heap.size := Nat.lt_of_lt_of_le hc17_13 sz18
      have c18_14 : (w16.alloc (.cells #[.int .i64 a16, .slice p16 r16.length q16] 26)).cell? ⟨g8, 0, none⟩ = some (.int .i64 a8) := (bb18.cell (p := ⟨g8, 0, none⟩) hc17_14).trans c17_14
      have hc18_14 : g8 < (w16.alloc (.cells #[.int .i64 a16, .slice p16 r16.length q16] 26)).heap.size := Nat.lt_of_lt_of_le hc17_14 sz18
      have c18_15 : (w16.alloc (.cells #[.int .i64 a16, .slice p16 r16.length q16] 26)).cell? ⟨g8, 1, none⟩ = some (.slice p8 r8.length q8) := (bb18.cell (p := ⟨g8, 1, none⟩) hc17_15).trans c17_15
      have hc18_15 : g8 < (w16.alloc (.cells #[.int .i64 a16, .slice p16 r16.length q16] 26)).heap.size := Nat.lt_of_lt_of_le hc17_15 sz18
      have c18_16 : (w16.alloc (.cells #[.int .i64 a16, .slice p16 r16.length q16] 26)).cell? ⟨g8 + 1, 0, none⟩ = some (.int .i64 a9) := (bb18.cell (p := ⟨g8 + 1, 0, none⟩) hc17_16).trans c17_16
      have hc18_16 : g8 + 1 < (w16.alloc (.cells #[.int .i64 a16, .slice p16 r16.length q16] 26)).heap.size := Nat.lt_of_lt_of_le hc17_16 sz18
      have c18_17 : (w16.alloc (.cells #[.int .i64 a16, .slice p16 r16.length q16] 26)).cell? ⟨g8 + 1, 1, none⟩ = some (.slice p9 r9.length q9) := (bb18.cell (p := ⟨g8 + 1, 1, none⟩) hc17_17).trans c17_17
      have hc18_17 : g8 + 1 < (w16.alloc (.cells #[.int .i64 a16, .slice p16 r16.length q16] 26)).heap.size := Nat.lt_of_lt_of_le hc17_17 sz18
      have c18_18 : (w16.alloc (.cells #[.int .i64 a16, .slice p16 r16.length q16] 26)).cell? ⟨g11, 0, none⟩ = some (.int .i64 a11) := (bb18.cell (p := ⟨g11, 0, none⟩) hc17_18).trans c17_18
      have hc18_18 : g11 < (w16.alloc (.cells #[.int .i64 a16, .slice p16 r16.length q16] 26)).heap.size := Nat.lt_of_lt_of_le hc17_18 sz18
      have c18_19 : (w16.alloc (.cells #[.int .i64 a16, .slice p16 r16.length q16] 26)).cell? ⟨g11, 1, none⟩ = some (.slice p11 r11.length q11) := (bb18.cell (p := ⟨g11, 1, none⟩) hc17_19).trans c17_19
      have hc18_19 : g11 < (w16.alloc (.cells #[.int .i64 a16, .slice p16 r16.length q16] 26)).heap.size := Nat.lt_of_lt_of_le hc17_19 sz18
      have c18_20 : (w16.alloc (.cells #[.int .i64 a16, .slice p16 r16.length q16] 26)).cell? ⟨g12, 0, none⟩ = some (.int .i64 a11) := (bb18.cell (p := ⟨g12, 0, none⟩) hc17_20).trans c17_20
      have hc18_20 : g12 < (w16.alloc (.cells #[.int .i64 a16, .slice p16 r16.length q16] 26)).heap.size := Nat.lt_of_lt_of_le hc17_20 sz18
      have c18_21 : (w16.alloc (.cells #[.int .i64 a16, .slice p16 r16.length q16] 26)).cell? ⟨g12, 1, none⟩ = some (.slice p12 r11.length q12) := (bb18.cell (p := ⟨g12, 1, none⟩) hc17_21).trans c17_21
      have hc18_21 : g12 < (w16.alloc (.cells #[.int .i64 a16, .slice p16 r16.length q16] 26)).heap.size := Nat.lt_of_lt_of_le hc17_21 sz18
      have c18_22 : (w16.alloc (.cells #[.int .i64 a16, .slice p16 r16.length q16] 26)).cell? ⟨g14, 0, none⟩ = some (.int .i64 a14) := (bb18.cell (p := ⟨g14, 0, none⟩) hc17_22).trans c17_22
      have hc18_22 : g14 < (w16.alloc (.cells #[.int .i64 a16, .slice p16 r16.length q16] 26)).heap.size := Nat.lt_of_lt_of_le hc17_22 sz18
      have c18_23 : (w16.alloc (.cells #[.int .i64 a16, .slice p16 r16.length q16] 26)).cell? ⟨g14, 1, none⟩ = some (.slice p14 r14.length q14) := (bb18.cell (p := ⟨g14, 1, none⟩) hc17_23).trans c17_23
      have hc18_23 : g14 < (w16.alloc (.cells #[.int .i64 a16, .slice p16 r16.length q16] 26)).heap.size := Nat.lt_of_lt_of_le hc17_23 sz18
      have c18_24 : (w16.alloc (.cells #[.int .i64 a16, .slice p16 r16.length q16] 26)).cell? ⟨g15, 0, none⟩ = some (.int .i64 a5) := (bb18.cell (p := ⟨g15, 0, none⟩) hc17_24).trans c17_24
      have hc18_24 : g15 < (w16.alloc (.cells #[.int .i64 a16, .slice p16 r16.length q16] 26)).heap.size := Nat.lt_of_lt_of_le hc17_24 sz18
      have c18_25 : (w16.alloc (.cells #[.int .i64 a16, .slice p16 r16.length q16] 26)).cell? ⟨g15, 1, none⟩ = some (.slice p15 r5.length q15) := (bb18.cell (p := ⟨g15, 1, none⟩) hc17_25).trans c17_25
      have hc18_25 : g15 < (w16.alloc (.cells #[.int .i64 a16, .slice p16 r16.length q16] 26)).heap.size := Nat.lt_of_lt_of_le hc17_25 sz18
      have R18_0 := Lib.hid (R17_0.out.below bb18 hR17_0)
      have hR18_0 : w.heap.size ≤ (w16.alloc (.cells #[.int .i64 a16, .slice p16 r16.length q16] 26)).heap.size := Nat.le_trans hR17_0 sz18
      have R18_1 := Lib.hid (R17_1.out.below bb18 hR17_1)
      have hR18_1 : g1 ≤ (w16.alloc (.cells #[.int .i64 a16, .slice p16 r16.length q16] 26)).heap.size := Nat.le_trans hR17_1 sz18
      have R18_2 := Lib.hid (R17_2.out.below bb18 hR17_2)
      have hR18_2 : g2 ≤ (w16.alloc (.cells #[.int .i64 a16, .slice p16 r16.length q16] 26)).heap.size := Nat.le_trans hR17_2 sz18
      have R18_3 := Lib.hid (R17_3.out.below bb18 hR17_3)
      have hR18_3 : g3 ≤ (w16.alloc (.cells #[.int .i64 a16, .slice p16 r16.length q16] 26)).heap.size := Nat.le_trans hR17_3 sz18
      have R18_4 := Lib.hid (R17_4.out.below bb18 hR17_4)
      have hR18_4 : g4 ≤ (w16.alloc (.cells #[.int .i64 a16, .slice p16 r16.length q16] 26)).heap.size := Nat.le_trans hR17_4 sz18
      have R18_5 := Lib.hid (R17_5.out.below bb18 hR17_5)
      have hR18_5 : g5 ≤ (w16.alloc (.cells #[.int .i64 a16, .slice p16 r16.length q16] 26)).heap.size := Nat.le_trans hR17_5 sz18
      have R18_6 := Lib.hid (R17_6.out.below bb18 hR17_6)
      have hR18_6 : g6 ≤ (w16.alloc (.cells #[.int .i64 a16, .slice p16 r16.length q16] 26)).heap.size := Nat.le_trans hR17_6 sz18
      have R18_7 := Lib.hid (R17_7.out.below bb18 hR17_7)
      have hR18_7 : g7 ≤ (w16.alloc (.cells #[.int .i64 a16, .slice p16 r16.length q16] 26)).heap.size := Nat.le_trans hR17_7 sz18
      have R18_8 := Lib.hid (R17_8.out.below bb18 hR17_8)
      have hR18_8 : g8 ≤ (w16.alloc (.cells #[.int .i64 a16, .slice p16 r16.length q16] 26)).heap.size := Nat.le_trans hR17_8 sz18
      have R18_9 := Lib.hid (R17_9.out.below bb18 hR17_9)
      have hR18_9 : g8 ≤ (w16.alloc (.cells #[.int .i64 a16, .slice p16 r16.length q16] 26)).heap.size := Nat.le_trans hR17_9 sz18
      have R18_10 := Lib.hid (R17_10.out.below bb18 hR17_10)
      have hR18_10 : g11 ≤ (w16.alloc (.cells #[.int .i64 a16, .slice p16 r16.length q16] 26)).heap.size := Nat.le_trans hR17_10 sz18
      have R18_11 := Lib.hid (R17_11.out.below bb18 hR17_11)
      have hR18_11 : g12 ≤ (w16.alloc (.cells #[.int .i64 a16, .slice p16 r16.length q16] 26)).heap.size := Nat.le_trans hR17_11 sz18
      have R18_12 := Lib.hid (R17_12.out.below bb18 hR17_12)
      have hR18_12 : g14 ≤ (w16.alloc (.cells #[.int .i64 a16, .slice p16 r16.length q16] 26)).heap.size := Nat.le_trans hR17_12 sz18
      have R18_13 := Lib.hid (R17_13.out.below bb18 hR17_13)
      have hR18_13 : g15 ≤ (w16.alloc (.cells #[.int .i64 a16, .slice p16 r16.length q16] 26)).heap.size := Nat.le_trans hR17_13 sz18
      have Bw18 := Lib.hid (Bw17.out.trans (bb18.mono Bw17.out.size))
      have c18_26 : (w16.alloc (.cells #[.int .i64 a16, .slice p16 r16.length q16] 26)).cell? ⟨w16.heap.size, 0, none⟩ = some (.int .i64 a16) := G16.cell 0
      have hc18_26 : w16.heap.size < (w16.alloc (.cells #[.int .i64 a16, .slice p16 r16.length q16] 26)).heap.size := hs16
      have c18_27 : (w16.alloc (.cells #[.int .i64 a16, .slice p16 r16.length q16] 26)).cell? ⟨w16.heap.size, 1, none⟩ = some (.slice p16 r16.length q16) := G16.cell 1
      have hc18_27 : w16.heap.size < (w16.alloc (.cells #[.int .i64 a16, .slice p16 r16.length q16] 26)).heap.size := hs16
      have R18_14 := Lib.hid (o16.reads.below hA16 (Nat.le_refl _))
      have hR18_14 : w16.heap.size ≤ (w16.alloc (.cells #[.int .i64 a16, .slice p16 r16.length q16] 26)).heap.size := Nat.le_of_lt hs16
      generalize w16.alloc (.cells #[.int .i64 a16, .slice p16 r16.length q16] 26) = W16 at bb18 sz18 c18_0 hc18_0 c18_1 hc18_1 c18_2 hc18_2 c18_3 hc18_3 c18_4 hc18_4 c18_5 hc18_5 c18_6 hc18_6 c18_7 hc18_7 c18_8 hc18_8 c18_9 hc18_9 c18_10 hc18_10 c18_11 hc18_11 c18_12 hc18_12 c18_13 hc18_13 c18_14 hc18_14 c18_15 hc18_15 c18_16 hc18_16 c18_17 hc18_17 c18_18 hc18_18 c18_19 hc18_19 c18_20 hc18_20 c18_21 hc18_21 c18_22 hc18_22 c18_23 hc18_23 c18_24 hc18_24 c18_25 hc18_25 R18_0 hR18_0 R18_1 hR18_1 R18_2 hR18_2 R18_3 hR18_3 R18_4 hR18_4 R18_5 hR18_5 R18_6 hR18_6 R18_7 hR18_7 R18_8 hR18_8 R18_9 hR18_9 R18_10 hR18_10 R18_11 hR18_11 R18_12 hR18_12 R18_13 hR18_13 Bw18 c18_26 hc18_26 c18_27 hc18_27 R18_14 hR18_14 ⊢
      clear bb18 sz18
      clear c17_0 c17_1 c17_2 c17_3 c17_4 c17_5 c17_6 c17_7 c17_8 c17_9 c17_10 c17_11 c17_12 c17_13 c17_14 c17_15 c17_16 c17_17 c17_18 c17_19 c17_20 c17_21 c17_22 c17_23 c17_24 c17_25 hc17_0 hc17_1 hc17_2 hc17_3 hc17_4 hc17_5 hc17_6 hc17_7 hc17_8 hc17_9 hc17_10 hc17_11 hc17_12 hc17_13 hc17_14 hc17_15 hc17_16 hc17_17 hc17_18 hc17_19 hc17_20 hc17_21 hc17_22 hc17_23 hc17_24 hc17_25 R17_0 R17_1 R17_2 R17_3 R17_4 R17_5 R17_6 R17_7 R17_8 R17_9 R17_10 R17_11 R17_12 R17_13 hR17_0 hR17_1 hR17_2 hR17_3 hR17_4 hR17_5 hR17_6 hR17_7 hR17_8 hR17_9 hR17_10 hR17_11 hR17_12 hR17_13 k17_0 k17_1 k17_2 k17_3 k17_4 k17_5 k17_6 k17_7 k17_8 k17_9 k17_10 k17_11 k17_12 k17_13 k17_14 k17_15 k17_16 k17_17 k17_18 k17_19 k17_20 k17_21 k17_22 k17_23 k17_24 k17_25 Bw17 G16 o16 b16 hA16 hs16
      generalize w16.heap.size = g16 at *
      have k18_0 := fun p : Past W16 => Past.cell (W := W16) c18_0 hc18_0 p
      have k18_1 := fun p : Past W16 => Past.cell (W := W16) c18_1 hc18_1 p
      have k18_2 := fun p : Past W16 => Past.cell (W := W16) c18_2 hc18_2 p
      have k18_3 := fun p : Past W16 => Past.cell (W := W16) c18_3 hc18_3 p
      have k18_4 := fun p : Past W16 => Past.cell (W := W16) c18_4 hc18_4 p
      have k18_5 := fun p : Past W16 => Past.cell (W := W16) c18_5 hc18_5 p
      have k18_6 := fun p : Past W16 => Past.cell (W := W16) c18_6 hc18_6 p
      have k18_7 := fun p : Past W16 => Past.cell (W := W16) c18_7 hc18_7 p
      have k18_8 := fun p : Past W16 => Past.cell (W := W16) c18_8 hc18_8 p
      have k18_9 := fun p : Past W16 => Past.cell (W := W16) c18_9 hc18_9 p
      have k18_10 := fun p : Past W16 => Past.cell (W := W16) c18_10 hc18_10 p
      have k18_11 := fun p : Past W16 => Past.cell (W := W16) c18_11 hc18_11 p
      have k18_12 := fun p : Past W16 => Past.cell (W := W16) c18_12 hc18_12 p
      have k18_13 := fun p : Past W16 => Past.cell (W := W16) c18_13 hc18_13 p
      have k18_14 := fun p : Past W16 => Past.cell (W := W16) c18_14 hc18_14 p
      have k18_15 := fun p : Past W16 => Past.cell (W := W16) c18_15 hc18_15 p
      have k18_16 := fun p : Past W16 => Past.cell (W := W16) c18_16 hc18_16 p
      have k18_17 := fun p : Past W16 => Past.cell (W := W16) c18_17 hc18_17 p
      have k18_18 := fun p : Past W16 => Past.cell (W := W16) c18_18 hc18_18 p
      have k18_19 := fun p : Past W16 => Past.cell (W := W16) c18_19 hc18_19 p
      have k18_20 := fun p : Past W16 => Past.cell (W := W16) c18_20 hc18_20 p
      have k18_21 := fun p : Past W16 => Past.cell (W := W16) c18_21 hc18_21 p
      have k18_22 := fun p : Past W16 => Past.cell (W := W16) c18_22 hc18_22 p
      have k18_23 := fun p : Past W16 => Past.cell (W := W16) c18_23 hc18_23 p
      have k18_24 := fun p : Past W16 => Past.cell (W := W16) c18_24 hc18_24 p
      have k18_25 := fun p : Past W16 => Past.cell (W := W16) c18_25 hc18_25 p
      have k18_26 := fun p : Past W16 => Past.cell (W := W16) c18_26 hc18_26 p
      have k18_27 := fun p : Past W16 => Past.cell (W := W16) c18_27 hc18_27 p
      cases k2 with
      | false =>
        have hbb := (Past.start W16).below Bw18.out
        go_wp2_with fail
        go_ret
        exact ⟨rfl, hbb⟩
      | true =>
        have hdd := CtxLaws.dual_dual (opt_some EN2.out ER2.out EK2.out)
        obtain ⟨h1, h2, h3⟩ := again EN16.out ER16.out EK16.out hdd
        subst h3
        have EU := Lib.hid fun p : Past W16 => p.of (spec_eqc a16 a1 _ _ r16 r1 g16 g1 p.w (Past.reads R18_14.out hR18_14 p) (Past.reads R18_1.out hR18_1 p) (Past.len hR18_14 p) (Past.len hR18_1 p))
        rw [show (a16 == a1 && r16 == r1) = true by rw [h1, h2]; simp] at EU
        clear h1 h2 hdd
        have kd0 := k18_0 (Past.start W16)
        have kd1 := k18_1 (Past.start W16)
        have kd26 := k18_26 (Past.start W16)
        have kd27 := k18_27 (Past.start W16)
        go_wp2_with fail
        refine (EU.out (Past.start W16)).mono ?_
        rintro e _ ⟨rfl, y4, rfl⟩
        have hbb := y4.below Bw18.out
        go_wp2_with fail
        go_ret
        exact ⟨rfl, hbb⟩
end Go.Proofs.YtkdnjebjbadloaaGreatDoor.LCtx
