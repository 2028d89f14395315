/-
  The law of reducing: walk.
-/
import Derived.Test.YtbpicpapkpomhaaDraw7
import Derived.Test.YtbpicpapkpomhaaRedQ
import Derived.Test.YtbpicpapkpomhaaRedI4
import Derived.Test.YtbpicpapkpomhaaRedS4
import Derived.Test.YtbpicpapkpomhaaEqual
import Derived.Test.YtbpicpapkpomhaaPast2
import Derived.Test.YtbpicpapkpomhaaLBig
import Derived.Deep.RegionHeld3
import Derived.Deep.DeepCutAuto
namespace Go.Proofs.Ytbpicpapkpomhaa.LRed
open Go Go.RowKit Mem Sets Ctx Draw Tab
set_option maxRecDepth 100000

theorem asCtx {x : Option (Int × List Int)} {n : Int} {xs : List Int} {ok : Bool} (hn : (x.getD (0, [])).1 = n) (hx : (x.getD (0, [])).2 = xs) (ho : x.isSome = ok) {w : World} {e : Ending} {w' : World} (h : CtxRes x w e w') :
    ∃ p c, e = .returned (.tuple #[ctx n (.slice p xs.length c), .bool ok]) ∧ Mem.Own 3 w' w.heap.size w'.heap.size (.slice p xs.length c) (ints xs) ∧ Below w.heap.size w w' := by
  subst hn hx ho
  obtain ⟨u, he, o, b⟩ := h
  obtain ⟨p, c, rfl⟩ := own_form o
  exact ⟨p, c, he, o, b⟩
theorem opt_some {x : Option (Int × List Int)} {n : Int} {xs : List Int} (hn : (x.getD (0, [])).1 = n) (hx : (x.getD (0, [])).2 = xs) (ho : x.isSome = true) : x = some (n, xs) := by
  cases x with
  | none => cases ho
  | some p => obtain ⟨a, b⟩ := p; simp only [Option.getD_some] at hn hx; rw [hn, hx]
theorem reduce_ctx {a b : Int} {rs l : List Int} (h : reduce a rs = some (b, l)) : isCtx b l = true := by
  unfold reduce at h
  cases hq : clarify a rs with
  | none => rw [hq] at h; cases h
  | some p =>
    have hc := ctx_clarified (b := p.1) (l := p.2) hq
    rw [hq, Option.bind_some, thin, dropA, if_pos ⟨dropTo_ctx hc _, redAs_isSet (dropTo_ctx hc _)⟩] at h
    simp only [Option.some.injEq, Prod.mk.injEq] at h
    obtain ⟨rfl, rfl⟩ := h
    exact packRows_ctx (dropTo_ctx hc _) (redAs_isSet (dropTo_ctx hc _))
theorem reduce_none {a : Int} {rs : List Int} (h : (reduce a rs).isSome = false) : isCtx a rs = false := by
  cases hc : isCtx a rs with
  | false => rfl
  | true =>
    have hd := dedTo_ctx hc
    have ht := twins_isSet hd
    have h1 : clarify a rs = some (count (keepOf a ((twins a (dedTo rs rs.length) : Nat) : Int)), packRows (dedTo rs rs.length) (keepOf a ((twins a (dedTo rs rs.length) : Nat) : Int)) (dedTo rs rs.length).length) := by
      rw [clarify, if_pos hc, dropA, if_pos ⟨hd, ht⟩]
    have hb := ctx_clarified h1
    have hr := dropTo_ctx hb ((redOs (count (keepOf a ((twins a (dedTo rs rs.length) : Nat) : Int))) (packRows (dedTo rs rs.length) (keepOf a ((twins a (dedTo rs rs.length) : Nat) : Int)) (dedTo rs rs.length).length) : Nat) : Int)
    rw [reduce, h1, Option.bind_some, thin, dropA, if_pos ⟨hr, redAs_isSet hr⟩] at h
    cases h
set_option maxHeartbeats 16000000 in
theorem walk (v : Value) (xs : List Int) (w : World) (hr : Reads w w.heap.size v (u8s xs)) (hx : ∀ j, j < xs.length → 0 ≤ xs.getD j 0 ∧ xs.getD j 0 ≤ 255) :
    Calls Try.prog 3 #[v] w fun e w' => e = .returned (.bool true) ∧ Below w.heap.size w w' := by
  have e0 : (u8s xs).length = xs.length := by simp [u8s]
  have HB := Lib.hid (LBig.isBig v (u8s xs) _ w hr)
  by_cases hlen : 1048576 < xs.length
  · have hd : decide (1048576 < (u8s xs).length) = true := by rw [e0]; simp; omega
    clear hr hx
    go_enter Try.func3, Try.ntmps3
    go_wp2_with fail
    refine HB.out.mono ?_
    rintro e w' ⟨rfl, hw⟩
    subst w'
    go_wp2_with fail
    go_ret
    exact ⟨rfl, Below.refl _ _⟩
  · have hd : decide (1048576 < (u8s xs).length) = false := by rw [e0]; simp; omega
    have HX := Lib.hid hx
    have R0_0 := Lib.hid hr
    have hR0_0 : w.heap.size ≤ w.heap.size := Nat.le_refl _
    have Bw0 := Lib.hid (Below.refl w.heap.size w)
    clear hr hx e0
    go_enter Try.func3, Try.ntmps3
    go_wp2_with fail
    refine HB.out.mono ?_
    rintro e w' ⟨rfl, hw⟩
    subst w'
    clear HB hd
    go_wp2_with fail
    refine (DrawReduceContext v xs w.heap.size (Past.start w).w (Past.reads R0_0.out hR0_0 (Past.start w)) (Past.len hR0_0 (Past.start w)) HX.out (by omega)).mono ?_
    rintro e w1 ⟨a1, u1, r1, rfl, -, o1, b1⟩
    obtain ⟨p1, q1, rfl⟩ := own_form o1
    have hA1 := (Below.refl w1.heap.size w1).alloc (Nat.le_refl _) (.cells #[.int .i64 a1, .slice p1 r1.length q1] 26)
    go_upto_region 4 with fail
    have hs1 : w1.heap.size < (w1.alloc (.cells #[.int .i64 a1, .slice p1 r1.length q1] 26)).heap.size := by simp
    have G1 := BoxAt.new w1 26 #[.int .i64 a1, .slice p1 r1.length q1]
    have bb1 := (Past.start w).h.trans ((b1.trans (hA1.mono b1.size)).mono (Past.start w).h.size)
    have sz1 := bb1.size
    have R1_0 := Lib.hid (R0_0.out.below bb1 hR0_0)
    have hR1_0 : w.heap.size ≤ (w1.alloc (.cells #[.int .i64 a1, .slice p1 r1.length q1] 26)).heap.size := Nat.le_trans hR0_0 sz1
    have Bw1 := Lib.hid (Bw0.out.trans (bb1.mono Bw0.out.size))
    have c1_0 : (w1.alloc (.cells #[.int .i64 a1, .slice p1 r1.length q1] 26)).cell? ⟨w1.heap.size, 0, none⟩ = some (.int .i64 a1) := G1.cell 0
    have hc1_0 : w1.heap.size < (w1.alloc (.cells #[.int .i64 a1, .slice p1 r1.length q1] 26)).heap.size := hs1
    have c1_1 : (w1.alloc (.cells #[.int .i64 a1, .slice p1 r1.length q1] 26)).cell? ⟨w1.heap.size, 1, none⟩ = some (.slice p1 r1.length q1) := G1.cell 1
    have hc1_1 : w1.heap.size < (w1.alloc (.cells #[.int .i64 a1, .slice p1 r1.length q1] 26)).heap.size := hs1
    have R1_1 := Lib.hid (o1.reads.below hA1 (Nat.le_refl _))
    have hR1_1 : w1.heap.size ≤ (w1.alloc (.cells #[.int .i64 a1, .slice p1 r1.length q1] 26)).heap.size := Nat.le_of_lt hs1
    generalize w1.alloc (.cells #[.int .i64 a1, .slice p1 r1.length q1] 26) = W1 at bb1 sz1 R1_0 hR1_0 Bw1 c1_0 hc1_0 c1_1 hc1_1 R1_1 hR1_1 ⊢
    clear bb1 sz1
    clear R0_0 hR0_0 Bw0 G1 o1 b1 hA1 hs1
    generalize w1.heap.size = g1 at *
    have k1_0 := fun p : Past W1 => Past.cell (W := W1) c1_0 hc1_0 p
    have k1_1 := fun p : Past W1 => Past.cell (W := W1) c1_1 hc1_1 p
    obtain ⟨a2, hn2⟩ : ∃ n, ((reduce a1 r1).getD (0, [])).1 = n := ⟨_, rfl⟩
    obtain ⟨r2, hr2⟩ : ∃ n, ((reduce a1 r1).getD (0, [])).2 = n := ⟨_, rfl⟩
    obtain ⟨k2, hk2⟩ : ∃ n, (reduce a1 r1).isSome = n := ⟨_, rfl⟩
    have EN2 := Lib.hid hn2
    have ER2 := Lib.hid hr2
    have EK2 := Lib.hid hk2
    clear hn2 hr2 hk2
    go_wp2_with fail
    refine (impl_reduce a1 _ r1 g1 (Past.start W1).w (Past.reads R1_1.out hR1_1 (Past.start W1)) (Past.len hR1_1 (Past.start W1))).mono ?_
    rintro e w2 hres
    obtain ⟨p2, q2, rfl, o2, b2⟩ := asCtx EN2.out ER2.out EK2.out hres
    clear hres
    have hA2 := (Below.refl w2.heap.size w2).alloc (Nat.le_refl _) (.cells #[.int .i64 a2, .slice p2 r2.length q2] 26)
    go_upto_region 5 with fail
    have hs2 : w2.heap.size < (w2.alloc (.cells #[.int .i64 a2, .slice p2 r2.length q2] 26)).heap.size := by simp
    have G2 := BoxAt.new w2 26 #[.int .i64 a2, .slice p2 r2.length q2]
    have bb2 := (Past.start W1).h.trans ((b2.trans (hA2.mono b2.size)).mono (Past.start W1).h.size)
    have sz2 := bb2.size
    have c2_0 : (w2.alloc (.cells #[.int .i64 a2, .slice p2 r2.length q2] 26)).cell? ⟨g1, 0, none⟩ = some (.int .i64 a1) := (bb2.cell (p := ⟨g1, 0, none⟩) hc1_0).trans c1_0
    have hc2_0 : g1 < (w2.alloc (.cells #[.int .i64 a2, .slice p2 r2.length q2] 26)).heap.size := Nat.lt_of_lt_of_le hc1_0 sz2
    have c2_1 : (w2.alloc (.cells #[.int .i64 a2, .slice p2 r2.length q2] 26)).cell? ⟨g1, 1, none⟩ = some (.slice p1 r1.length q1) := (bb2.cell (p := ⟨g1, 1, none⟩) hc1_1).trans c1_1
    have hc2_1 : g1 < (w2.alloc (.cells #[.int .i64 a2, .slice p2 r2.length q2] 26)).heap.size := Nat.lt_of_lt_of_le hc1_1 sz2
    have R2_0 := Lib.hid (R1_0.out.below bb2 hR1_0)
    have hR2_0 : w.heap.size ≤ (w2.alloc (.cells #[.int .i64 a2, .slice p2 r2.length q2] 26)).heap.size := Nat.le_trans hR1_0 sz2
    have R2_1 := Lib.hid (R1_1.out.below bb2 hR1_1)
    have hR2_1 : g1 ≤ (w2.alloc (.cells #[.int .i64 a2, .slice p2 r2.length q2] 26)).heap.size := Nat.le_trans hR1_1 sz2
    have Bw2 := Lib.hid (Bw1.out.trans (bb2.mono Bw1.out.size))
    have c2_2 : (w2.alloc (.cells #[.int .i64 a2, .slice p2 r2.length q2] 26)).cell? ⟨w2.heap.size, 0, none⟩ = some (.int .i64 a2) := G2.cell 0
    have hc2_2 : w2.heap.size < (w2.alloc (.cells #[.int .i64 a2, .slice p2 r2.length q2] 26)).heap.size := hs2
    have c2_3 : (w2.alloc (.cells #[.int .i64 a2, .slice p2 r2.length q2] 26)).cell? ⟨w2.heap.size, 1, none⟩ = some (.slice p2 r2.length q2) := G2.cell 1
    have hc2_3 : w2.heap.size < (w2.alloc (.cells #[.int .i64 a2, .slice p2 r2.length q2] 26)).heap.size := hs2
    have R2_2 := Lib.hid (o2.reads.below hA2 (Nat.le_refl _))
    have hR2_2 : w2.heap.size ≤ (w2.alloc (.cells #[.int .i64 a2, .slice p2 r2.length q2] 26)).heap.size := Nat.le_of_lt hs2
    generalize w2.alloc (.cells #[.int .i64 a2, .slice p2 r2.length q2] 26) = W2 at bb2 sz2 c2_0 hc2_0 c2_1 hc2_1 R2_0 hR2_0 R2_1 hR2_1 Bw2 c2_2 hc2_2 c2_3 hc2_3 R2_2 hR2_2 ⊢
    clear bb2 sz2
    clear c1_0 c1_1 hc1_0 hc1_1 R1_0 R1_1 hR1_0 hR1_1 k1_0 k1_1 Bw1 G2 o2 b2 hA2 hs2
    generalize w2.heap.size = g2 at *
    have k2_0 := fun p : Past W2 => Past.cell (W := W2) c2_0 hc2_0 p
    have k2_1 := fun p : Past W2 => Past.cell (W := W2) c2_1 hc2_1 p
    have k2_2 := fun p : Past W2 => Past.cell (W := W2) c2_2 hc2_2 p
    have k2_3 := fun p : Past W2 => Past.cell (W := W2) c2_3 hc2_3 p
    go_wp2_with fail
    refine (spec_reduce a1 _ r1 g1 (Past.start W2).w (Past.reads R2_1.out hR2_1 (Past.start W2)) (Past.len hR2_1 (Past.start W2))).mono ?_
    rintro e w3 hres
    obtain ⟨p3, q3, rfl, o3, b3⟩ := asCtx EN2.out ER2.out EK2.out hres
    clear hres
    have hA3 := (Below.refl w3.heap.size w3).alloc (Nat.le_refl _) (.cells #[.int .i64 a2, .slice p3 r2.length q3] 26)
    go_upto_region 6 with fail
    have hs3 : w3.heap.size < (w3.alloc (.cells #[.int .i64 a2, .slice p3 r2.length q3] 26)).heap.size := by simp
    have G3 := BoxAt.new w3 26 #[.int .i64 a2, .slice p3 r2.length q3]
    have bb3 := (Past.start W2).h.trans ((b3.trans (hA3.mono b3.size)).mono (Past.start W2).h.size)
    have sz3 := bb3.size
    have c3_0 : (w3.alloc (.cells #[.int .i64 a2, .slice p3 r2.length q3] 26)).cell? ⟨g1, 0, none⟩ = some (.int .i64 a1) := (bb3.cell (p := ⟨g1, 0, none⟩) hc2_0).trans c2_0
    have hc3_0 : g1 < (w3.alloc (.cells #[.int .i64 a2, .slice p3 r2.length q3] 26)).heap.size := Nat.lt_of_lt_of_le hc2_0 sz3
    have c3_1 : (w3.alloc (.cells #[.int .i64 a2, .slice p3 r2.length q3] 26)).cell? ⟨g1, 1, none⟩ = some (.slice p1 r1.length q1) := (bb3.cell (p := ⟨g1, 1, none⟩) hc2_1).trans c2_1
    have hc3_1 : g1 < (w3.alloc (.cells #[.int .i64 a2, .slice p3 r2.length q3] 26)).heap.size := Nat.lt_of_lt_of_le hc2_1 sz3
    have c3_2 : (w3.alloc (.cells #[.int .i64 a2, .slice p3 r2.length q3] 26)).cell? ⟨g2, 0, none⟩ = some (.int .i64 a2) := (bb3.cell (p := ⟨g2, 0, none⟩) hc2_2).trans c2_2
    have hc3_2 : g2 < (w3.alloc (.cells #[.int .i64 a2, .slice p3 r2.length q3] 26)).heap.size := Nat.lt_of_lt_of_le hc2_2 sz3
    have c3_3 : (w3.alloc (.cells #[.int .i64 a2, .slice p3 r2.length q3] 26)).cell? ⟨g2, 1, none⟩ = some (.slice p2 r2.length q2) := (bb3.cell (p := ⟨g2, 1, none⟩) hc2_3).trans c2_3
    have hc3_3 : g2 < (w3.alloc (.cells #[.int .i64 a2, .slice p3 r2.length q3] 26)).heap.size := Nat.lt_of_lt_of_le hc2_3 sz3
    have R3_0 := Lib.hid (R2_0.out.below bb3 hR2_0)
    have hR3_0 : w.heap.size ≤ (w3.alloc (.cells #[.int .i64 a2, .slice p3 r2.length q3] 26)).heap.size := Nat.le_trans hR2_0 sz3
    have R3_1 := Lib.hid (R2_1.out.below bb3 hR2_1)
    have hR3_1 : g1 ≤ (w3.alloc (.cells #[.int .i64 a2, .slice p3 r2.length q3] 26)).heap.size := Nat.le_trans hR2_1 sz3
    have R3_2 := Lib.hid (R2_2.out.below bb3 hR2_2)
    have hR3_2 : g2 ≤ (w3.alloc (.cells #[.int .i64 a2, .slice p3 r2.length q3] 26)).heap.size := Nat.le_trans hR2_2 sz3
    have Bw3 := Lib.hid (Bw2.out.trans (bb3.mono Bw2.out.size))
    have c3_4 : (w3.alloc (.cells #[.int .i64 a2, .slice p3 r2.length q3] 26)).cell? ⟨w3.heap.size, 0, none⟩ = some (.int .i64 a2) := G3.cell 0
    have hc3_4 : w3.heap.size < (w3.alloc (.cells #[.int .i64 a2, .slice p3 r2.length q3] 26)).heap.size := hs3
    have c3_5 : (w3.alloc (.cells #[.int .i64 a2, .slice p3 r2.length q3] 26)).cell? ⟨w3.heap.size, 1, none⟩ = some (.slice p3 r2.length q3) := G3.cell 1
    have hc3_5 : w3.heap.size < (w3.alloc (.cells #[.int .i64 a2, .slice p3 r2.length q3] 26)).heap.size := hs3
    have R3_3 := Lib.hid (o3.reads.below hA3 (Nat.le_refl _))
    have hR3_3 : w3.heap.size ≤ (w3.alloc (.cells #[.int .i64 a2, .slice p3 r2.length q3] 26)).heap.size := Nat.le_of_lt hs3
    generalize w3.alloc (.cells #[.int .i64 a2, .slice p3 r2.length q3] 26) = W3 at bb3 sz3 c3_0 hc3_0 c3_1 hc3_1 c3_2 hc3_2 c3_3 hc3_3 R3_0 hR3_0 R3_1 hR3_1 R3_2 hR3_2 Bw3 c3_4 hc3_4 c3_5 hc3_5 R3_3 hR3_3 ⊢
    clear bb3 sz3
    clear c2_0 c2_1 c2_2 c2_3 hc2_0 hc2_1 hc2_2 hc2_3 R2_0 R2_1 R2_2 hR2_0 hR2_1 hR2_2 k2_0 k2_1 k2_2 k2_3 Bw2 G3 o3 b3 hA3 hs3
    generalize w3.heap.size = g3 at *
    have k3_0 := fun p : Past W3 => Past.cell (W := W3) c3_0 hc3_0 p
    have k3_1 := fun p : Past W3 => Past.cell (W := W3) c3_1 hc3_1 p
    have k3_2 := fun p : Past W3 => Past.cell (W := W3) c3_2 hc3_2 p
    have k3_3 := fun p : Past W3 => Past.cell (W := W3) c3_3 hc3_3 p
    have k3_4 := fun p : Past W3 => Past.cell (W := W3) c3_4 hc3_4 p
    have k3_5 := fun p : Past W3 => Past.cell (W := W3) c3_5 hc3_5 p
    go_wp2_with fail
    refine (DrawClarify v xs w.heap.size (Past.start W3).w (Past.reads R3_0.out hR3_0 (Past.start W3)) (Past.len hR3_0 (Past.start W3)) HX.out (by omega)).mono ?_
    rintro e w4 ⟨a4, u4, r4, rfl, -, o4, b4⟩
    obtain ⟨p4, q4, rfl⟩ := own_form o4
    have hA4 := (Below.refl w4.heap.size w4).alloc (Nat.le_refl _) (.cells #[.int .i64 a4, .slice p4 r4.length q4] 26)
    go_upto_region 7 with fail
    have hs4 : w4.heap.size < (w4.alloc (.cells #[.int .i64 a4, .slice p4 r4.length q4] 26)).heap.size := by simp
    have G4 := BoxAt.new w4 26 #[.int .i64 a4, .slice p4 r4.length q4]
    have bb4 := (Past.start W3).h.trans ((b4.trans (hA4.mono b4.size)).mono (Past.start W3).h.size)
    have sz4 := bb4.size
    have c4_0 : (w4.alloc (.cells #[.int .i64 a4, .slice p4 r4.length q4] 26)).cell? ⟨g1, 0, none⟩ = some (.int .i64 a1) := (bb4.cell (p := ⟨g1, 0, none⟩) hc3_0).trans c3_0
    have hc4_0 : g1 < (w4.alloc (.cells #[.int .i64 a4, .slice p4 r4.length q4] 26)).heap.size := Nat.lt_of_lt_of_le hc3_0 sz4
    have c4_1 : (w4.alloc (.cells #[.int .i64 a4, .slice p4 r4.length q4] 26)).cell? ⟨g1, 1, none⟩ = some (.slice p1 r1.length q1) := (bb4.cell (p := ⟨g1, 1, none⟩) hc3_1).trans c3_1
    have hc4_1 : g1 < (w4.alloc (.cells #[.int .i64 a4, .slice p4 r4.length q4] 26)).heap.size := Nat.lt_of_lt_of_le hc3_1 sz4
    have c4_2 : (w4.alloc (.cells #[.int .i64 a4, .slice p4 r4.length q4] 26)).cell? ⟨g2, 0, none⟩ = some (.int .i64 a2) := (bb4.cell (p := ⟨g2, 0, none⟩) hc3_2).trans c3_2
    have hc4_2 : g2 < (w4.alloc (.cells #[.int .i64 a4, .slice p4 r4.length q4] 26)).heap.size := Nat.lt_of_lt_of_le hc3_2 sz4
    have c4_3 : (w4.alloc (.cells #[.int .i64 a4, .slice p4 r4.length q4] 26)).cell? ⟨g2, 1, none⟩ = some (.slice p2 r2.length q2) := (bb4.cell (p := ⟨g2, 1, none⟩) hc3_3).trans c3_3
    have hc4_3 : g2 < (w4.alloc (.cells #[.int .i64 a4, .slice p4 r4.length q4] 26)).heap.size := Nat.lt_of_lt_of_le hc3_3 sz4
    have c4_4 : (w4.alloc (.cells #[.int .i64 a4, .slice p4 r4.length q4] 26)).cell? ⟨g3, 0, none⟩ = some (.int .i64 a2) := (bb4.cell (p := ⟨g3, 0, none⟩) hc3_4).trans c3_4
    have hc4_4 : g3 < (w4.alloc (.cells #[.int .i64 a4, .slice p4 r4.length q4] 26)).heap.size := Nat.lt_of_lt_of_le hc3_4 sz4
    have c4_5 : (w4.alloc (.cells #[.int .i64 a4, .slice p4 r4.length q4] 26)).cell? ⟨g3, 1, none⟩ = some (.slice p3 r2.length q3) := (bb4.cell (p := ⟨g3, 1, none⟩) hc3_5).trans c3_5
    have hc4_5 : g3 < (w4.alloc (.cells #[.int .i64 a4, .slice p4 r4.length q4] 26)).heap.size := Nat.lt_of_lt_of_le hc3_5 sz4
    have R4_0 := Lib.hid (R3_0.out.below bb4 hR3_0)
    have hR4_0 : w.heap.size ≤ (w4.alloc (.cells #[.int .i64 a4, .slice p4 r4.length q4] 26)).heap.size := Nat.le_trans hR3_0 sz4
    have R4_1 := Lib.hid (R3_1.out.below bb4 hR3_1)
    have hR4_1 : g1 ≤ (w4.alloc (.cells #[.int .i64 a4, .slice p4 r4.length q4] 26)).heap.size := Nat.le_trans hR3_1 sz4
    have R4_2 := Lib.hid (R3_2.out.below bb4 hR3_2)
    have hR4_2 : g2 ≤ (w4.alloc (.cells #[.int .i64 a4, .slice p4 r4.length q4] 26)).heap.size := Nat.le_trans hR3_2 sz4
    have R4_3 := Lib.hid (R3_3.out.below bb4 hR3_3)
    have hR4_3 : g3 ≤ (w4.alloc (.cells #[.int .i64 a4, .slice p4 r4.length q4] 26)).heap.size := Nat.le_trans hR3_3 sz4
    have Bw4 := Lib.hid (Bw3.out.trans (bb4.mono Bw3.out.size))
    have c4_6 : (w4.alloc (.cells #[.int .i64 a4, .slice p4 r4.length q4] 26)).cell? ⟨w4.heap.size, 0, none⟩ = some (.int .i64 a4) := G4.cell 0
    have hc4_6 : w4.heap.size < (w4.alloc (.cells #[.int .i64 a4, .slice p4 r4.length q4] 26)).heap.size := hs4
    have c4_7 : (w4.alloc (.cells #[.int .i64 a4, .slice p4 r4.length q4] 26)).cell? ⟨w4.heap.size, 1, none⟩ = some (.slice p4 r4.length q4) := G4.cell 1
    have hc4_7 : w4.heap.size < (w4.alloc (.cells #[.int .i64 a4, .slice p4 r4.length q4] 26)).heap.size := hs4
    have R4_4 := Lib.hid (o4.reads.below hA4 (Nat.le_refl _))
    have hR4_4 : w4.heap.size ≤ (w4.alloc (.cells #[.int .i64 a4, .slice p4 r4.length q4] 26)).heap.size := Nat.le_of_lt hs4
    generalize w4.alloc (.cells #[.int .i64 a4, .slice p4 r4.length q4] 26) = W4 at bb4 sz4 c4_0 hc4_0 c4_1 hc4_1 c4_2 hc4_2 c4_3 hc4_3 c4_4 hc4_4 c4_5 hc4_5 R4_0 hR4_0 R4_1 hR4_1 R4_2 hR4_2 R4_3 hR4_3 Bw4 c4_6 hc4_6 c4_7 hc4_7 R4_4 hR4_4 ⊢
    clear bb4 sz4
    clear c3_0 c3_1 c3_2 c3_3 c3_4 c3_5 hc3_0 hc3_1 hc3_2 hc3_3 hc3_4 hc3_5 R3_0 R3_1 R3_2 R3_3 hR3_0 hR3_1 hR3_2 hR3_3 k3_0 k3_1 k3_2 k3_3 k3_4 k3_5 Bw3 G4 o4 b4 hA4 hs4
    generalize w4.heap.size = g4 at *
    have k4_0 := fun p : Past W4 => Past.cell (W := W4) c4_0 hc4_0 p
    have k4_1 := fun p : Past W4 => Past.cell (W := W4) c4_1 hc4_1 p
    have k4_2 := fun p : Past W4 => Past.cell (W := W4) c4_2 hc4_2 p
    have k4_3 := fun p : Past W4 => Past.cell (W := W4) c4_3 hc4_3 p
    have k4_4 := fun p : Past W4 => Past.cell (W := W4) c4_4 hc4_4 p
    have k4_5 := fun p : Past W4 => Past.cell (W := W4) c4_5 hc4_5 p
    have k4_6 := fun p : Past W4 => Past.cell (W := W4) c4_6 hc4_6 p
    have k4_7 := fun p : Past W4 => Past.cell (W := W4) c4_7 hc4_7 p
    obtain ⟨a5, hn5⟩ : ∃ n, ((clarify a4 r4).getD (0, [])).1 = n := ⟨_, rfl⟩
    obtain ⟨r5, hr5⟩ : ∃ n, ((clarify a4 r4).getD (0, [])).2 = n := ⟨_, rfl⟩
    obtain ⟨k5, hk5⟩ : ∃ n, (clarify a4 r4).isSome = n := ⟨_, rfl⟩
    have EN5 := Lib.hid hn5
    have ER5 := Lib.hid hr5
    have EK5 := Lib.hid hk5
    clear hn5 hr5 hk5
    go_wp2_with fail
    refine (impl_clarify a4 _ r4 g4 (Past.start W4).w (Past.reads R4_4.out hR4_4 (Past.start W4)) (Past.len hR4_4 (Past.start W4))).mono ?_
    rintro e w5 hres
    obtain ⟨p5, q5, rfl, o5, b5⟩ := asCtx EN5.out ER5.out EK5.out hres
    clear hres
    have hA5 := (Below.refl w5.heap.size w5).alloc (Nat.le_refl _) (.cells #[.int .i64 a5, .slice p5 r5.length q5] 26)
    go_upto_region 8 with fail
    have hs5 : w5.heap.size < (w5.alloc (.cells #[.int .i64 a5, .slice p5 r5.length q5] 26)).heap.size := by simp
    have G5 := BoxAt.new w5 26 #[.int .i64 a5, .slice p5 r5.length q5]
    have bb5 := (Past.start W4).h.trans ((b5.trans (hA5.mono b5.size)).mono (Past.start W4).h.size)
    have sz5 := bb5.size
    have c5_0 : (w5.alloc (.cells #[.int .i64 a5, .slice p5 r5.length q5] 26)).cell? ⟨g1, 0, none⟩ = some (.int .i64 a1) := (bb5.cell (p := ⟨g1, 0, none⟩) hc4_0).trans c4_0
    have hc5_0 : g1 < (w5.alloc (.cells #[.int .i64 a5, .slice p5 r5.length q5] 26)).heap.size := Nat.lt_of_lt_of_le hc4_0 sz5
    have c5_1 : (w5.alloc (.cells #[.int .i64 a5, .slice p5 r5.length q5] 26)).cell? ⟨g1, 1, none⟩ = some (.slice p1 r1.length q1) := (bb5.cell (p := ⟨g1, 1, none⟩) hc4_1).trans c4_1
    have hc5_1 : g1 < (w5.alloc (.cells #[.int .i64 a5, .slice p5 r5.length q5] 26)).heap.size := Nat.lt_of_lt_of_le hc4_1 sz5
    have c5_2 : (w5.alloc (.cells #[.int .i64 a5, .slice p5 r5.length q5] 26)).cell? ⟨g2, 0, none⟩ = some (.int .i64 a2) := (bb5.cell (p := ⟨g2, 0, none⟩) hc4_2).trans c4_2
    have hc5_2 : g2 < (w5.alloc (.cells #[.int .i64 a5, .slice p5 r5.length q5] 26)).heap.size := Nat.lt_of_lt_of_le hc4_2 sz5
    have c5_3 : (w5.alloc (.cells #[.int .i64 a5, .slice p5 r5.length q5] 26)).cell? ⟨g2, 1, none⟩ = some (.slice p2 r2.length q2) := (bb5.cell (p := ⟨g2, 1, none⟩) hc4_3).trans c4_3
    have hc5_3 : g2 < (w5.alloc (.cells #[.int .i64 a5, .slice p5 r5.length q5] 26)).heap.size := Nat.lt_of_lt_of_le hc4_3 sz5
    have c5_4 : (w5.alloc (.cells #[.int .i64 a5, .slice p5 r5.length q5] 26)).cell? ⟨g3, 0, none⟩ = some (.int .i64 a2) := (bb5.cell (p := ⟨g3, 0, none⟩) hc4_4).trans c4_4
    have hc5_4 : g3 < (w5.alloc (.cells #[.int .i64 a5, .slice p5 r5.length q5] 26)).heap.size := Nat.lt_of_lt_of_le hc4_4 sz5
    have c5_5 : (w5.alloc (.cells #[.int .i64 a5, .slice p5 r5.length q5] 26)).cell? ⟨g3, 1, none⟩ = some (.slice p3 r2.length q3) := (bb5.cell (p := ⟨g3, 1, none⟩) hc4_5).trans c4_5
    have hc5_5 : g3 < (w5.alloc (.cells #[.int .i64 a5, .slice p5 r5.length q5] 26)).heap.size := Nat.lt_of_lt_of_le hc4_5 sz5
    have c5_6 : (w5.alloc (.cells #[.int .i64 a5, .slice p5 r5.length q5] 26)).cell? ⟨g4, 0, none⟩ = some (.int .i64 a4) := (bb5.cell (p := ⟨g4, 0, none⟩) hc4_6).trans c4_6
    have hc5_6 : g4 < (w5.alloc (.cells #[.int .i64 a5, .slice p5 r5.length q5] 26)).heap.size := Nat.lt_of_lt_of_le hc4_6 sz5
    have c5_7 : (w5.alloc (.cells #[.int .i64 a5, .slice p5 r5.length q5] 26)).cell? ⟨g4, 1, none⟩ = some (.slice p4 r4.length q4) := (bb5.cell (p := ⟨g4, 1, none⟩) hc4_7).trans c4_7
    have hc5_7 : g4 < (w5.alloc (.cells #[.int .i64 a5, .slice p5 r5.length q5] 26)).heap.size := Nat.lt_of_lt_of_le hc4_7 sz5
    have R5_0 := Lib.hid (R4_0.out.below bb5 hR4_0)
    have hR5_0 : w.heap.size ≤ (w5.alloc (.cells #[.int .i64 a5, .slice p5 r5.length q5] 26)).heap.size := Nat.le_trans hR4_0 sz5
    have R5_1 := Lib.hid (R4_1.out.below bb5 hR4_1)
    have hR5_1 : g1 ≤ (w5.alloc (.cells #[.int .i64 a5, .slice p5 r5.length q5] 26)).heap.size := Nat.le_trans hR4_1 sz5
    have R5_2 := Lib.hid (R4_2.out.below bb5 hR4_2)
    have hR5_2 : g2 ≤ (w5.alloc (.cells #[.int .i64 a5, .slice p5 r5.length q5] 26)).heap.size := Nat.le_trans hR4_2 sz5
    have R5_3 := Lib.hid (R4_3.out.below bb5 hR4_3)
    have hR5_3 : g3 ≤ (w5.alloc (.cells #[.int .i64 a5, .slice p5 r5.length q5] 26)).heap.size := Nat.le_trans hR4_3 sz5
    have R5_4 := Lib.hid (R4_4.out.below bb5 hR4_4)
    have hR5_4 : g4 ≤ (w5.alloc (.cells #[.int .i64 a5, .slice p5 r5.length q5] 26)).heap.size := Nat.le_trans hR4_4 sz5
    have Bw5 := Lib.hid (Bw4.out.trans (bb5.mono Bw4.out.size))
    have c5_8 : (w5.alloc (.cells #[.int .i64 a5, .slice p5 r5.length q5] 26)).cell? ⟨w5.heap.size, 0, none⟩ = some (.int .i64 a5) := G5.cell 0
    have hc5_8 : w5.heap.size < (w5.alloc (.cells #[.int .i64 a5, .slice p5 r5.length q5] 26)).heap.size := hs5
    have c5_9 : (w5.alloc (.cells #[.int .i64 a5, .slice p5 r5.length q5] 26)).cell? ⟨w5.heap.size, 1, none⟩ = some (.slice p5 r5.length q5) := G5.cell 1
    have hc5_9 : w5.heap.size < (w5.alloc (.cells #[.int .i64 a5, .slice p5 r5.length q5] 26)).heap.size := hs5
    have R5_5 := Lib.hid (o5.reads.below hA5 (Nat.le_refl _))
    have hR5_5 : w5.heap.size ≤ (w5.alloc (.cells #[.int .i64 a5, .slice p5 r5.length q5] 26)).heap.size := Nat.le_of_lt hs5
    generalize w5.alloc (.cells #[.int .i64 a5, .slice p5 r5.length q5] 26) = W5 at bb5 sz5 c5_0 hc5_0 c5_1 hc5_1 c5_2 hc5_2 c5_3 hc5_3 c5_4 hc5_4 c5_5 hc5_5 c5_6 hc5_6 c5_7 hc5_7 R5_0 hR5_0 R5_1 hR5_1 R5_2 hR5_2 R5_3 hR5_3 R5_4 hR5_4 Bw5 c5_8 hc5_8 c5_9 hc5_9 R5_5 hR5_5 ⊢
    clear bb5 sz5
    clear c4_0 c4_1 c4_2 c4_3 c4_4 c4_5 c4_6 c4_7 hc4_0 hc4_1 hc4_2 hc4_3 hc4_4 hc4_5 hc4_6 hc4_7 R4_0 R4_1 R4_2 R4_3 R4_4 hR4_0 hR4_1 hR4_2 hR4_3 hR4_4 k4_0 k4_1 k4_2 k4_3 k4_4 k4_5 k4_6 k4_7 Bw4 G5 o5 b5 hA5 hs5
    generalize w5.heap.size = g5 at *
    have k5_0 := fun p : Past W5 => Past.cell (W := W5) c5_0 hc5_0 p
    have k5_1 := fun p : Past W5 => Past.cell (W := W5) c5_1 hc5_1 p
    have k5_2 := fun p : Past W5 => Past.cell (W := W5) c5_2 hc5_2 p
    have k5_3 := fun p : Past W5 => Past.cell (W := W5) c5_3 hc5_3 p
    have k5_4 := fun p : Past W5 => Past.cell (W := W5) c5_4 hc5_4 p
    have k5_5 := fun p : Past W5 => Past.cell (W := W5) c5_5 hc5_5 p
    have k5_6 := fun p : Past W5 => Past.cell (W := W5) c5_6 hc5_6 p
    have k5_7 := fun p : Past W5 => Past.cell (W := W5) c5_7 hc5_7 p
    have k5_8 := fun p : Past W5 => Past.cell (W := W5) c5_8 hc5_8 p
    have k5_9 := fun p : Past W5 => Past.cell (W := W5) c5_9 hc5_9 p
    go_wp2_with fail
    refine (spec_clarify a4 _ r4 g4 (Past.start W5).w (Past.reads R5_4.out hR5_4 (Past.start W5)) (Past.len hR5_4 (Past.start W5))).mono ?_
    rintro e w6 hres
    obtain ⟨p6, q6, rfl, o6, b6⟩ := asCtx EN5.out ER5.out EK5.out hres
    clear hres
    have hA6 := (Below.refl w6.heap.size w6).alloc (Nat.le_refl _) (.cells #[.int .i64 a5, .slice p6 r5.length q6] 26)
    go_upto_region 9 with fail
    have hs6 : w6.heap.size < (w6.alloc (.cells #[.int .i64 a5, .slice p6 r5.length q6] 26)).heap.size := by simp
    have G6 := BoxAt.new w6 26 #[.int .i64 a5, .slice p6 r5.length q6]
    have bb6 := (Past.start W5).h.trans ((b6.trans (hA6.mono b6.size)).mono (Past.start W5).h.size)
    have sz6 := bb6.size
    have c6_0 : (w6.alloc (.cells #[.int .i64 a5, .slice p6 r5.length q6] 26)).cell? ⟨g1, 0, none⟩ = some (.int .i64 a1) := (bb6.cell (p := ⟨g1, 0, none⟩) hc5_0).trans c5_0
    have hc6_0 : g1 < (w6.alloc (.cells #[.int .i64 a5, .slice p6 r5.length q6] 26)).heap.size := Nat.lt_of_lt_of_le hc5_0 sz6
    have c6_1 : (w6.alloc (.cells #[.int .i64 a5, .slice p6 r5.length q6] 26)).cell? ⟨g1, 1, none⟩ = some (.slice p1 r1.length q1) := (bb6.cell (p := ⟨g1, 1, none⟩) hc5_1).trans c5_1
    have hc6_1 : g1 < (w6.alloc (.cells #[.int .i64 a5, .slice p6 r5.length q6] 26)).heap.size := Nat.lt_of_lt_of_le hc5_1 sz6
    have c6_2 : (w6.alloc (.cells #[.int .i64 a5, .slice p6 r5.length q6] 26)).cell? ⟨g2, 0, none⟩ = some (.int .i64 a2) := (bb6.cell (p := ⟨g2, 0, none⟩) hc5_2).trans c5_2
    have hc6_2 : g2 < (w6.alloc (.cells #[.int .i64 a5, .slice p6 r5.length q6] 26)).heap.size := Nat.lt_of_lt_of_le hc5_2 sz6
    have c6_3 : (w6.alloc (.cells #[.int .i64 a5, .slice p6 r5.length q6] 26)).cell? ⟨g2, 1, none⟩ = some (.slice p2 r2.length q2) := (bb6.cell (p := ⟨g2, 1, none⟩) hc5_3).trans c5_3
    have hc6_3 : g2 < (w6.alloc (.cells #[.int .i64 a5, .slice p6 r5.length q6] 26)).heap.size := Nat.lt_of_lt_of_le hc5_3 sz6
    have c6_4 : (w6.alloc (.cells #[.int .i64 a5, .slice p6 r5.length q6] 26)).cell? ⟨g3, 0, none⟩ = some (.int .i64 a2) := (bb6.cell (p := ⟨g3, 0, none⟩) hc5_4).trans c5_4
    have hc6_4 : g3 < (w6.alloc (.cells #[.int .i64 a5, .slice p6 r5.length q6] 26)).heap.size := Nat.lt_of_lt_of_le hc5_4 sz6
    have c6_5 : (w6.alloc (.cells #[.int .i64 a5, .slice p6 r5.length q6] 26)).cell? ⟨g3, 1, none⟩ = some (.slice p3 r2.length q3) := (bb6.cell (p := ⟨g3, 1, none⟩) hc5_5).trans c5_5
    have hc6_5 : g3 < (w6.alloc (.cells #[.int .i64 a5, .slice p6 r5.length q6] 26)).heap.size := Nat.lt_of_lt_of_le hc5_5 sz6
    have c6_6 : (w6.alloc (.cells #[.int .i64 a5, .slice p6 r5.length q6] 26)).cell? ⟨g4, 0, none⟩ = some (.int .i64 a4) := (bb6.cell (p := ⟨g4, 0, none⟩) hc5_6).trans c5_6
    have hc6_6 : g4 < (w6.alloc (.cells #[.int .i64 a5, .slice p6 r5.length q6] 26)).heap.size := Nat.lt_of_lt_of_le hc5_6 sz6
    have c6_7 : (w6.alloc (.cells #[.int .i64 a5, .slice p6 r5.length q6] 26)).cell? ⟨g4, 1, none⟩ = some (.slice p4 r4.length q4) := (bb6.cell (p := ⟨g4, 1, none⟩) hc5_7).trans c5_7
    have hc6_7 : g4 < (w6.alloc (.cells #[.int .i64 a5, .slice p6 r5.length q6] 26)).heap.size := Nat.lt_of_lt_of_le hc5_7 sz6
    have c6_8 : (w6.alloc (.cells #[.int .i64 a5, .slice p6 r5.length q6] 26)).cell? ⟨g5, 0, none⟩ = some (.int .i64 a5) := (bb6.cell (p := ⟨g5, 0, none⟩) hc5_8).trans c5_8
    have hc6_8 : g5 < (w6.alloc (.cells #[.int .i64 a5, .slice p6 r5.length q6] 26)).heap.size := Nat.lt_of_lt_of_le hc5_8 sz6
    have c6_9 : (w6.alloc (.cells #[.int .i64 a5, .slice p6 r5.length q6] 26)).cell? ⟨g5, 1, none⟩ = some (.slice p5 r5.length q5) := (bb6.cell (p := ⟨g5, 1, none⟩) hc5_9).trans c5_9
    have hc6_9 : g5 < (w6.alloc (.cells #[.int .i64 a5, .slice p6 r5.length q6] 26)).heap.size := Nat.lt_of_lt_of_le hc5_9 sz6
    have R6_0 := Lib.hid (R5_0.out.below bb6 hR5_0)
    have hR6_0 : w.heap.size ≤ (w6.alloc (.cells #[.int .i64 a5, .slice p6 r5.length q6] 26)).heap.size := Nat.le_trans hR5_0 sz6
    have R6_1 := Lib.hid (R5_1.out.below bb6 hR5_1)
    have hR6_1 : g1 ≤ (w6.alloc (.cells #[.int .i64 a5, .slice p6 r5.length q6] 26)).heap.size := Nat.le_trans hR5_1 sz6
    have R6_2 := Lib.hid (R5_2.out.below bb6 hR5_2)
    have hR6_2 : g2 ≤ (w6.alloc (.cells #[.int .i64 a5, .slice p6 r5.length q6] 26)).heap.size := Nat.le_trans hR5_2 sz6
    have R6_3 := Lib.hid (R5_3.out.below bb6 hR5_3)
    have hR6_3 : g3 ≤ (w6.alloc (.cells #[.int .i64 a5, .slice p6 r5.length q6] 26)).heap.size := Nat.le_trans hR5_3 sz6
    have R6_4 := Lib.hid (R5_4.out.below bb6 hR5_4)
    have hR6_4 : g4 ≤ (w6.alloc (.cells #[.int .i64 a5, .slice p6 r5.length q6] 26)).heap.size := Nat.le_trans hR5_4 sz6
    have R6_5 := Lib.hid (R5_5.out.below bb6 hR5_5)
    have hR6_5 : g5 ≤ (w6.alloc (.cells #[.int .i64 a5, .slice p6 r5.length q6] 26)).heap.size := Nat.le_trans hR5_5 sz6
    have Bw6 := Lib.hid (Bw5.out.trans (bb6.mono Bw5.out.size))
    have c6_10 : (w6.alloc (.cells #[.int .i64 a5, .slice p6 r5.length q6] 26)).cell? ⟨w6.heap.size, 0, none⟩ = some (.int .i64 a5) := G6.cell 0
    have hc6_10 : w6.heap.size < (w6.alloc (.cells #[.int .i64 a5, .slice p6 r5.length q6] 26)).heap.size := hs6
    have c6_11 : (w6.alloc (.cells #[.int .i64 a5, .slice p6 r5.length q6] 26)).cell? ⟨w6.heap.size, 1, none⟩ = some (.slice p6 r5.length q6) := G6.cell 1
    have hc6_11 : w6.heap.size < (w6.alloc (.cells #[.int .i64 a5, .slice p6 r5.length q6] 26)).heap.size := hs6
    have R6_6 := Lib.hid (o6.reads.below hA6 (Nat.le_refl _))
    have hR6_6 : w6.heap.size ≤ (w6.alloc (.cells #[.int .i64 a5, .slice p6 r5.length q6] 26)).heap.size := Nat.le_of_lt hs6
    generalize w6.alloc (.cells #[.int .i64 a5, .slice p6 r5.length q6] 26) = W6 at bb6 sz6 c6_0 hc6_0 c6_1 hc6_1 c6_2 hc6_2 c6_3 hc6_3 c6_4 hc6_4 c6_5 hc6_5 c6_6 hc6_6 c6_7 hc6_7 c6_8 hc6_8 c6_9 hc6_9 R6_0 hR6_0 R6_1 hR6_1 R6_2 hR6_2 R6_3 hR6_3 R6_4 hR6_4 R6_5 hR6_5 Bw6 c6_10 hc6_10 c6_11 hc6_11 R6_6 hR6_6 ⊢
    clear bb6 sz6
    clear c5_0 c5_1 c5_2 c5_3 c5_4 c5_5 c5_6 c5_7 c5_8 c5_9 hc5_0 hc5_1 hc5_2 hc5_3 hc5_4 hc5_5 hc5_6 hc5_7 hc5_8 hc5_9 R5_0 R5_1 R5_2 R5_3 R5_4 R5_5 hR5_0 hR5_1 hR5_2 hR5_3 hR5_4 hR5_5 k5_0 k5_1 k5_2 k5_3 k5_4 k5_5 k5_6 k5_7 k5_8 k5_9 Bw5 G6 o6 b6 hA6 hs6
    generalize w6.heap.size = g6 at *
    have k6_0 := fun p : Past W6 => Past.cell (W := W6) c6_0 hc6_0 p
    have k6_1 := fun p : Past W6 => Past.cell (W := W6) c6_1 hc6_1 p
    have k6_2 := fun p : Past W6 => Past.cell (W := W6) c6_2 hc6_2 p
    have k6_3 := fun p : Past W6 => Past.cell (W := W6) c6_3 hc6_3 p
    have k6_4 := fun p : Past W6 => Past.cell (W := W6) c6_4 hc6_4 p
    have k6_5 := fun p : Past W6 => Past.cell (W := W6) c6_5 hc6_5 p
    have k6_6 := fun p : Past W6 => Past.cell (W := W6) c6_6 hc6_6 p
    have k6_7 := fun p : Past W6 => Past.cell (W := W6) c6_7 hc6_7 p
    have k6_8 := fun p : Past W6 => Past.cell (W := W6) c6_8 hc6_8 p
    have k6_9 := fun p : Past W6 => Past.cell (W := W6) c6_9 hc6_9 p
    have k6_10 := fun p : Past W6 => Past.cell (W := W6) c6_10 hc6_10 p
    have k6_11 := fun p : Past W6 => Past.cell (W := W6) c6_11 hc6_11 p
    go_wp2_with fail
    refine (DrawDropObjects v xs w.heap.size (Past.start W6).w (Past.reads R6_0.out hR6_0 (Past.start W6)) (Past.len hR6_0 (Past.start W6)) HX.out (by omega)).mono ?_
    rintro e w7 ⟨a7, x7, u7, r7, rfl, -, -, -, o7, b7⟩
    obtain ⟨p7, q7, rfl⟩ := own_form o7
    have hA7 := (Below.refl w7.heap.size w7).alloc (Nat.le_refl _) (.cells #[.int .i64 a7, .slice p7 r7.length q7] 26)
    go_upto_region 10 with fail
    have hs7 : w7.heap.size < (w7.alloc (.cells #[.int .i64 a7, .slice p7 r7.length q7] 26)).heap.size := by simp
    have G7 := BoxAt.new w7 26 #[.int .i64 a7, .slice p7 r7.length q7]
    have bb7 := (Past.start W6).h.trans ((b7.trans (hA7.mono b7.size)).mono (Past.start W6).h.size)
    have sz7 := bb7.size
    have c7_0 : (w7.alloc (.cells #[.int .i64 a7, .slice p7 r7.length q7] 26)).cell? ⟨g1, 0, none⟩ = some (.int .i64 a1) := (bb7.cell (p := ⟨g1, 0, none⟩) hc6_0).trans c6_0
    have hc7_0 : g1 < (w7.alloc (.cells #[.int .i64 a7, .slice p7 r7.length q7] 26)).heap.size := Nat.lt_of_lt_of_le hc6_0 sz7
    have c7_1 : (w7.alloc (.cells #[.int .i64 a7, .slice p7 r7.length q7] 26)).cell? ⟨g1, 1, none⟩ = some (.slice p1 r1.length q1) := (bb7.cell (p := ⟨g1, 1, none⟩) hc6_1).trans c6_1
    have hc7_1 : g1 < (w7.alloc (.cells #[.int .i64 a7, .slice p7 r7.length q7] 26)).heap.size := Nat.lt_of_lt_of_le hc6_1 sz7
    have c7_2 : (w7.alloc (.cells #[.int .i64 a7, .slice p7 r7.length q7] 26)).cell? ⟨g2, 0, none⟩ = some (.int .i64 a2) := (bb7.cell (p := ⟨g2, 0, none⟩) hc6_2).trans c6_2
    have hc7_2 : g2 < (w7.alloc (.cells #[.int .i64 a7, .slice p7 r7.length q7] 26)).heap.size := Nat.lt_of_lt_of_le hc6_2 sz7
    have c7_3 : (w7.alloc (.cells #[.int .i64 a7, .slice p7 r7.length q7] 26)).cell? ⟨g2, 1, none⟩ = some (.slice p2 r2.length q2) := (bb7.cell (p := ⟨g2, 1, none⟩) hc6_3).trans c6_3
    have hc7_3 : g2 < (w7.alloc (.cells #[.int .i64 a7, .slice p7 r7.length q7] 26)).heap.size := Nat.lt_of_lt_of_le hc6_3 sz7
    have c7_4 : (w7.alloc (.cells #[.int .i64 a7, .slice p7 r7.length q7] 26)).cell? ⟨g3, 0, none⟩ = some (.int .i64 a2) := (bb7.cell (p := ⟨g3, 0, none⟩) hc6_4).trans c6_4
    have hc7_4 : g3 < (w7.alloc (.cells #[.int .i64 a7, .slice p7 r7.length q7] 26)).heap.size := Nat.lt_of_lt_of_le hc6_4 sz7
    have c7_5 : (w7.alloc (.cells #[.int .i64 a7, .slice p7 r7.length q7] 26)).cell? ⟨g3, 1, none⟩ = some (.slice p3 r2.length q3) := (bb7.cell (p := ⟨g3, 1, none⟩) hc6_5).trans c6_5
    have hc7_5 : g3 < (w7.alloc (.cells #[.int .i64 a7, .slice p7 r7.length q7] 26)).heap.size := Nat.lt_of_lt_of_le hc6_5 sz7
    have c7_6 : (w7.alloc (.cells #[.int .i64 a7, .slice p7 r7.length q7] 26)).cell? ⟨g4, 0, none⟩ = some (.int .i64 a4) := (bb7.cell (p := ⟨g4, 0, none⟩) hc6_6).trans c6_6
    have hc7_6 : g4 < (w7.alloc (.cells #[.int .i64 a7, .slice p7 r7.length q7] 26)).heap.size := Nat.lt_of_lt_of_le hc6_6 sz7
    have c7_7 : (w7.alloc (.cells #[.int .i64 a7, .slice p7 r7.length q7] 26)).cell? ⟨g4, 1, none⟩ = some (.slice p4 r4.length q4) := (bb7.cell (p := ⟨g4, 1, none⟩) hc6_7).trans c6_7
    have hc7_7 : g4 < (w7.alloc (.cells #[.int .i64 a7, .slice p7 r7.length q7] 26)).heap.size := Nat.lt_of_lt_of_le hc6_7 sz7
    have c7_8 : (w7.alloc (.cells #[.int .i64 a7, .slice p7 r7.length q7] 26)).cell? ⟨g5, 0, none⟩ = some (.int .i64 a5) := (bb7.cell (p := ⟨g5, 0, none⟩) hc6_8).trans c6_8
    have hc7_8 : g5 < (w7.alloc (.cells #[.int .i64 a7, .slice p7 r7.length q7] 26)).heap.size := Nat.lt_of_lt_of_le hc6_8 sz7
    have c7_9 : (w7.alloc (.cells #[.int .i64 a7, .slice p7 r7.length q7] 26)).cell? ⟨g5, 1, none⟩ = some (.slice p5 r5.length q5) := (bb7.cell (p := ⟨g5, 1, none⟩) hc6_9).trans c6_9
    have hc7_9 : g5 < (w7.alloc (.cells #[.int .i64 a7, .slice p7 r7.length q7] 26)).heap.size := Nat.lt_of_lt_of_le hc6_9 sz7
    have c7_10 : (w7.alloc (.cells #[.int .i64 a7, .slice p7 r7.length q7] 26)).cell? ⟨g6, 0, none⟩ = some (.int .i64 a5) := (bb7.cell (p := ⟨g6, 0, none⟩) hc6_10).trans c6_10
    have hc7_10 : g6 < (w7.alloc (.cells #[.int .i64 a7, .slice p7 r7.length q7] 26)).heap.size := Nat.lt_of_lt_of_le hc6_10 sz7
    have c7_11 : (w7.alloc (.cells #[.int .i64 a7, .slice p7 r7.length q7] 26)).cell? ⟨g6, 1, none⟩ = some (.slice p6 r5.length q6) := (bb7.cell (p := ⟨g6, 1, none⟩) hc6_11).trans c6_11
    have hc7_11 : g6 < (w7.alloc (.cells #[.int .i64 a7, .slice p7 r7.length q7] 26)).heap.size := Nat.lt_of_lt_of_le hc6_11 sz7
    have R7_0 := Lib.hid (R6_0.out.below bb7 hR6_0)
    have hR7_0 : w.heap.size ≤ (w7.alloc (.cells #[.int .i64 a7, .slice p7 r7.length q7] 26)).heap.size := Nat.le_trans hR6_0 sz7
    have R7_1 := Lib.hid (R6_1.out.below bb7 hR6_1)
    have hR7_1 : g1 ≤ (w7.alloc (.cells #[.int .i64 a7, .slice p7 r7.length q7] 26)).heap.size := Nat.le_trans hR6_1 sz7
    have R7_2 := Lib.hid (R6_2.out.below bb7 hR6_2)
    have hR7_2 : g2 ≤ (w7.alloc (.cells #[.int .i64 a7, .slice p7 r7.length q7] 26)).heap.size := Nat.le_trans hR6_2 sz7
    have R7_3 := Lib.hid (R6_3.out.below bb7 hR6_3)
    have hR7_3 : g3 ≤ (w7.alloc (.cells #[.int .i64 a7, .slice p7 r7.length q7] 26)).heap.size := Nat.le_trans hR6_3 sz7
    have R7_4 := Lib.hid (R6_4.out.below bb7 hR6_4)
    have hR7_4 : g4 ≤ (w7.alloc (.cells #[.int .i64 a7, .slice p7 r7.length q7] 26)).heap.size := Nat.le_trans hR6_4 sz7
    have R7_5 := Lib.hid (R6_5.out.below bb7 hR6_5)
    have hR7_5 : g5 ≤ (w7.alloc (.cells #[.int .i64 a7, .slice p7 r7.length q7] 26)).heap.size := Nat.le_trans hR6_5 sz7
    have R7_6 := Lib.hid (R6_6.out.below bb7 hR6_6)
    have hR7_6 : g6 ≤ (w7.alloc (.cells #[.int .i64 a7, .slice p7 r7.length q7] 26)).heap.size := Nat.le_trans hR6_6 sz7
    have Bw7 := Lib.hid (Bw6.out.trans (bb7.mono Bw6.out.size))
    have c7_12 : (w7.alloc (.cells #[.int .i64 a7, .slice p7 r7.length q7] 26)).cell? ⟨w7.heap.size, 0, none⟩ = some (.int .i64 a7) := G7.cell 0
    have hc7_12 : w7.heap.size < (w7.alloc (.cells #[.int .i64 a7, .slice p7 r7.length q7] 26)).heap.size := hs7
    have c7_13 : (w7.alloc (.cells #[.int .i64 a7, .slice p7 r7.length q7] 26)).cell? ⟨w7.heap.size, 1, none⟩ = some (.slice p7 r7.length q7) := G7.cell 1
    have hc7_13 : w7.heap.size < (w7.alloc (.cells #[.int .i64 a7, .slice p7 r7.length q7] 26)).heap.size := hs7
    have R7_7 := Lib.hid (o7.reads.below hA7 (Nat.le_refl _))
    have hR7_7 : w7.heap.size ≤ (w7.alloc (.cells #[.int .i64 a7, .slice p7 r7.length q7] 26)).heap.size := Nat.le_of_lt hs7
    generalize w7.alloc (.cells #[.int .i64 a7, .slice p7 r7.length q7] 26) = W7 at bb7 sz7 c7_0 hc7_0 c7_1 hc7_1 c7_2 hc7_2 c7_3 hc7_3 c7_4 hc7_4 c7_5 hc7_5 c7_6 hc7_6 c7_7 hc7_7 c7_8 hc7_8 c7_9 hc7_9 c7_10 hc7_10 c7_11 hc7_11 R7_0 hR7_0 R7_1 hR7_1 R7_2 hR7_2 R7_3 hR7_3 R7_4 hR7_4 R7_5 hR7_5 R7_6 hR7_6 Bw7 c7_12 hc7_12 c7_13 hc7_13 R7_7 hR7_7 ⊢
    clear bb7 sz7
    clear c6_0 c6_1 c6_2 c6_3 c6_4 c6_5 c6_6 c6_7 c6_8 c6_9 c6_10 c6_11 hc6_0 hc6_1 hc6_2 hc6_3 hc6_4 hc6_5 hc6_6 hc6_7 hc6_8 hc6_9 hc6_10 hc6_11 R6_0 R6_1 R6_2 R6_3 R6_4 R6_5 R6_6 hR6_0 hR6_1 hR6_2 hR6_3 hR6_4 hR6_5 hR6_6 k6_0 k6_1 k6_2 k6_3 k6_4 k6_5 k6_6 k6_7 k6_8 k6_9 k6_10 k6_11 Bw6 G7 o7 b7 hA7 hs7
    generalize w7.heap.size = g7 at *
    have k7_0 := fun p : Past W7 => Past.cell (W := W7) c7_0 hc7_0 p
    have k7_1 := fun p : Past W7 => Past.cell (W := W7) c7_1 hc7_1 p
    have k7_2 := fun p : Past W7 => Past.cell (W := W7) c7_2 hc7_2 p
    have k7_3 := fun p : Past W7 => Past.cell (W := W7) c7_3 hc7_3 p
    have k7_4 := fun p : Past W7 => Past.cell (W := W7) c7_4 hc7_4 p
    have k7_5 := fun p : Past W7 => Past.cell (W := W7) c7_5 hc7_5 p
    have k7_6 := fun p : Past W7 => Past.cell (W := W7) c7_6 hc7_6 p
    have k7_7 := fun p : Past W7 => Past.cell (W := W7) c7_7 hc7_7 p
    have k7_8 := fun p : Past W7 => Past.cell (W := W7) c7_8 hc7_8 p
    have k7_9 := fun p : Past W7 => Past.cell (W := W7) c7_9 hc7_9 p
    have k7_10 := fun p : Past W7 => Past.cell (W := W7) c7_10 hc7_10 p
    have k7_11 := fun p : Past W7 => Past.cell (W := W7) c7_11 hc7_11 p
    have k7_12 := fun p : Past W7 => Past.cell (W := W7) c7_12 hc7_12 p
    have k7_13 := fun p : Past W7 => Past.cell (W := W7) c7_13 hc7_13 p
    obtain ⟨a8, hn8⟩ : ∃ n, ((dropO a7 r7 x7).getD (0, [])).1 = n := ⟨_, rfl⟩
    obtain ⟨r8, hr8⟩ : ∃ n, ((dropO a7 r7 x7).getD (0, [])).2 = n := ⟨_, rfl⟩
    obtain ⟨k8, hk8⟩ : ∃ n, (dropO a7 r7 x7).isSome = n := ⟨_, rfl⟩
    have EN8 := Lib.hid hn8
    have ER8 := Lib.hid hr8
    have EK8 := Lib.hid hk8
    clear hn8 hr8 hk8
    go_wp2_with fail
    refine (impl_dropO a7 _ r7 x7 g7 (Past.start W7).w (Past.reads R7_7.out hR7_7 (Past.start W7)) (Past.len hR7_7 (Past.start W7))).mono ?_
    rintro e w8 hres
    obtain ⟨p8, q8, rfl, o8, b8⟩ := asCtx EN8.out ER8.out EK8.out hres
    clear hres
    have hA8 := (Below.refl w8.heap.size w8).alloc (Nat.le_refl _) (.cells #[.int .i64 a8, .slice p8 r8.length q8] 26)
    go_upto_region 11 with fail
    have hs8 : w8.heap.size < (w8.alloc (.cells #[.int .i64 a8, .slice p8 r8.length q8] 26)).heap.size := by simp
    have G8 := BoxAt.new w8 26 #[.int .i64 a8, .slice p8 r8.length q8]
    have bb8 := (Past.start W7).h.trans ((b8.trans (hA8.mono b8.size)).mono (Past.start W7).h.size)
    have sz8 := bb8.size
    have c8_0 : (w8.alloc (.cells #[.int .i64 a8, .slice p8 r8.length q8] 26)).cell? ⟨g1, 0, none⟩ = some (.int .i64 a1) := (bb8.cell (p := ⟨g1, 0, none⟩) hc7_0).trans c7_0
    have hc8_0 : g1 < (w8.alloc (.cells #[.int .i64 a8, .slice p8 r8.length q8] 26)).heap.size := Nat.lt_of_lt_of_le hc7_0 sz8
    have c8_1 : (w8.alloc (.cells #[.int .i64 a8, .slice p8 r8.length q8] 26)).cell? ⟨g1, 1, none⟩ = some (.slice p1 r1.length q1) := (bb8.cell (p := ⟨g1, 1, none⟩) hc7_1).trans c7_1
    have hc8_1 : g1 < (w8.alloc (.cells #[.int .i64 a8, .slice p8 r8.length q8] 26)).heap.size := Nat.lt_of_lt_of_le hc7_1 sz8
    have c8_2 : (w8.alloc (.cells #[.int .i64 a8, .slice p8 r8.length q8] 26)).cell? ⟨g2, 0, none⟩ = some (.int .i64 a2) := (bb8.cell (p := ⟨g2, 0, none⟩) hc7_2).trans c7_2
    have hc8_2 : g2 < (w8.alloc (.cells #[.int .i64 a8, .slice p8 r8.length q8] 26)).heap.size := Nat.lt_of_lt_of_le hc7_2 sz8
    have c8_3 : (w8.alloc (.cells #[.int .i64 a8, .slice p8 r8.length q8] 26)).cell? ⟨g2, 1, none⟩ = some (.slice p2 r2.length q2) := (bb8.cell (p := ⟨g2, 1, none⟩) hc7_3).trans c7_3
    have hc8_3 : g2 < (w8.alloc (.cells #[.int .i64 a8, .slice p8 r8.length q8] 26)).heap.size := Nat.lt_of_lt_of_le hc7_3 sz8
    have c8_4 : (w8.alloc (.cells #[.int .i64 a8, .slice p8 r8.length q8] 26)).cell? ⟨g3, 0, none⟩ = some (.int .i64 a2) := (bb8.cell (p := ⟨g3, 0, none⟩) hc7_4).trans c7_4
    have hc8_4 : g3 < (w8.alloc (.cells #[.int .i64 a8, .slice p8 r8.length q8] 26)).heap.size := Nat.lt_of_lt_of_le hc7_4 sz8
    have c8_5 : (w8.alloc (.cells #[.int .i64 a8, .slice p8 r8.length q8] 26)).cell? ⟨g3, 1, none⟩ = some (.slice p3 r2.length q3) := (bb8.cell (p := ⟨g3, 1, none⟩) hc7_5).trans c7_5
    have hc8_5 : g3 < (w8.alloc (.cells #[.int .i64 a8, .slice p8 r8.length q8] 26)).heap.size := Nat.lt_of_lt_of_le hc7_5 sz8
    have c8_6 : (w8.alloc (.cells #[.int .i64 a8, .slice p8 r8.length q8] 26)).cell? ⟨g4, 0, none⟩ = some (.int .i64 a4) := (bb8.cell (p := ⟨g4, 0, none⟩) hc7_6).trans c7_6
    have hc8_6 : g4 < (w8.alloc (.cells #[.int .i64 a8, .slice p8 r8.length q8] 26)).heap.size := Nat.lt_of_lt_of_le hc7_6 sz8
    have c8_7 : (w8.alloc (.cells #[.int .i64 a8, .slice p8 r8.length q8] 26)).cell? ⟨g4, 1, none⟩ = some (.slice p4 r4.length q4) := (bb8.cell (p := ⟨g4, 1, none⟩) hc7_7).trans c7_7
    have hc8_7 : g4 < (w8.alloc (.cells #[.int .i64 a8, .slice p8 r8.length q8] 26)).heap.size := Nat.lt_of_lt_of_le hc7_7 sz8
    have c8_8 : (w8.alloc (.cells #[.int .i64 a8, .slice p8 r8.length q8] 26)).cell? ⟨g5, 0, none⟩ = some (.int .i64 a5) := (bb8.cell (p := ⟨g5, 0, none⟩) hc7_8).trans c7_8
    have hc8_8 : g5 < (w8.alloc (.cells #[.int .i64 a8, .slice p8 r8.length q8] 26)).heap.size := Nat.lt_of_lt_of_le hc7_8 sz8
    have c8_9 : (w8.alloc (.cells #[.int .i64 a8, .slice p8 r8.length q8] 26)).cell? ⟨g5, 1, none⟩ = some (.slice p5 r5.length q5) := (bb8.cell (p := ⟨g5, 1, none⟩) hc7_9).trans c7_9
    have hc8_9 : g5 < (w8.alloc (.cells #[.int .i64 a8, .slice p8 r8.length q8] 26)).heap.size := Nat.lt_of_lt_of_le hc7_9 sz8
    have c8_10 : (w8.alloc (.cells #[.int .i64 a8, .slice p8 r8.length q8] 26)).cell? ⟨g6, 0, none⟩ = some (.int .i64 a5) := (bb8.cell (p := ⟨g6, 0, none⟩) hc7_10).trans c7_10
    have hc8_10 : g6 < (w8.alloc (.cells #[.int .i64 a8, .slice p8 r8.length q8] 26)).heap.size := Nat.lt_of_lt_of_le hc7_10 sz8
    have c8_11 : (w8.alloc (.cells #[.int .i64 a8, .slice p8 r8.length q8] 26)).cell? ⟨g6, 1, none⟩ = some (.slice p6 r5.length q6) := (bb8.cell (p := ⟨g6, 1, none⟩) hc7_11).trans c7_11
    have hc8_11 : g6 < (w8.alloc (.cells #[.int .i64 a8, .slice p8 r8.length q8] 26)).heap.size := Nat.lt_of_lt_of_le hc7_11 sz8
    have c8_12 : (w8.alloc (.cells #[.int .i64 a8, .slice p8 r8.length q8] 26)).cell? ⟨g7, 0, none⟩ = some (.int .i64 a7) := (bb8.cell (p := ⟨g7, 0, none⟩) hc7_12).trans c7_12
    have hc8_12 : g7 < (w8.alloc (.cells #[.int .i64 a8, .slice p8 r8.length q8] 26)).heap.size := Nat.lt_of_lt_of_le hc7_12 sz8
    have c8_13 : (w8.alloc (.cells #[.int .i64 a8, .slice p8 r8.length q8] 26)).cell? ⟨g7, 1, none⟩ = some (.slice p7 r7.length q7) := (bb8.cell (p := ⟨g7, 1, none⟩) hc7_13).trans c7_13
    have hc8_13 : g7 < (w8.alloc (.cells #[.int .i64 a8, .slice p8 r8.length q8] 26)).heap.size := Nat.lt_of_lt_of_le hc7_13 sz8
    have R8_0 := Lib.hid (R7_0.out.below bb8 hR7_0)
    have hR8_0 : w.heap.size ≤ (w8.alloc (.cells #[.int .i64 a8, .slice p8 r8.length q8] 26)).heap.size := Nat.le_trans hR7_0 sz8
    have R8_1 := Lib.hid (R7_1.out.below bb8 hR7_1)
    have hR8_1 : g1 ≤ (w8.alloc (.cells #[.int .i64 a8, .slice p8 r8.length q8] 26)).heap.size := Nat.le_trans hR7_1 sz8
    have R8_2 := Lib.hid (R7_2.out.below bb8 hR7_2)
    have hR8_2 : g2 ≤ (w8.alloc (.cells #[.int .i64 a8, .slice p8 r8.length q8] 26)).heap.size := Nat.le_trans hR7_2 sz8
    have R8_3 := Lib.hid (R7_3.out.below bb8 hR7_3)
    have hR8_3 : g3 ≤ (w8.alloc (.cells #[.int .i64 a8, .slice p8 r8.length q8] 26)).heap.size := Nat.le_trans hR7_3 sz8
    have R8_4 := Lib.hid (R7_4.out.below bb8 hR7_4)
    have hR8_4 : g4 ≤ (w8.alloc (.cells #[.int .i64 a8, .slice p8 r8.length q8] 26)).heap.size := Nat.le_trans hR7_4 sz8
    have R8_5 := Lib.hid (R7_5.out.below bb8 hR7_5)
    have hR8_5 : g5 ≤ (w8.alloc (.cells #[.int .i64 a8, .slice p8 r8.length q8] 26)).heap.size := Nat.le_trans hR7_5 sz8
    have R8_6 := Lib.hid (R7_6.out.below bb8 hR7_6)
    have hR8_6 : g6 ≤ (w8.alloc (.cells #[.int .i64 a8, .slice p8 r8.length q8] 26)).heap.size := Nat.le_trans hR7_6 sz8
    have R8_7 := Lib.hid (R7_7.out.below bb8 hR7_7)
    have hR8_7 : g7 ≤ (w8.alloc (.cells #[.int .i64 a8, .slice p8 r8.length q8] 26)).heap.size := Nat.le_trans hR7_7 sz8
    have Bw8 := Lib.hid (Bw7.out.trans (bb8.mono Bw7.out.size))
    have c8_14 : (w8.alloc (.cells #[.int .i64 a8, .slice p8 r8.length q8] 26)).cell? ⟨w8.heap.size, 0, none⟩ = some (.int .i64 a8) := G8.cell 0
    have hc8_14 : w8.heap.size < (w8.alloc (.cells #[.int .i64 a8, .slice p8 r8.length q8] 26)).heap.size := hs8
    have c8_15 : (w8.alloc (.cells #[.int .i64 a8, .slice p8 r8.length q8] 26)).cell? ⟨w8.heap.size, 1, none⟩ = some (.slice p8 r8.length q8) := G8.cell 1
    have hc8_15 : w8.heap.size < (w8.alloc (.cells #[.int .i64 a8, .slice p8 r8.length q8] 26)).heap.size := hs8
    have R8_8 := Lib.hid (o8.reads.below hA8 (Nat.le_refl _))
    have hR8_8 : w8.heap.size ≤ (w8.alloc (.cells #[.int .i64 a8, .slice p8 r8.length q8] 26)).heap.size := Nat.le_of_lt hs8
    generalize w8.alloc (.cells #[.int .i64 a8, .slice p8 r8.length q8] 26) = W8 at bb8 sz8 c8_0 hc8_0 c8_1 hc8_1 c8_2 hc8_2 c8_3 hc8_3 c8_4 hc8_4 c8_5 hc8_5 c8_6 hc8_6 c8_7 hc8_7 c8_8 hc8_8 c8_9 hc8_9 c8_10 hc8_10 c8_11 hc8_11 c8_12 hc8_12 c8_13 hc8_13 R8_0 hR8_0 R8_1 hR8_1 R8_2 hR8_2 R8_3 hR8_3 R8_4 hR8_4 R8_5 hR8_5 R8_6 hR8_6 R8_7 hR8_7 Bw8 c8_14 hc8_14 c8_15 hc8_15 R8_8 hR8_8 ⊢
    clear bb8 sz8
    clear c7_0 c7_1 c7_2 c7_3 c7_4 c7_5 c7_6 c7_7 c7_8 c7_9 c7_10 c7_11 c7_12 c7_13 hc7_0 hc7_1 hc7_2 hc7_3 hc7_4 hc7_5 hc7_6 hc7_7 hc7_8 hc7_9 hc7_10 hc7_11 hc7_12 hc7_13 R7_0 R7_1 R7_2 R7_3 R7_4 R7_5 R7_6 R7_7 hR7_0 hR7_1 hR7_2 hR7_3 hR7_4 hR7_5 hR7_6 hR7_7 k7_0 k7_1 k7_2 k7_3 k7_4 k7_5 k7_6 k7_7 k7_8 k7_9 k7_10 k7_11 k7_12 k7_13 Bw7 G8 o8 b8 hA8 hs8
    generalize w8.heap.size = g8 at *
    have k8_0 := fun p : Past W8 => Past.cell (W := W8) c8_0 hc8_0 p
    have k8_1 := fun p : Past W8 => Past.cell (W := W8) c8_1 hc8_1 p
    have k8_2 := fun p : Past W8 => Past.cell (W := W8) c8_2 hc8_2 p
    have k8_3 := fun p : Past W8 => Past.cell (W := W8) c8_3 hc8_3 p
    have k8_4 := fun p : Past W8 => Past.cell (W := W8) c8_4 hc8_4 p
    have k8_5 := fun p : Past W8 => Past.cell (W := W8) c8_5 hc8_5 p
    have k8_6 := fun p : Past W8 => Past.cell (W := W8) c8_6 hc8_6 p
    have k8_7 := fun p : Past W8 => Past.cell (W := W8) c8_7 hc8_7 p
    have k8_8 := fun p : Past W8 => Past.cell (W := W8) c8_8 hc8_8 p
    have k8_9 := fun p : Past W8 => Past.cell (W := W8) c8_9 hc8_9 p
    have k8_10 := fun p : Past W8 => Past.cell (W := W8) c8_10 hc8_10 p
    have k8_11 := fun p : Past W8 => Past.cell (W := W8) c8_11 hc8_11 p
    have k8_12 := fun p : Past W8 => Past.cell (W := W8) c8_12 hc8_12 p
    have k8_13 := fun p : Past W8 => Past.cell (W := W8) c8_13 hc8_13 p
    have k8_14 := fun p : Past W8 => Past.cell (W := W8) c8_14 hc8_14 p
    have k8_15 := fun p : Past W8 => Past.cell (W := W8) c8_15 hc8_15 p
    go_wp2_with fail
    refine (spec_dropO a7 _ r7 x7 g7 (Past.start W8).w (Past.reads R8_7.out hR8_7 (Past.start W8)) (Past.len hR8_7 (Past.start W8))).mono ?_
    rintro e w9 hres
    obtain ⟨p9, q9, rfl, o9, b9⟩ := asCtx EN8.out ER8.out EK8.out hres
    clear hres
    have hA9 := (Below.refl w9.heap.size w9).alloc (Nat.le_refl _) (.cells #[.int .i64 a8, .slice p9 r8.length q9] 26)
    go_upto_region 12 with fail
    have hs9 : w9.heap.size < (w9.alloc (.cells #[.int .i64 a8, .slice p9 r8.length q9] 26)).heap.size := by simp
    have G9 := BoxAt.new w9 26 #[.int .i64 a8, .slice p9 r8.length q9]
    have bb9 := (Past.start W8).h.trans ((b9.trans (hA9.mono b9.size)).mono (Past.start W8).h.size)
    have sz9 := bb9.size
    have c9_0 : (w9.alloc (.cells #[.int .i64 a8, .slice p9 r8.length q9] 26)).cell? ⟨g1, 0, none⟩ = some (.int .i64 a1) := (bb9.cell (p := ⟨g1, 0, none⟩) hc8_0).trans c8_0
    have hc9_0 : g1 < (w9.alloc (.cells #[.int .i64 a8, .slice p9 r8.length q9] 26)).heap.size := Nat.lt_of_lt_of_le hc8_0 sz9
    have c9_1 : (w9.alloc (.cells #[.int .i64 a8, .slice p9 r8.length q9] 26)).cell? ⟨g1, 1, none⟩ = some (.slice p1 r1.length q1) := (bb9.cell (p := ⟨g1, 1, none⟩) hc8_1).trans c8_1
    have hc9_1 : g1 < (w9.alloc (.cells #[.int .i64 a8, .slice p9 r8.length q9] 26)).heap.size := Nat.lt_of_lt_of_le hc8_1 sz9
    have c9_2 : (w9.alloc (.cells #[.int .i64 a8, .slice p9 r8.length q9] 26)).cell? ⟨g2, 0, none⟩ = some (.int .i64 a2) := (bb9.cell (p := ⟨g2, 0, none⟩) hc8_2).trans c8_2
    have hc9_2 : g2 < (w9.alloc (.cells #[.int .i64 a8, .slice p9 r8.length q9] 26)).heap.size := Nat.lt_of_lt_of_le hc8_2 sz9
    have c9_3 : (w9.alloc (.cells #[.int .i64 a8, .slice p9 r8.length q9] 26)).cell? ⟨g2, 1, none⟩ = some (.slice p2 r2.length q2) := (bb9.cell (p := ⟨g2, 1, none⟩) hc8_3).trans c8_3
    have hc9_3 : g2 < (w9.alloc (.cells #[.int .i64 a8, .slice p9 r8.length q9] 26)).heap.size := Nat.lt_of_lt_of_le hc8_3 sz9
    have c9_4 : (w9.alloc (.cells #[.int .i64 a8, .slice p9 r8.length q9] 26)).cell? ⟨g3, 0, none⟩ = some (.int .i64 a2) := (bb9.cell (p := ⟨g3, 0, none⟩) hc8_4).trans c8_4
    have hc9_4 : g3 < (w9.alloc (.cells #[.int .i64 a8, .slice p9 r8.length q9] 26)).heap.size := Nat.lt_of_lt_of_le hc8_4 sz9
    have c9_5 : (w9.alloc (.cells #[.int .i64 a8, .slice p9 r8.length q9] 26)).cell? ⟨g3, 1, none⟩ = some (.slice p3 r2.length q3) := (bb9.cell (p := ⟨g3, 1, none⟩) hc8_5).trans c8_5
    have hc9_5 : g3 < (w9.alloc (.cells #[.int .i64 a8, .slice p9 r8.length q9] 26)).heap.size := Nat.lt_of_lt_of_le hc8_5 sz9
    have c9_6 : (w9.alloc (.cells #[.int .i64 a8, .slice p9 r8.length q9] 26)).cell? ⟨g4, 0, none⟩ = some (.int .i64 a4) := (bb9.cell (p := ⟨g4, 0, none⟩) hc8_6).trans c8_6
    have hc9_6 : g4 < (w9.alloc (.cells #[.int .i64 a8, .slice p9 r8.length q9] 26)).heap.size := Nat.lt_of_lt_of_le hc8_6 sz9
    have c9_7 : (w9.alloc (.cells #[.int .i64 a8, .slice p9 r8.length q9] 26)).cell? ⟨g4, 1, none⟩ = some (.slice p4 r4.length q4) := (bb9.cell (p := ⟨g4, 1, none⟩) hc8_7).trans c8_7
    have hc9_7 : g4 < (w9.alloc (.cells #[.int .i64 a8, .slice p9 r8.length q9] 26)).heap.size := Nat.lt_of_lt_of_le hc8_7 sz9
    have c9_8 : (w9.alloc (.cells #[.int .i64 a8, .slice p9 r8.length q9] 26)).cell? ⟨g5, 0, none⟩ = some (.int .i64 a5) := (bb9.cell (p := ⟨g5, 0, none⟩) hc8_8).trans c8_8
    have hc9_8 : g5 < (w9.alloc (.cells #[.int .i64 a8, .slice p9 r8.length q9] 26)).heap.size := Nat.lt_of_lt_of_le hc8_8 sz9
    have c9_9 : (w9.alloc (.cells #[.int .i64 a8, .slice p9 r8.length q9] 26)).cell? ⟨g5, 1, none⟩ = some (.slice p5 r5.length q5) := (bb9.cell (p := ⟨g5, 1, none⟩) hc8_9).trans c8_9
    have hc9_9 : g5 < (w9.alloc (.cells #[.int .i64 a8, .slice p9 r8.length q9] 26)).heap.size := Nat.lt_of_lt_of_le hc8_9 sz9
    have c9_10 : (w9.alloc (.cells #[.int .i64 a8, .slice p9 r8.length q9] 26)).cell? ⟨g6, 0, none⟩ = some (.int .i64 a5) := (bb9.cell (p := ⟨g6, 0, none⟩) hc8_10).trans c8_10
    have hc9_10 : g6 < (w9.alloc (.cells #[.int .i64 a8, .slice p9 r8.length q9] 26)).heap.size := Nat.lt_of_lt_of_le hc8_10 sz9
    have c9_11 : (w9.alloc (.cells #[.int .i64 a8, .slice p9 r8.length q9] 26)).cell? ⟨g6, 1, none⟩ = some (.slice p6 r5.length q6) := (bb9.cell (p := ⟨g6, 1, none⟩) hc8_11).trans c8_11
    have hc9_11 : g6 < (w9.alloc (.cells #[.int .i64 a8, .slice p9 r8.length q9] 26)).heap.size := Nat.lt_of_lt_of_le hc8_11 sz9
    have c9_12 : (w9.alloc (.cells #[.int .i64 a8, .slice p9 r8.length q9] 26)).cell? ⟨g7, 0, none⟩ = some (.int .i64 a7) := (bb9.cell (p := ⟨g7, 0, none⟩) hc8_12).trans c8_12
    have hc9_12 : g7 < (w9.alloc (.cells #[.int .i64 a8, .slice p9 r8.length q9] 26)).heap.size := Nat.lt_of_lt_of_le hc8_12 sz9
    have c9_13 : (w9.alloc (.cells #[.int .i64 a8, .slice p9 r8.length q9] 26)).cell? ⟨g7, 1, none⟩ = some (.slice p7 r7.length q7) := (bb9.cell (p := ⟨g7, 1, none⟩) hc8_13).trans c8_13
    have hc9_13 : g7 < (w9.alloc (.cells #[.int .i64 a8, .slice p9 r8.length q9] 26)).heap.size := Nat.lt_of_lt_of_le hc8_13 sz9
    have c9_14 : (w9.alloc (.cells #[.int .i64 a8, .slice p9 r8.length q9] 26)).cell? ⟨g8, 0, none⟩ = some (.int .i64 a8) := (bb9.cell (p := ⟨g8, 0, none⟩) hc8_14).trans c8_14
    have hc9_14 : g8 < (w9.alloc (.cells #[.int .i64 a8, .slice p9 r8.length q9] 26)).heap.size := Nat.lt_of_lt_of_le hc8_14 sz9
    have c9_15 : (w9.alloc (.cells #[.int .i64 a8, .slice p9 r8.length q9] 26)).cell? ⟨g8, 1, none⟩ = some (.slice p8 r8.length q8) := (bb9.cell (p := ⟨g8, 1, none⟩) hc8_15).trans c8_15
    have hc9_15 : g8 < (w9.alloc (.cells #[.int .i64 a8, .slice p9 r8.length q9] 26)).heap.size := Nat.lt_of_lt_of_le hc8_15 sz9
    have R9_0 := Lib.hid (R8_0.out.below bb9 hR8_0)
    have hR9_0 : w.heap.size ≤ (w9.alloc (.cells #[.int .i64 a8, .slice p9 r8.length q9] 26)).heap.size := Nat.le_trans hR8_0 sz9
    have R9_1 := Lib.hid (R8_1.out.below bb9 hR8_1)
    have hR9_1 : g1 ≤ (w9.alloc (.cells #[.int .i64 a8, .slice p9 r8.length q9] 26)).heap.size := Nat.le_trans hR8_1 sz9
    have R9_2 := Lib.hid (R8_2.out.below bb9 hR8_2)
    have hR9_2 : g2 ≤ (w9.alloc (.cells #[.int .i64 a8, .slice p9 r8.length q9] 26)).heap.size := Nat.le_trans hR8_2 sz9
    have R9_3 := Lib.hid (R8_3.out.below bb9 hR8_3)
    have hR9_3 : g3 ≤ (w9.alloc (.cells #[.int .i64 a8, .slice p9 r8.length q9] 26)).heap.size := Nat.le_trans hR8_3 sz9
    have R9_4 := Lib.hid (R8_4.out.below bb9 hR8_4)
    have hR9_4 : g4 ≤ (w9.alloc (.cells #[.int .i64 a8, .slice p9 r8.length q9] 26)).heap.size := Nat.le_trans hR8_4 sz9
    have R9_5 := Lib.hid (R8_5.out.below bb9 hR8_5)
    have hR9_5 : g5 ≤ (w9.alloc (.cells #[.int .i64 a8, .slice p9 r8.length q9] 26)).heap.size := Nat.le_trans hR8_5 sz9
    have R9_6 := Lib.hid (R8_6.out.below bb9 hR8_6)
    have hR9_6 : g6 ≤ (w9.alloc (.cells #[.int .i64 a8, .slice p9 r8.length q9] 26)).heap.size := Nat.le_trans hR8_6 sz9
    have R9_7 := Lib.hid (R8_7.out.below bb9 hR8_7)
    have hR9_7 : g7 ≤ (w9.alloc (.cells #[.int .i64 a8, .slice p9 r8.length q9] 26)).heap.size := Nat.le_trans hR8_7 sz9
    have R9_8 := Lib.hid (R8_8.out.below bb9 hR8_8)
    have hR9_8 : g8 ≤ (w9.alloc (.cells #[.int .i64 a8, .slice p9 r8.length q9] 26)).heap.size := Nat.le_trans hR8_8 sz9
    have Bw9 := Lib.hid (Bw8.out.trans (bb9.mono Bw8.out.size))
    have c9_16 : (w9.alloc (.cells #[.int .i64 a8, .slice p9 r8.length q9] 26)).cell? ⟨w9.heap.size, 0, none⟩ = some (.int .i64 a8) := G9.cell 0
    have hc9_16 : w9.heap.size < (w9.alloc (.cells #[.int .i64 a8, .slice p9 r8.length q9] 26)).heap.size := hs9
    have c9_17 : (w9.alloc (.cells #[.int .i64 a8, .slice p9 r8.length q9] 26)).cell? ⟨w9.heap.size, 1, none⟩ = some (.slice p9 r8.length q9) := G9.cell 1
    have hc9_17 : w9.heap.size < (w9.alloc (.cells #[.int .i64 a8, .slice p9 r8.length q9] 26)).heap.size := hs9
    have R9_9 := Lib.hid (o9.reads.below hA9 (Nat.le_refl _))
    have hR9_9 : w9.heap.size ≤ (w9.alloc (.cells #[.int .i64 a8, .slice p9 r8.length q9] 26)).heap.size := Nat.le_of_lt hs9
    generalize w9.alloc (.cells #[.int .i64 a8, .slice p9 r8.length q9] 26) = W9 at bb9 sz9 c9_0 hc9_0 c9_1 hc9_1 c9_2 hc9_2 c9_3 hc9_3 c9_4 hc9_4 c9_5 hc9_5 c9_6 hc9_6 c9_7 hc9_7 c9_8 hc9_8 c9_9 hc9_9 c9_10 hc9_10 c9_11 hc9_11 c9_12 hc9_12 c9_13 hc9_13 c9_14 hc9_14 c9_15 hc9_15 R9_0 hR9_0 R9_1 hR9_1 R9_2 hR9_2 R9_3 hR9_3 R9_4 hR9_4 R9_5 hR9_5 R9_6 hR9_6 R9_7 hR9_7 R9_8 hR9_8 Bw9 c9_16 hc9_16 c9_17 hc9_17 R9_9 hR9_9 ⊢
    clear bb9 sz9
    clear c8_0 c8_1 c8_2 c8_3 c8_4 c8_5 c8_6 c8_7 c8_8 c8_9 c8_10 c8_11 c8_12 c8_13 c8_14 c8_15 hc8_0 hc8_1 hc8_2 hc8_3 hc8_4 hc8_5 hc8_6 hc8_7 hc8_8 hc8_9 hc8_10 hc8_11 hc8_12 hc8_13 hc8_14 hc8_15 R8_0 R8_1 R8_2 R8_3 R8_4 R8_5 R8_6 R8_7 R8_8 hR8_0 hR8_1 hR8_2 hR8_3 hR8_4 hR8_5 hR8_6 hR8_7 hR8_8 k8_0 k8_1 k8_2 k8_3 k8_4 k8_5 k8_6 k8_7 k8_8 k8_9 k8_10 k8_11 k8_12 k8_13 k8_14 k8_15 Bw8 G9 o9 b9 hA9 hs9
    generalize w9.heap.size = g9 at *
    have k9_0 := fun p : Past W9 => Past.cell (W := W9) c9_0 hc9_0 p
    have k9_1 := fun p : Past W9 => Past.cell (W := W9) c9_1 hc9_1 p
    have k9_2 := fun p : Past W9 => Past.cell (W := W9) c9_2 hc9_2 p
    have k9_3 := fun p : Past W9 => Past.cell (W := W9) c9_3 hc9_3 p
    have k9_4 := fun p : Past W9 => Past.cell (W := W9) c9_4 hc9_4 p
    have k9_5 := fun p : Past W9 => Past.cell (W := W9) c9_5 hc9_5 p
    have k9_6 := fun p : Past W9 => Past.cell (W := W9) c9_6 hc9_6 p
    have k9_7 := fun p : Past W9 => Past.cell (W := W9) c9_7 hc9_7 p
    have k9_8 := fun p : Past W9 => Past.cell (W := W9) c9_8 hc9_8 p
    have k9_9 := fun p : Past W9 => Past.cell (W := W9) c9_9 hc9_9 p
    have k9_10 := fun p : Past W9 => Past.cell (W := W9) c9_10 hc9_10 p
    have k9_11 := fun p : Past W9 => Past.cell (W := W9) c9_11 hc9_11 p
    have k9_12 := fun p : Past W9 => Past.cell (W := W9) c9_12 hc9_12 p
    have k9_13 := fun p : Past W9 => Past.cell (W := W9) c9_13 hc9_13 p
    have k9_14 := fun p : Past W9 => Past.cell (W := W9) c9_14 hc9_14 p
    have k9_15 := fun p : Past W9 => Past.cell (W := W9) c9_15 hc9_15 p
    have k9_16 := fun p : Past W9 => Past.cell (W := W9) c9_16 hc9_16 p
    have k9_17 := fun p : Past W9 => Past.cell (W := W9) c9_17 hc9_17 p
    go_wp2_with fail
    refine (DrawDropAttributes v xs w.heap.size (Past.start W9).w (Past.reads R9_0.out hR9_0 (Past.start W9)) (Past.len hR9_0 (Past.start W9)) HX.out (by omega)).mono ?_
    rintro e w10 ⟨a10, x10, u10, r10, rfl, -, -, -, o10, b10⟩
    obtain ⟨p10, q10, rfl⟩ := own_form o10
    have hA10 := (Below.refl w10.heap.size w10).alloc (Nat.le_refl _) (.cells #[.int .i64 a10, .slice p10 r10.length q10] 26)
    go_upto_region 13 with fail
    have hs10 : w10.heap.size < (w10.alloc (.cells #[.int .i64 a10, .slice p10 r10.length q10] 26)).heap.size := by simp
    have G10 := BoxAt.new w10 26 #[.int .i64 a10, .slice p10 r10.length q10]
    have bb10 := (Past.start W9).h.trans ((b10.trans (hA10.mono b10.size)).mono (Past.start W9).h.size)
    have sz10 := bb10.size
    have c10_0 : (w10.alloc (.cells #[.int .i64 a10, .slice p10 r10.length q10] 26)).cell? ⟨g1, 0, none⟩ = some (.int .i64 a1) := (bb10.cell (p := ⟨g1, 0, none⟩) hc9_0).trans c9_0
    have hc10_0 : g1 < (w10.alloc (.cells #[.int .i64 a10, .slice p10 r10.length q10] 26)).heap.size := Nat.lt_of_lt_of_le hc9_0 sz10
    have c10_1 : (w10.alloc (.cells #[.int .i64 a10, .slice p10 r10.length q10] 26)).cell? ⟨g1, 1, none⟩ = some (.slice p1 r1.length q1) := (bb10.cell (p := ⟨g1, 1, none⟩) hc9_1).trans c9_1
    have hc10_1 : g1 < (w10.alloc (.cells #[.int .i64 a10, .slice p10 r10.length q10] 26)).heap.size := Nat.lt_of_lt_of_le hc9_1 sz10
    have c10_2 : (w10.alloc (.cells #[.int .i64 a10, .slice p10 r10.length q10] 26)).cell? ⟨g2, 0, none⟩ = some (.int .i64 a2) := (bb10.cell (p := ⟨g2, 0, none⟩) hc9_2).trans c9_2
    have hc10_2 : g2 < (w10.alloc (.cells #[.int .i64 a10, .slice p10 r10.length q10] 26)).heap.size := Nat.lt_of_lt_of_le hc9_2 sz10
    have c10_3 : (w10.alloc (.cells #[.int .i64 a10, .slice p10 r10.length q10] 26)).cell? ⟨g2, 1, none⟩ = some (.slice p2 r2.length q2) := (bb10.cell (p := ⟨g2, 1, none⟩) hc9_3).trans c9_3
    have hc10_3 : g2 < (w10.alloc (.cells #[.int .i64 a10, .slice p10 r10.length q10] 26)).heap.size := Nat.lt_of_lt_of_le hc9_3 sz10
    have c10_4 : (w10.alloc (.cells #[.int .i64 a10, .slice p10 r10.length q10] 26)).cell? ⟨g3, 0, none⟩ = some (.int .i64 a2) := (bb10.cell (p := ⟨g3, 0, none⟩) hc9_4).trans c9_4
    have hc10_4 : g3 < (w10.alloc (.cells #[.int .i64 a10, .slice p10 r10.length q10] 26)).heap.size := Nat.lt_of_lt_of_le hc9_4 sz10
    have c10_5 : (w10.alloc (.cells #[.int .i64 a10, .slice p10 r10.length q10] 26)).cell? ⟨g3, 1, none⟩ = some (.slice p3 r2.length q3) := (bb10.cell (p := ⟨g3, 1, none⟩) hc9_5).trans c9_5
    have hc10_5 : g3 < (w10.alloc (.cells #[.int .i64 a10, .slice p10 r10.length q10] 26)).heap.size := Nat.lt_of_lt_of_le hc9_5 sz10
    have c10_6 : (w10.alloc (.cells #[.int .i64 a10, .slice p10 r10.length q10] 26)).cell? ⟨g4, 0, none⟩ = some (.int .i64 a4) := (bb10.cell (p := ⟨g4, 0, none⟩) hc9_6).trans c9_6
    have hc10_6 : g4 < (w10.alloc (.cells #[.int .i64 a10, .slice p10 r10.length q10] 26)).heap.size := Nat.lt_of_lt_of_le hc9_6 sz10
    have c10_7 : (w10.alloc (.cells #[.int .i64 a10, .slice p10 r10.length q10] 26)).cell? ⟨g4, 1, none⟩ = some (.slice p4 r4.length q4) := (bb10.cell (p := ⟨g4, 1, none⟩) hc9_7).trans c9_7
    have hc10_7 : g4 < (w10.alloc (.cells #[.int .i64 a10, .slice p10 r10.length q10] 26)).heap.size := Nat.lt_of_lt_of_le hc9_7 sz10
    have c10_8 : (w10.alloc (.cells #[.int .i64 a10, .slice p10 r10.length q10] 26)).cell? ⟨g5, 0, none⟩ = some (.int .i64 a5) := (bb10.cell (p := ⟨g5, 0, none⟩) hc9_8).trans c9_8
    have hc10_8 : g5 < (w10.alloc (.cells #[.int .i64 a10, .slice p10 r10.length q10] 26)).heap.size := Nat.lt_of_lt_of_le hc9_8 sz10
    have c10_9 : (w10.alloc (.cells #[.int .i64 a10, .slice p10 r10.length q10] 26)).cell? ⟨g5, 1, none⟩ = some (.slice p5 r5.length q5) := (bb10.cell (p := ⟨g5, 1, none⟩) hc9_9).trans c9_9
    have hc10_9 : g5 < (w10.alloc (.cells #[.int .i64 a10, .slice p10 r10.length q10] 26)).heap.size := Nat.lt_of_lt_of_le hc9_9 sz10
    have c10_10 : (w10.alloc (.cells #[.int .i64 a10, .slice p10 r10.length q10] 26)).cell? ⟨g6, 0, none⟩ = some (.int .i64 a5) := (bb10.cell (p := ⟨g6, 0, none⟩) hc9_10).trans c9_10
    have hc10_10 : g6 < (w10.alloc (.cells #[.int .i64 a10, .slice p10 r10.length q10] 26)).heap.size := Nat.lt_of_lt_of_le hc9_10 sz10
    have c10_11 : (w10.alloc (.cells #[.int .i64 a10, .slice p10 r10.length q10] 26)).cell? ⟨g6, 1, none⟩ = some (.slice p6 r5.length q6) := (bb10.cell (p := ⟨g6, 1, none⟩) hc9_11).trans c9_11
    have hc10_11 : g6 < (w10.alloc (.cells #[.int .i64 a10, .slice p10 r10.length q10] 26)).heap.size := Nat.lt_of_lt_of_le hc9_11 sz10
    have c10_12 : (w10.alloc (.cells #[.int .i64 a10, .slice p10 r10.length q10] 26)).cell? ⟨g7, 0, none⟩ = some (.int .i64 a7) := (bb10.cell (p := ⟨g7, 0, none⟩) hc9_12).trans c9_12
    have hc10_12 : g7 < (w10.alloc (.cells #[.int .i64 a10, .slice p10 r10.length q10] 26)).heap.size := Nat.lt_of_lt_of_le hc9_12 sz10
    have c10_13 : (w10.alloc (.cells #[.int .i64 a10, .slice p10 r10.length q10] 26)).cell? ⟨g7, 1, none⟩ = some (.slice p7 r7.length q7) := (bb10.cell (p := ⟨g7, 1, none⟩) hc9_13).trans c9_13
    have hc10_13 : g7 < (w10.alloc (.cells #[.int .i64 a10, .slice p10 r10.length q10] 26)).heap.size := Nat.lt_of_lt_of_le hc9_13 sz10
    have c10_14 : (w10.alloc (.cells #[.int .i64 a10, .slice p10 r10.length q10] 26)).cell? ⟨g8, 0, none⟩ = some (.int .i64 a8) := (bb10.cell (p := ⟨g8, 0, none⟩) hc9_14).trans c9_14
    have hc10_14 : g8 < (w10.alloc (.cells #[.int .i64 a10, .slice p10 r10.length q10] 26)).heap.size := Nat.lt_of_lt_of_le hc9_14 sz10
    have c10_15 : (w10.alloc (.cells #[.int .i64 a10, .slice p10 r10.length q10] 26)).cell? ⟨g8, 1, none⟩ = some (.slice p8 r8.length q8) := (bb10.cell (p := ⟨g8, 1, none⟩) hc9_15).trans c9_15
    have hc10_15 : g8 < (w10.alloc (.cells #[.int .i64 a10, .slice p10 r10.length q10] 26)).heap.size := Nat.lt_of_lt_of_le hc9_15 sz10
    have c10_16 : (w10.alloc (.cells #[.int .i64 a10, .slice p10 r10.length q10] 26)).cell? ⟨g9, 0, none⟩ = some (.int .i64 a8) := (bb10.cell (p := ⟨g9, 0, none⟩) hc9_16).trans c9_16
    have hc10_16 : g9 < (w10.alloc (.cells #[.int .i64 a10, .slice p10 r10.length q10] 26)).heap.size := Nat.lt_of_lt_of_le hc9_16 sz10
    have c10_17 : (w10.alloc (.cells #[.int .i64 a10, .slice p10 r10.length q10] 26)).cell? ⟨g9, 1, none⟩ = some (.slice p9 r8.length q9) := (bb10.cell (p := ⟨g9, 1, none⟩) hc9_17).trans c9_17
    have hc10_17 : g9 < (w10.alloc (.cells #[.int .i64 a10, .slice p10 r10.length q10] 26)).heap.size := Nat.lt_of_lt_of_le hc9_17 sz10
    have R10_0 := Lib.hid (R9_0.out.below bb10 hR9_0)
    have hR10_0 : w.heap.size ≤ (w10.alloc (.cells #[.int .i64 a10, .slice p10 r10.length q10] 26)).heap.size := Nat.le_trans hR9_0 sz10
    have R10_1 := Lib.hid (R9_1.out.below bb10 hR9_1)
    have hR10_1 : g1 ≤ (w10.alloc (.cells #[.int .i64 a10, .slice p10 r10.length q10] 26)).heap.size := Nat.le_trans hR9_1 sz10
    have R10_2 := Lib.hid (R9_2.out.below bb10 hR9_2)
    have hR10_2 : g2 ≤ (w10.alloc (.cells #[.int .i64 a10, .slice p10 r10.length q10] 26)).heap.size := Nat.le_trans hR9_2 sz10
    have R10_3 := Lib.hid (R9_3.out.below bb10 hR9_3)
    have hR10_3 : g3 ≤ (w10.alloc (.cells #[.int .i64 a10, .slice p10 r10.length q10] 26)).heap.size := Nat.le_trans hR9_3 sz10
    have R10_4 := Lib.hid (R9_4.out.below bb10 hR9_4)
    have hR10_4 : g4 ≤ (w10.alloc (.cells #[.int .i64 a10, .slice p10 r10.length q10] 26)).heap.size := Nat.le_trans hR9_4 sz10
    have R10_5 := Lib.hid (R9_5.out.below bb10 hR9_5)
    have hR10_5 : g5 ≤ (w10.alloc (.cells #[.int .i64 a10, .slice p10 r10.length q10] 26)).heap.size := Nat.le_trans hR9_5 sz10
    have R10_6 := Lib.hid (R9_6.out.below bb10 hR9_6)
    have hR10_6 : g6 ≤ (w10.alloc (.cells #[.int .i64 a10, .slice p10 r10.length q10] 26)).heap.size := Nat.le_trans hR9_6 sz10
    have R10_7 := Lib.hid (R9_7.out.below bb10 hR9_7)
    have hR10_7 : g7 ≤ (w10.alloc (.cells #[.int .i64 a10, .slice p10 r10.length q10] 26)).heap.size := Nat.le_trans hR9_7 sz10
    have R10_8 := Lib.hid (R9_8.out.below bb10 hR9_8)
    have hR10_8 : g8 ≤ (w10.alloc (.cells #[.int .i64 a10, .slice p10 r10.length q10] 26)).heap.size := Nat.le_trans hR9_8 sz10
    have R10_9 := Lib.hid (R9_9.out.below bb10 hR9_9)
    have hR10_9 : g9 ≤ (w10.alloc (.cells #[.int .i64 a10, .slice p10 r10.length q10] 26)).heap.size := Nat.le_trans hR9_9 sz10
    have Bw10 := Lib.hid (Bw9.out.trans (bb10.mono Bw9.out.size))
    have c10_18 : (w10.alloc (.cells #[.int .i64 a10, .slice p10 r10.length q10] 26)).cell? ⟨w10.heap.size, 0, none⟩ = some (.int .i64 a10) := G10.cell 0
    have hc10_18 : w10.heap.size < (w10.alloc (.cells #[.int .i64 a10, .slice p10 r10.length q10] 26)).heap.size := hs10
    have c10_19 : (w10.alloc (.cells #[.int .i64 a10, .slice p10 r10.length q10] 26)).cell? ⟨w10.heap.size, 1, none⟩ = some (.slice p10 r10.length q10) := G10.cell 1
    have hc10_19 : w10.heap.size < (w10.alloc (.cells #[.int .i64 a10, .slice p10 r10.length q10] 26)).heap.size := hs10
    have R10_10 := Lib.hid (o10.reads.below hA10 (Nat.le_refl _))
    have hR10_10 : w10.heap.size ≤ (w10.alloc (.cells #[.int .i64 a10, .slice p10 r10.length q10] 26)).heap.size := Nat.le_of_lt hs10
    generalize w10.alloc (.cells #[.int .i64 a10, .slice p10 r10.length q10] 26) = W10 at bb10 sz10 c10_0 hc10_0 c10_1 hc10_1 c10_2 hc10_2 c10_3 hc10_3 c10_4 hc10_4 c10_5 hc10_5 c10_6 hc10_6 c10_7 hc10_7 c10_8 hc10_8 c10_9 hc10_9 c10_10 hc10_10 c10_11 hc10_11 c10_12 hc10_12 c10_13 hc10_13 c10_14 hc10_14 c10_15 hc10_15 c10_16 hc10_16 c10_17 hc10_17 R10_0 hR10_0 R10_1 hR10_1 R10_2 hR10_2 R10_3 hR10_3 R10_4 hR10_4 R10_5 hR10_5 R10_6 hR10_6 R10_7 hR10_7 R10_8 hR10_8 R10_9 hR10_9 Bw10 c10_18 hc10_18 c10_19 hc10_19 R10_10 hR10_10 ⊢
    clear bb10 sz10
    clear c9_0 c9_1 c9_2 c9_3 c9_4 c9_5 c9_6 c9_7 c9_8 c9_9 c9_10 c9_11 c9_12 c9_13 c9_14 c9_15 c9_16 c9_17 hc9_0 hc9_1 hc9_2 hc9_3 hc9_4 hc9_5 hc9_6 hc9_7 hc9_8 hc9_9 hc9_10 hc9_11 hc9_12 hc9_13 hc9_14 hc9_15 hc9_16 hc9_17 R9_0 R9_1 R9_2 R9_3 R9_4 R9_5 R9_6 R9_7 R9_8 R9_9 hR9_0 hR9_1 hR9_2 hR9_3 hR9_4 hR9_5 hR9_6 hR9_7 hR9_8 hR9_9 k9_0 k9_1 k9_2 k9_3 k9_4 k9_5 k9_6 k9_7 k9_8 k9_9 k9_10 k9_11 k9_12 k9_13 k9_14 k9_15 k9_16 k9_17 Bw9 G10 o10 b10 hA10 hs10
    generalize w10.heap.size = g10 at *
    have k10_0 := fun p : Past W10 => Past.cell (W := W10) c10_0 hc10_0 p
    have k10_1 := fun p : Past W10 => Past.cell (W := W10) c10_1 hc10_1 p
    have k10_2 := fun p : Past W10 => Past.cell (W := W10) c10_2 hc10_2 p
    have k10_3 := fun p : Past W10 => Past.cell (W := W10) c10_3 hc10_3 p
    have k10_4 := fun p : Past W10 => Past.cell (W := W10) c10_4 hc10_4 p
    have k10_5 := fun p : Past W10 => Past.cell (W := W10) c10_5 hc10_5 p
    have k10_6 := fun p : Past W10 => Past.cell (W := W10) c10_6 hc10_6 p
    have k10_7 := fun p : Past W10 => Past.cell (W := W10) c10_7 hc10_7 p
    have k10_8 := fun p : Past W10 => Past.cell (W := W10) c10_8 hc10_8 p
    have k10_9 := fun p : Past W10 => Past.cell (W := W10) c10_9 hc10_9 p
    have k10_10 := fun p : Past W10 => Past.cell (W := W10) c10_10 hc10_10 p
    have k10_11 := fun p : Past W10 => Past.cell (W := W10) c10_11 hc10_11 p
    have k10_12 := fun p : Past W10 => Past.cell (W := W10) c10_12 hc10_12 p
    have k10_13 := fun p : Past W10 => Past.cell (W := W10) c10_13 hc10_13 p
    have k10_14 := fun p : Past W10 => Past.cell (W := W10) c10_14 hc10_14 p
    have k10_15 := fun p : Past W10 => Past.cell (W := W10) c10_15 hc10_15 p
    have k10_16 := fun p : Past W10 => Past.cell (W := W10) c10_16 hc10_16 p
    have k10_17 := fun p : Past W10 => Past.cell (W := W10) c10_17 hc10_17 p
    have k10_18 := fun p : Past W10 => Past.cell (W := W10) c10_18 hc10_18 p
    have k10_19 := fun p : Past W10 => Past.cell (W := W10) c10_19 hc10_19 p
    obtain ⟨a11, hn11⟩ : ∃ n, ((dropA a10 r10 x10).getD (0, [])).1 = n := ⟨_, rfl⟩
    obtain ⟨r11, hr11⟩ : ∃ n, ((dropA a10 r10 x10).getD (0, [])).2 = n := ⟨_, rfl⟩
    obtain ⟨k11, hk11⟩ : ∃ n, (dropA a10 r10 x10).isSome = n := ⟨_, rfl⟩
    have EN11 := Lib.hid hn11
    have ER11 := Lib.hid hr11
    have EK11 := Lib.hid hk11
    clear hn11 hr11 hk11
    go_wp2_with fail
    refine (impl_dropA a10 _ r10 x10 g10 (Past.start W10).w (Past.reads R10_10.out hR10_10 (Past.start W10)) (Past.len hR10_10 (Past.start W10))).mono ?_
    rintro e w11 hres
    obtain ⟨p11, q11, rfl, o11, b11⟩ := asCtx EN11.out ER11.out EK11.out hres
    clear hres
    have hA11 := (Below.refl w11.heap.size w11).alloc (Nat.le_refl _) (.cells #[.int .i64 a11, .slice p11 r11.length q11] 26)
    go_upto_region 14 with fail
    have hs11 : w11.heap.size < (w11.alloc (.cells #[.int .i64 a11, .slice p11 r11.length q11] 26)).heap.size := by simp
    have G11 := BoxAt.new w11 26 #[.int .i64 a11, .slice p11 r11.length q11]
    have bb11 := (Past.start W10).h.trans ((b11.trans (hA11.mono b11.size)).mono (Past.start W10).h.size)
    have sz11 := bb11.size
    have c11_0 : (w11.alloc (.cells #[.int .i64 a11, .slice p11 r11.length q11] 26)).cell? ⟨g1, 0, none⟩ = some (.int .i64 a1) := (bb11.cell (p := ⟨g1, 0, none⟩) hc10_0).trans c10_0
    have hc11_0 : g1 < (w11.alloc (.cells #[.int .i64 a11, .slice p11 r11.length q11] 26)).heap.size := Nat.lt_of_lt_of_le hc10_0 sz11
    have c11_1 : (w11.alloc (.cells #[.int .i64 a11, .slice p11 r11.length q11] 26)).cell? ⟨g1, 1, none⟩ = some (.slice p1 r1.length q1) := (bb11.cell (p := ⟨g1, 1, none⟩) hc10_1).trans c10_1
    have hc11_1 : g1 < (w11.alloc (.cells #[.int .i64 a11, .slice p11 r11.length q11] 26)).heap.size := Nat.lt_of_lt_of_le hc10_1 sz11
    have c11_2 : (w11.alloc (.cells #[.int .i64 a11, .slice p11 r11.length q11] 26)).cell? ⟨g2, 0, none⟩ = some (.int .i64 a2) := (bb11.cell (p := ⟨g2, 0, none⟩) hc10_2).trans c10_2
    have hc11_2 : g2 < (w11.alloc (.cells #[.int .i64 a11, .slice p11 r11.length q11] 26)).heap.size := Nat.lt_of_lt_of_le hc10_2 sz11
    have c11_3 : (w11.alloc (.cells #[.int .i64 a11, .slice p11 r11.length q11] 26)).cell? ⟨g2, 1, none⟩ = some (.slice p2 r2.length q2) := (bb11.cell (p := ⟨g2, 1, none⟩) hc10_3).trans c10_3
    have hc11_3 : g2 < (w11.alloc (.cells #[.int .i64 a11, .slice p11 r11.length q11] 26)).heap.size := Nat.lt_of_lt_of_le hc10_3 sz11
    have c11_4 : (w11.alloc (.cells #[.int .i64 a11, .slice p11 r11.length q11] 26)).cell? ⟨g3, 0, none⟩ = some (.int .i64 a2) := (bb11.cell (p := ⟨g3, 0, none⟩) hc10_4).trans c10_4
    have hc11_4 : g3 < (w11.alloc (.cells #[.int .i64 a11, .slice p11 r11.length q11] 26)).heap.size := Nat.lt_of_lt_of_le hc10_4 sz11
    have c11_5 : (w11.alloc (.cells #[.int .i64 a11, .slice p11 r11.length q11] 26)).cell? ⟨g3, 1, none⟩ = some (.slice p3 r2.length q3) := (bb11.cell (p := ⟨g3, 1, none⟩) hc10_5).trans c10_5
    have hc11_5 : g3 < (w11.alloc (.cells #[.int .i64 a11, .slice p11 r11.length q11] 26)).heap.size := Nat.lt_of_lt_of_le hc10_5 sz11
    have c11_6 : (w11.alloc (.cells #[.int .i64 a11, .slice p11 r11.length q11] 26)).cell? ⟨g4, 0, none⟩ = some (.int .i64 a4) := (bb11.cell (p := ⟨g4, 0, none⟩) hc10_6).trans c10_6
    have hc11_6 : g4 < (w11.alloc (.cells #[.int .i64 a11, .slice p11 r11.length q11] 26)).heap.size := Nat.lt_of_lt_of_le hc10_6 sz11
    have c11_7 : (w11.alloc (.cells #[.int .i64 a11, .slice p11 r11.length q11] 26)).cell? ⟨g4, 1, none⟩ = some (.slice p4 r4.length q4) := (bb11.cell (p := ⟨g4, 1, none⟩) hc10_7).trans c10_7
    have hc11_7 : g4 < (w11.alloc (.cells #[.int .i64 a11, .slice p11 r11.length q11] 26)).heap.size := Nat.lt_of_lt_of_le hc10_7 sz11
    have c11_8 : (w11.alloc (.cells #[.int .i64 a11, .slice p11 r11.length q11] 26)).cell? ⟨g5, 0, none⟩ = some (.int .i64 a5) := (bb11.cell (p := ⟨g5, 0, none⟩) hc10_8).trans c10_8
    have hc11_8 : g5 < (w11.alloc (.cells #[.int .i64 a11, .slice p11 r11.length q11] 26)).heap.size := Nat.lt_of_lt_of_le hc10_8 sz11
    have c11_9 : (w11.alloc (.cells #[.int .i64 a11, .slice p11 r11.length q11] 26)).cell? ⟨g5, 1, none⟩ = some (.slice p5 r5.length q5) := (bb11.cell (p := ⟨g5, 1, none⟩) hc10_9).trans c10_9
    have hc11_9 : g5 < (w11.alloc (.cells #[.int .i64 a11, .slice p11 r11.length q11] 26)).heap.size := Nat.lt_of_lt_of_le hc10_9 sz11
    have c11_10 : (w11.alloc (.cells #[.int .i64 a11, .slice p11 r11.length q11] 26)).cell? ⟨g6, 0, none⟩ = some (.int .i64 a5) := (bb11.cell (p := ⟨g6, 0, none⟩) hc10_10).trans c10_10
    have hc11_10 : g6 < (w11.alloc (.cells #[.int .i64 a11, .slice p11 r11.length q11] 26)).heap.size := Nat.lt_of_lt_of_le hc10_10 sz11
    have c11_11 : (w11.alloc (.cells #[.int .i64 a11, .slice p11 r11.length q11] 26)).cell? ⟨g6, 1, none⟩ = some (.slice p6 r5.length q6) := (bb11.cell (p := ⟨g6, 1, none⟩) hc10_11).trans c10_11
    have hc11_11 : g6 < (w11.alloc (.cells #[.int .i64 a11, .slice p11 r11.length q11] 26)).heap.size := Nat.lt_of_lt_of_le hc10_11 sz11
    have c11_12 : (w11.alloc (.cells #[.int .i64 a11, .slice p11 r11.length q11] 26)).cell? ⟨g7, 0, none⟩ = some (.int .i64 a7) := (bb11.cell (p := ⟨g7, 0, none⟩) hc10_12).trans c10_12
    have hc11_12 : g7 < (w11.alloc (.cells #[.int .i64 a11, .slice p11 r11.length q11] 26)).heap.size := Nat.lt_of_lt_of_le hc10_12 sz11
    have c11_13 : (w11.alloc (.cells #[.int .i64 a11, .slice p11 r11.length q11] 26)).cell? ⟨g7, 1, none⟩ = some (.slice p7 r7.length q7) := (bb11.cell (p := ⟨g7, 1, none⟩) hc10_13).trans c10_13
    have hc11_13 : g7 < (w11.alloc (.cells #[.int .i64 a11, .slice p11 r11.length q11] 26)).heap.size := Nat.lt_of_lt_of_le hc10_13 sz11
    have c11_14 : (w11.alloc (.cells #[.int .i64 a11, .slice p11 r11.length q11] 26)).cell? ⟨g8, 0, none⟩ = some (.int .i64 a8) := (bb11.cell (p := ⟨g8, 0, none⟩) hc10_14).trans c10_14
    have hc11_14 : g8 < (w11.alloc (.cells #[.int .i64 a11, .slice p11 r11.length q11] 26)).heap.size := Nat.lt_of_lt_of_le hc10_14 sz11
    have c11_15 : (w11.alloc (.cells #[.int .i64 a11, .slice p11 r11.length q11] 26)).cell? ⟨g8, 1, none⟩ = some (.slice p8 r8.length q8) := (bb11.cell (p := ⟨g8, 1, none⟩) hc10_15).trans c10_15
    have hc11_15 : g8 < (w11.alloc (.cells #[.int .i64 a11, .slice p11 r11.length q11] 26)).heap.size := Nat.lt_of_lt_of_le hc10_15 sz11
    have c11_16 : (w11.alloc (.cells #[.int .i64 a11, .slice p11 r11.length q11] 26)).cell? ⟨g9, 0, none⟩ = some (.int .i64 a8) := (bb11.cell (p := ⟨g9, 0, none⟩) hc10_16).trans c10_16
    have hc11_16 : g9 < (w11.alloc (.cells #[.int .i64 a11, .slice p11 r11.length q11] 26)).heap.size := Nat.lt_of_lt_of_le hc10_16 sz11
    have c11_17 : (w11.alloc (.cells #[.int .i64 a11, .slice p11 r11.length q11] 26)).cell? ⟨g9, 1, none⟩ = some (.slice p9 r8.length q9) := (bb11.cell (p := ⟨g9, 1, none⟩) hc10_17).trans c10_17
    have hc11_17 : g9 < (w11.alloc (.cells #[.int .i64 a11, .slice p11 r11.length q11] 26)).heap.size := Nat.lt_of_lt_of_le hc10_17 sz11
    have c11_18 : (w11.alloc (.cells #[.int .i64 a11, .slice p11 r11.length q11] 26)).cell? ⟨g10, 0, none⟩ = some (.int .i64 a10) := (bb11.cell (p := ⟨g10, 0, none⟩) hc10_18).trans c10_18
    have hc11_18 : g10 < (w11.alloc (.cells #[.int .i64 a11, .slice p11 r11.length q11] 26)).heap.size := Nat.lt_of_lt_of_le hc10_18 sz11
    have c11_19 : (w11.alloc (.cells #[.int .i64 a11, .slice p11 r11.length q11] 26)).cell? ⟨g10, 1, none⟩ = some (.slice p10 r10.length q10) := (bb11.cell (p := ⟨g10, 1, none⟩) hc10_19).trans c10_19
    have hc11_19 : g10 < (w11.alloc (.cells #[.int .i64 a11, .slice p11 r11.length q11] 26)).heap.size := Nat.lt_of_lt_of_le hc10_19 sz11
    have R11_0 := Lib.hid (R10_0.out.below bb11 hR10_0)
    have hR11_0 : w.heap.size ≤ (w11.alloc (.cells #[.int .i64 a11, .slice p11 r11.length q11] 26)).heap.size := Nat.le_trans hR10_0 sz11
    have R11_1 := Lib.hid (R10_1.out.below bb11 hR10_1)
    have hR11_1 : g1 ≤ (w11.alloc (.cells #[.int .i64 a11, .slice p11 r11.length q11] 26)).heap.size := Nat.le_trans hR10_1 sz11
    have R11_2 := Lib.hid (R10_2.out.below bb11 hR10_2)
    have hR11_2 : g2 ≤ (w11.alloc (.cells #[.int .i64 a11, .slice p11 r11.length q11] 26)).heap.size := Nat.le_trans hR10_2 sz11
    have R11_3 := Lib.hid (R10_3.out.below bb11 hR10_3)
    have hR11_3 : g3 ≤ (w11.alloc (.cells #[.int .i64 a11, .slice p11 r11.length q11] 26)).heap.size := Nat.le_trans hR10_3 sz11
    have R11_4 := Lib.hid (R10_4.out.below bb11 hR10_4)
    have hR11_4 : g4 ≤ (w11.alloc (.cells #[.int .i64 a11, .slice p11 r11.length q11] 26)).heap.size := Nat.le_trans hR10_4 sz11
    have R11_5 := Lib.hid (R10_5.out.below bb11 hR10_5)
    have hR11_5 : g5 ≤ (w11.alloc (.cells #[.int .i64 a11, .slice p11 r11.length q11] 26)).heap.size := Nat.le_trans hR10_5 sz11
    have R11_6 := Lib.hid (R10_6.out.below bb11 hR10_6)
    have hR11_6 : g6 ≤ (w11.alloc (.cells #[.int .i64 a11, .slice p11 r11.length q11] 26)).heap.size := Nat.le_trans hR10_6 sz11
    have R11_7 := Lib.hid (R10_7.out.below bb11 hR10_7)
    have hR11_7 : g7 ≤ (w11.alloc (.cells #[.int .i64 a11, .slice p11 r11.length q11] 26)).heap.size := Nat.le_trans hR10_7 sz11
    have R11_8 := Lib.hid (R10_8.out.below bb11 hR10_8)
    have hR11_8 : g8 ≤ (w11.alloc (.cells #[.int .i64 a11, .slice p11 r11.length q11] 26)).heap.size := Nat.le_trans hR10_8 sz11
    have R11_9 := Lib.hid (R10_9.out.below bb11 hR10_9)
    have hR11_9 : g9 ≤ (w11.alloc (.cells #[.int .i64 a11, .slice p11 r11.length q11] 26)).heap.size := Nat.le_trans hR10_9 sz11
    have R11_10 := Lib.hid (R10_10.out.below bb11 hR10_10)
    have hR11_10 : g10 ≤ (w11.alloc (.cells #[.int .i64 a11, .slice p11 r11.length q11] 26)).heap.size := Nat.le_trans hR10_10 sz11
    have Bw11 := Lib.hid (Bw10.out.trans (bb11.mono Bw10.out.size))
    have c11_20 : (w11.alloc (.cells #[.int .i64 a11, .slice p11 r11.length q11] 26)).cell? ⟨w11.heap.size, 0, none⟩ = some (.int .i64 a11) := G11.cell 0
    have hc11_20 : w11.heap.size < (w11.alloc (.cells #[.int .i64 a11, .slice p11 r11.length q11] 26)).heap.size := hs11
    have c11_21 : (w11.alloc (.cells #[.int .i64 a11, .slice p11 r11.length q11] 26)).cell? ⟨w11.heap.size, 1, none⟩ = some (.slice p11 r11.length q11) := G11.cell 1
    have hc11_21 : w11.heap.size < (w11.alloc (.cells #[.int .i64 a11, .slice p11 r11.length q11] 26)).heap.size := hs11
    have R11_11 := Lib.hid (o11.reads.below hA11 (Nat.le_refl _))
    have hR11_11 : w11.heap.size ≤ (w11.alloc (.cells #[.int .i64 a11, .slice p11 r11.length q11] 26)).heap.size := Nat.le_of_lt hs11
    generalize w11.alloc (.cells #[.int .i64 a11, .slice p11 r11.length q11] 26) = W11 at bb11 sz11 c11_0 hc11_0 c11_1 hc11_1 c11_2 hc11_2 c11_3 hc11_3 c11_4 hc11_4 c11_5 hc11_5 c11_6 hc11_6 c11_7 hc11_7 c11_8 hc11_8 c11_9 hc11_9 c11_10 hc11_10 c11_11 hc11_11 c11_12 hc11_12 c11_13 hc11_13 c11_14 hc11_14 c11_15 hc11_15 c11_16 hc11_16 c11_17 hc11_17 c11_18 hc11_18 c11_19 hc11_19 R11_0 hR11_0 R11_1 hR11_1 R11_2 hR11_2 R11_3 hR11_3 R11_4 hR11_4 R11_5 hR11_5 R11_6 hR11_6 R11_7 hR11_7 R11_8 hR11_8 R11_9 hR11_9 R11_10 hR11_10 Bw11 c11_20 hc11_20 c11_21 hc11_21 R11_11 hR11_11 ⊢
    clear bb11 sz11
    clear c10_0 c10_1 c10_2 c10_3 c10_4 c10_5 c10_6 c10_7 c10_8 c10_9 c10_10 c10_11 c10_12 c10_13 c10_14 c10_15 c10_16 c10_17 c10_18 c10_19 hc10_0 hc10_1 hc10_2 hc10_3 hc10_4 hc10_5 hc10_6 hc10_7 hc10_8 hc10_9 hc10_10 hc10_11 hc10_12 hc10_13 hc10_14 hc10_15 hc10_16 hc10_17 hc10_18 hc10_19 R10_0 R10_1 R10_2 R10_3 R10_4 R10_5 R10_6 R10_7 R10_8 R10_9 R10_10 hR10_0 hR10_1 hR10_2 hR10_3 hR10_4 hR10_5 hR10_6 hR10_7 hR10_8 hR10_9 hR10_10 k10_0 k10_1 k10_2 k10_3 k10_4 k10_5 k10_6 k10_7 k10_8 k10_9 k10_10 k10_11 k10_12 k10_13 k10_14 k10_15 k10_16 k10_17 k10_18 k10_19 Bw10 G11 o11 b11 hA11 hs11
    generalize w11.heap.size = g11 at *
    have k11_0 := fun p : Past W11 => Past.cell (W := W11) c11_0 hc11_0 p
    have k11_1 := fun p : Past W11 => Past.cell (W := W11) c11_1 hc11_1 p
    have k11_2 := fun p : Past W11 => Past.cell (W := W11) c11_2 hc11_2 p
    have k11_3 := fun p : Past W11 => Past.cell (W := W11) c11_3 hc11_3 p
    have k11_4 := fun p : Past W11 => Past.cell (W := W11) c11_4 hc11_4 p
    have k11_5 := fun p : Past W11 => Past.cell (W := W11) c11_5 hc11_5 p
    have k11_6 := fun p : Past W11 => Past.cell (W := W11) c11_6 hc11_6 p
    have k11_7 := fun p : Past W11 => Past.cell (W := W11) c11_7 hc11_7 p
    have k11_8 := fun p : Past W11 => Past.cell (W := W11) c11_8 hc11_8 p
    have k11_9 := fun p : Past W11 => Past.cell (W := W11) c11_9 hc11_9 p
    have k11_10 := fun p : Past W11 => Past.cell (W := W11) c11_10 hc11_10 p
    have k11_11 := fun p : Past W11 => Past.cell (W := W11) c11_11 hc11_11 p
    have k11_12 := fun p : Past W11 => Past.cell (W := W11) c11_12 hc11_12 p
    have k11_13 := fun p : Past W11 => Past.cell (W := W11) c11_13 hc11_13 p
    have k11_14 := fun p : Past W11 => Past.cell (W := W11) c11_14 hc11_14 p
    have k11_15 := fun p : Past W11 => Past.cell (W := W11) c11_15 hc11_15 p
    have k11_16 := fun p : Past W11 => Past.cell (W := W11) c11_16 hc11_16 p
    have k11_17 := fun p : Past W11 => Past.cell (W := W11) c11_17 hc11_17 p
    have k11_18 := fun p : Past W11 => Past.cell (W := W11) c11_18 hc11_18 p
    have k11_19 := fun p : Past W11 => Past.cell (W := W11) c11_19 hc11_19 p
    have k11_20 := fun p : Past W11 => Past.cell (W := W11) c11_20 hc11_20 p
    have k11_21 := fun p : Past W11 => Past.cell (W := W11) c11_21 hc11_21 p
    go_wp2_with fail
    refine (spec_dropA a10 _ r10 x10 g10 (Past.start W11).w (Past.reads R11_10.out hR11_10 (Past.start W11)) (Past.len hR11_10 (Past.start W11))).mono ?_
    rintro e w12 hres
    obtain ⟨p12, q12, rfl, o12, b12⟩ := asCtx EN11.out ER11.out EK11.out hres
    clear hres
    have hA12 := (Below.refl w12.heap.size w12).alloc (Nat.le_refl _) (.cells #[.int .i64 a11, .slice p12 r11.length q12] 26)
    go_upto_region 15 with fail
    have hs12 : w12.heap.size < (w12.alloc (.cells #[.int .i64 a11, .slice p12 r11.length q12] 26)).heap.size := by simp
    have G12 := BoxAt.new w12 26 #[.int .i64 a11, .slice p12 r11.length q12]
    have bb12 := (Past.start W11).h.trans ((b12.trans (hA12.mono b12.size)).mono (Past.start W11).h.size)
    have sz12 := bb12.size
    have c12_0 : (w12.alloc (.cells #[.int .i64 a11, .slice p12 r11.length q12] 26)).cell? ⟨g1, 0, none⟩ = some (.int .i64 a1) := (bb12.cell (p := ⟨g1, 0, none⟩) hc11_0).trans c11_0
    have hc12_0 : g1 < (w12.alloc (.cells #[.int .i64 a11, .slice p12 r11.length q12] 26)).heap.size := Nat.lt_of_lt_of_le hc11_0 sz12
    have c12_1 : (w12.alloc (.cells #[.int .i64 a11, .slice p12 r11.length q12] 26)).cell? ⟨g1, 1, none⟩ = some (.slice p1 r1.length q1) := (bb12.cell (p := ⟨g1, 1, none⟩) hc11_1).trans c11_1
    have hc12_1 : g1 < (w12.alloc (.cells #[.int .i64 a11, .slice p12 r11.length q12] 26)).heap.size := Nat.lt_of_lt_of_le hc11_1 sz12
    have c12_2 : (w12.alloc (.cells #[.int .i64 a11, .slice p12 r11.length q12] 26)).cell? ⟨g2, 0, none⟩ = some (.int .i64 a2) := (bb12.cell (p := ⟨g2, 0, none⟩) hc11_2).trans c11_2
    have hc12_2 : g2 < (w12.alloc (.cells #[.int .i64 a11, .slice p12 r11.length q12] 26)).heap.size := Nat.lt_of_lt_of_le hc11_2 sz12
    have c12_3 : (w12.alloc (.cells #[.int .i64 a11, .slice p12 r11.length q12] 26)).cell? ⟨g2, 1, none⟩ = some (.slice p2 r2.length q2) := (bb12.cell (p := ⟨g2, 1, none⟩) hc11_3).trans c11_3
    have hc12_3 : g2 < (w12.alloc (.cells #[.int .i64 a11, .slice p12 r11.length q12] 26)).heap.size := Nat.lt_of_lt_of_le hc11_3 sz12
    have c12_4 : (w12.alloc (.cells #[.int .i64 a11, .slice p12 r11.length q12] 26)).cell? ⟨g3, 0, none⟩ = some (.int .i64 a2) := (bb12.cell (p := ⟨g3, 0, none⟩) hc11_4).trans c11_4
    have hc12_4 : g3 < (w12.alloc (.cells #[.int .i64 a11, .slice p12 r11.length q12] 26)).heap.size := Nat.lt_of_lt_of_le hc11_4 sz12
    have c12_5 : (w12.alloc (.cells #[.int .i64 a11, .slice p12 r11.length q12] 26)).cell? ⟨g3, 1, none⟩ = some (.slice p3 r2.length q3) := (bb12.cell (p := ⟨g3, 1, none⟩) hc11_5).trans c11_5
    have hc12_5 : g3 < (w12.alloc (.cells #[.int .i64 a11, .slice p12 r11.length q12] 26)).heap.size := Nat.lt_of_lt_of_le hc11_5 sz12
    have c12_6 : (w12.alloc (.cells #[.int .i64 a11, .slice p12 r11.length q12] 26)).cell? ⟨g4, 0, none⟩ = some (.int .i64 a4) := (bb12.cell (p := ⟨g4, 0, none⟩) hc11_6).trans c11_6
    have hc12_6 : g4 < (w12.alloc (.cells #[.int .i64 a11, .slice p12 r11.length q12] 26)).heap.size := Nat.lt_of_lt_of_le hc11_6 sz12
    have c12_7 : (w12.alloc (.cells #[.int .i64 a11, .slice p12 r11.length q12] 26)).cell? ⟨g4, 1, none⟩ = some (.slice p4 r4.length q4) := (bb12.cell (p := ⟨g4, 1, none⟩) hc11_7).trans c11_7
    have hc12_7 : g4 < (w12.alloc (.cells #[.int .i64 a11, .slice p12 r11.length q12] 26)).heap.size := Nat.lt_of_lt_of_le hc11_7 sz12
    have c12_8 : (w12.alloc (.cells #[.int .i64 a11, .slice p12 r11.length q12] 26)).cell? ⟨g5, 0, none⟩ = some (.int .i64 a5) := (bb12.cell (p := ⟨g5, 0, none⟩) hc11_8).trans c11_8
    have hc12_8 : g5 < (w12.alloc (.cells #[.int .i64 a11, .slice p12 r11.length q12] 26)).heap.size := Nat.lt_of_lt_of_le hc11_8 sz12
    have c12_9 : (w12.alloc (.cells #[.int .i64 a11, .slice p12 r11.length q12] 26)).cell? ⟨g5, 1, none⟩ = some (.slice p5 r5.length q5) := (bb12.cell (p := ⟨g5, 1, none⟩) hc11_9).trans c11_9
    have hc12_9 : g5 < (w12.alloc (.cells #[.int .i64 a11, .slice p12 r11.length q12] 26)).heap.size := Nat.lt_of_lt_of_le hc11_9 sz12
    have c12_10 : (w12.alloc (.cells #[.int .i64 a11, .slice p12 r11.length q12] 26)).cell? ⟨g6, 0, none⟩ = some (.int .i64 a5) := (bb12.cell (p := ⟨g6, 0, none⟩) hc11_10).trans c11_10
    have hc12_10 : g6 < (w12.alloc (.cells #[.int .i64 a11, .slice p12 r11.length q12] 26)).heap.size := Nat.lt_of_lt_of_le hc11_10 sz12
    have c12_11 : (w12.alloc (.cells #[.int .i64 a11, .slice p12 r11.length q12] 26)).cell? ⟨g6, 1, none⟩ = some (.slice p6 r5.length q6) := (bb12.cell (p := ⟨g6, 1, none⟩) hc11_11).trans c11_11
    have hc12_11 : g6 < (w12.alloc (.cells #[.int .i64 a11, .slice p12 r11.length q12] 26)).heap.size := Nat.lt_of_lt_of_le hc11_11 sz12
    have c12_12 : (w12.alloc (.cells #[.int .i64 a11, .slice p12 r11.length q12] 26)).cell? ⟨g7, 0, none⟩ = some (.int .i64 a7) := (bb12.cell (p := ⟨g7, 0, none⟩) hc11_12).trans c11_12
    have hc12_12 : g7 < (w12.alloc (.cells #[.int .i64 a11, .slice p12 r11.length q12] 26)).heap.size := Nat.lt_of_lt_of_le hc11_12 sz12
    have c12_13 : (w12.alloc (.cells #[.int .i64 a11, .slice p12 r11.length q12] 26)).cell? ⟨g7, 1, none⟩ = some (.slice p7 r7.length q7) := (bb12.cell (p := ⟨g7, 1, none⟩) hc11_13).trans c11_13
    have hc12_13 : g7 < (w12.alloc (.cells #[.int .i64 a11, .slice p12 r11.length q12] 26)).heap.size := Nat.lt_of_lt_of_le hc11_13 sz12
    have c12_14 : (w12.alloc (.cells #[.int .i64 a11, .slice p12 r11.length q12] 26)).cell? ⟨g8, 0, none⟩ = some (.int .i64 a8) := (bb12.cell (p := ⟨g8, 0, none⟩) hc11_14).trans c11_14
    have hc12_14 : g8 < (w12.alloc (.cells #[.int .i64 a11, .slice p12 r11.length q12] 26)).heap.size := Nat.lt_of_lt_of_le hc11_14 sz12
    have c12_15 : (w12.alloc (.cells #[.int .i64 a11, .slice p12 r11.length q12] 26)).cell? ⟨g8, 1, none⟩ = some (.slice p8 r8.length q8) := (bb12.cell (p := ⟨g8, 1, none⟩) hc11_15).trans c11_15
    have hc12_15 : g8 < (w12.alloc (.cells #[.int .i64 a11, .slice p12 r11.length q12] 26)).heap.size := Nat.lt_of_lt_of_le hc11_15 sz12
    have c12_16 : (w12.alloc (.cells #[.int .i64 a11, .slice p12 r11.length q12] 26)).cell? ⟨g9, 0, none⟩ = some (.int .i64 a8) := (bb12.cell (p := ⟨g9, 0, none⟩) hc11_16).trans c11_16
    have hc12_16 : g9 < (w12.alloc (.cells #[.int .i64 a11, .slice p12 r11.length q12] 26)).heap.size := Nat.lt_of_lt_of_le hc11_16 sz12
    have c12_17 : (w12.alloc (.cells #[.int .i64 a11, .slice p12 r11.length q12] 26)).cell? ⟨g9, 1, none⟩ = some (.slice p9 r8.length q9) := (bb12.cell (p := ⟨g9, 1, none⟩) hc11_17).trans c11_17
    have hc12_17 : g9 < (w12.alloc (.cells #[.int .i64 a11, .slice p12 r11.length q12] 26)).heap.size := Nat.lt_of_lt_of_le hc11_17 sz12
    have c12_18 : (w12.alloc (.cells #[.int .i64 a11, .slice p12 r11.length q12] 26)).cell? ⟨g10, 0, none⟩ = some (.int .i64 a10) := (bb12.cell (p := ⟨g10, 0, none⟩) hc11_18).trans c11_18
    have hc12_18 : g10 < (w12.alloc (.cells #[.int .i64 a11, .slice p12 r11.length q12] 26)).heap.size := Nat.lt_of_lt_of_le hc11_18 sz12
    have c12_19 : (w12.alloc (.cells #[.int .i64 a11, .slice p12 r11.length q12] 26)).cell? ⟨g10, 1, none⟩ = some (.slice p10 r10.length q10) := (bb12.cell (p := ⟨g10, 1, none⟩) hc11_19).trans c11_19
    have hc12_19 : g10 < (w12.alloc (.cells #[.int .i64 a11, .slice p12 r11.length q12] 26)).heap.size := Nat.lt_of_lt_of_le hc11_19 sz12
    have c12_20 : (w12.alloc (.cells #[.int .i64 a11, .slice p12 r11.length q12] 26)).cell? ⟨g11, 0, none⟩ = some (.int .i64 a11) := (bb12.cell (p := ⟨g11, 0, none⟩) hc11_20).trans c11_20
    have hc12_20 : g11 < (w12.alloc (.cells #[.int .i64 a11, .slice p12 r11.length q12] 26)).heap.size := Nat.lt_of_lt_of_le hc11_20 sz12
    have c12_21 : (w12.alloc (.cells #[.int .i64 a11, .slice p12 r11.length q12] 26)).cell? ⟨g11, 1, none⟩ = some (.slice p11 r11.length q11) := (bb12.cell (p := ⟨g11, 1, none⟩) hc11_21).trans c11_21
    have hc12_21 : g11 < (w12.alloc (.cells #[.int .i64 a11, .slice p12 r11.length q12] 26)).heap.size := Nat.lt_of_lt_of_le hc11_21 sz12
    have R12_0 := Lib.hid (R11_0.out.below bb12 hR11_0)
    have hR12_0 : w.heap.size ≤ (w12.alloc (.cells #[.int .i64 a11, .slice p12 r11.length q12] 26)).heap.size := Nat.le_trans hR11_0 sz12
    have R12_1 := Lib.hid (R11_1.out.below bb12 hR11_1)
    have hR12_1 : g1 ≤ (w12.alloc (.cells #[.int .i64 a11, .slice p12 r11.length q12] 26)).heap.size := Nat.le_trans hR11_1 sz12
    have R12_2 := Lib.hid (R11_2.out.below bb12 hR11_2)
    have hR12_2 : g2 ≤ (w12.alloc (.cells #[.int .i64 a11, .slice p12 r11.length q12] 26)).heap.size := Nat.le_trans hR11_2 sz12
    have R12_3 := Lib.hid (R11_3.out.below bb12 hR11_3)
    have hR12_3 : g3 ≤ (w12.alloc (.cells #[.int .i64 a11, .slice p12 r11.length q12] 26)).heap.size := Nat.le_trans hR11_3 sz12
    have R12_4 := Lib.hid (R11_4.out.below bb12 hR11_4)
    have hR12_4 : g4 ≤ (w12.alloc (.cells #[.int .i64 a11, .slice p12 r11.length q12] 26)).heap.size := Nat.le_trans hR11_4 sz12
    have R12_5 := Lib.hid (R11_5.out.below bb12 hR11_5)
    have hR12_5 : g5 ≤ (w12.alloc (.cells #[.int .i64 a11, .slice p12 r11.length q12] 26)).heap.size := Nat.le_trans hR11_5 sz12
    have R12_6 := Lib.hid (R11_6.out.below bb12 hR11_6)
    have hR12_6 : g6 ≤ (w12.alloc (.cells #[.int .i64 a11, .slice p12 r11.length q12] 26)).heap.size := Nat.le_trans hR11_6 sz12
    have R12_7 := Lib.hid (R11_7.out.below bb12 hR11_7)
    have hR12_7 : g7 ≤ (w12.alloc (.cells #[.int .i64 a11, .slice p12 r11.length q12] 26)).heap.size := Nat.le_trans hR11_7 sz12
    have R12_8 := Lib.hid (R11_8.out.below bb12 hR11_8)
    have hR12_8 : g8 ≤ (w12.alloc (.cells #[.int .i64 a11, .slice p12 r11.length q12] 26)).heap.size := Nat.le_trans hR11_8 sz12
    have R12_9 := Lib.hid (R11_9.out.below bb12 hR11_9)
    have hR12_9 : g9 ≤ (w12.alloc (.cells #[.int .i64 a11, .slice p12 r11.length q12] 26)).heap.size := Nat.le_trans hR11_9 sz12
    have R12_10 := Lib.hid (R11_10.out.below bb12 hR11_10)
    have hR12_10 : g10 ≤ (w12.alloc (.cells #[.int .i64 a11, .slice p12 r11.length q12] 26)).heap.size := Nat.le_trans hR11_10 sz12
    have R12_11 := Lib.hid (R11_11.out.below bb12 hR11_11)
    have hR12_11 : g11 ≤ (w12.alloc (.cells #[.int .i64 a11, .slice p12 r11.length q12] 26)).heap.size := Nat.le_trans hR11_11 sz12
    have Bw12 := Lib.hid (Bw11.out.trans (bb12.mono Bw11.out.size))
    have c12_22 : (w12.alloc (.cells #[.int .i64 a11, .slice p12 r11.length q12] 26)).cell? ⟨w12.heap.size, 0, none⟩ = some (.int .i64 a11) := G12.cell 0
    have hc12_22 : w12.heap.size < (w12.alloc (.cells #[.int .i64 a11, .slice p12 r11.length q12] 26)).heap.size := hs12
    have c12_23 : (w12.alloc (.cells #[.int .i64 a11, .slice p12 r11.length q12] 26)).cell? ⟨w12.heap.size, 1, none⟩ = some (.slice p12 r11.length q12) := G12.cell 1
    have hc12_23 : w12.heap.size < (w12.alloc (.cells #[.int .i64 a11, .slice p12 r11.length q12] 26)).heap.size := hs12
    have R12_12 := Lib.hid (o12.reads.below hA12 (Nat.le_refl _))
    have hR12_12 : w12.heap.size ≤ (w12.alloc (.cells #[.int .i64 a11, .slice p12 r11.length q12] 26)).heap.size := Nat.le_of_lt hs12
    generalize w12.alloc (.cells #[.int .i64 a11, .slice p12 r11.length q12] 26) = W12 at bb12 sz12 c12_0 hc12_0 c12_1 hc12_1 c12_2 hc12_2 c12_3 hc12_3 c12_4 hc12_4 c12_5 hc12_5 c12_6 hc12_6 c12_7 hc12_7 c12_8 hc12_8 c12_9 hc12_9 c12_10 hc12_10 c12_11 hc12_11 c12_12 hc12_12 c12_13 hc12_13 c12_14 hc12_14 c12_15 hc12_15 c12_16 hc12_16 c12_17 hc12_17 c12_18 hc12_18 c12_19 hc12_19 c12_20 hc12_20 c12_21 hc12_21 R12_0 hR12_0 R12_1 hR12_1 R12_2 hR12_2 R12_3 hR12_3 R12_4 hR12_4 R12_5 hR12_5 R12_6 hR12_6 R12_7 hR12_7 R12_8 hR12_8 R12_9 hR12_9 R12_10 hR12_10 R12_11 hR12_11 Bw12 c12_22 hc12_22 c12_23 hc12_23 R12_12 hR12_12 ⊢
    clear bb12 sz12
    clear c11_0 c11_1 c11_2 c11_3 c11_4 c11_5 c11_6 c11_7 c11_8 c11_9 c11_10 c11_11 c11_12 c11_13 c11_14 c11_15 c11_16 c11_17 c11_18 c11_19 c11_20 c11_21 hc11_0 hc11_1 hc11_2 hc11_3 hc11_4 hc11_5 hc11_6 hc11_7 hc11_8 hc11_9 hc11_10 hc11_11 hc11_12 hc11_13 hc11_14 hc11_15 hc11_16 hc11_17 hc11_18 hc11_19 hc11_20 hc11_21 R11_0 R11_1 R11_2 R11_3 R11_4 R11_5 R11_6 R11_7 R11_8 R11_9 R11_10 R11_11 hR11_0 hR11_1 hR11_2 hR11_3 hR11_4 hR11_5 hR11_6 hR11_7 hR11_8 hR11_9 hR11_10 hR11_11 k11_0 k11_1 k11_2 k11_3 k11_4 k11_5 k11_6 k11_7 k11_8 k11_9 k11_10 k11_11 k11_12 k11_13 k11_14 k11_15 k11_16 k11_17 k11_18 k11_19 k11_20 k11_21 Bw11 G12 o12 b12 hA12 hs12
    generalize w12.heap.size = g12 at *
    have k12_0 := fun p : Past W12 => Past.cell (W := W12) c12_0 hc12_0 p
    have k12_1 := fun p : Past W12 => Past.cell (W := W12) c12_1 hc12_1 p
    have k12_2 := fun p : Past W12 => Past.cell (W := W12) c12_2 hc12_2 p
    have k12_3 := fun p : Past W12 => Past.cell (W := W12) c12_3 hc12_3 p
    have k12_4 := fun p : Past W12 => Past.cell (W := W12) c12_4 hc12_4 p
    have k12_5 := fun p : Past W12 => Past.cell (W := W12) c12_5 hc12_5 p
    have k12_6 := fun p : Past W12 => Past.cell (W := W12) c12_6 hc12_6 p
    have k12_7 := fun p : Past W12 => Past.cell (W := W12) c12_7 hc12_7 p
    have k12_8 := fun p : Past W12 => Past.cell (W := W12) c12_8 hc12_8 p
    have k12_9 := fun p : Past W12 => Past.cell (W := W12) c12_9 hc12_9 p
    have k12_10 := fun p : Past W12 => Past.cell (W := W12) c12_10 hc12_10 p
    have k12_11 := fun p : Past W12 => Past.cell (W := W12) c12_11 hc12_11 p
    have k12_12 := fun p : Past W12 => Past.cell (W := W12) c12_12 hc12_12 p
    have k12_13 := fun p : Past W12 => Past.cell (W := W12) c12_13 hc12_13 p
    have k12_14 := fun p : Past W12 => Past.cell (W := W12) c12_14 hc12_14 p
    have k12_15 := fun p : Past W12 => Past.cell (W := W12) c12_15 hc12_15 p
    have k12_16 := fun p : Past W12 => Past.cell (W := W12) c12_16 hc12_16 p
    have k12_17 := fun p : Past W12 => Past.cell (W := W12) c12_17 hc12_17 p
    have k12_18 := fun p : Past W12 => Past.cell (W := W12) c12_18 hc12_18 p
    have k12_19 := fun p : Past W12 => Past.cell (W := W12) c12_19 hc12_19 p
    have k12_20 := fun p : Past W12 => Past.cell (W := W12) c12_20 hc12_20 p
    have k12_21 := fun p : Past W12 => Past.cell (W := W12) c12_21 hc12_21 p
    have k12_22 := fun p : Past W12 => Past.cell (W := W12) c12_22 hc12_22 p
    have k12_23 := fun p : Past W12 => Past.cell (W := W12) c12_23 hc12_23 p
    go_wp2_with fail
    refine (DrawIsReducibleObject v xs w.heap.size (Past.start W12).w (Past.reads R12_0.out hR12_0 (Past.start W12)) (Past.len hR12_0 (Past.start W12)) HX.out (by omega)).mono ?_
    rintro e w13 ⟨a13, x13, u13, r13, rfl, -, o13, b13⟩
    obtain ⟨p13, q13, rfl⟩ := own_form o13
    have hA13 := (Below.refl w13.heap.size w13).alloc (Nat.le_refl _) (.cells #[.int .i64 a13, .slice p13 r13.length q13] 26)
    go_upto_region 16 with fail
    have hs13 : w13.heap.size < (w13.alloc (.cells #[.int .i64 a13, .slice p13 r13.length q13] 26)).heap.size := by simp
    have G13 := BoxAt.new w13 26 #[.int .i64 a13, .slice p13 r13.length q13]
    have bb13 := (Past.start W12).h.trans ((b13.trans (hA13.mono b13.size)).mono (Past.start W12).h.size)
    have sz13 := bb13.size
    have c13_0 : (w13.alloc (.cells #[.int .i64 a13, .slice p13 r13.length q13] 26)).cell? ⟨g1, 0, none⟩ = some (.int .i64 a1) := (bb13.cell (p := ⟨g1, 0, none⟩) hc12_0).trans c12_0
    have hc13_0 : g1 < (w13.alloc (.cells #[.int .i64 a13, .slice p13 r13.length q13] 26)).heap.size := Nat.lt_of_lt_of_le hc12_0 sz13
    have c13_1 : (w13.alloc (.cells #[.int .i64 a13, .slice p13 r13.length q13] 26)).cell? ⟨g1, 1, none⟩ = some (.slice p1 r1.length q1) := (bb13.cell (p := ⟨g1, 1, none⟩) hc12_1).trans c12_1
    have hc13_1 : g1 < (w13.alloc (.cells #[.int .i64 a13, .slice p13 r13.length q13] 26)).heap.size := Nat.lt_of_lt_of_le hc12_1 sz13
    have c13_2 : (w13.alloc (.cells #[.int .i64 a13, .slice p13 r13.length q13] 26)).cell? ⟨g2, 0, none⟩ = some (.int .i64 a2) := (bb13.cell (p := ⟨g2, 0, none⟩) hc12_2).trans c12_2
    have hc13_2 : g2 < (w13.alloc (.cells #[.int .i64 a13, .slice p13 r13.length q13] 26)).heap.size := Nat.lt_of_lt_of_le hc12_2 sz13
    have c13_3 : (w13.alloc (.cells #[.int .i64 a13, .slice p13 r13.length q13] 26)).cell? ⟨g2, 1, none⟩ = some (.slice p2 r2.length q2) := (bb13.cell (p := ⟨g2, 1, none⟩) hc12_3).trans c12_3
    have hc13_3 : g2 < (w13.alloc (.cells #[.int .i64 a13, .slice p13 r13.length q13] 26)).heap.size := Nat.lt_of_lt_of_le hc12_3 sz13
    have c13_4 : (w13.alloc (.cells #[.int .i64 a13, .slice p13 r13.length q13] 26)).cell? ⟨g3, 0, none⟩ = some (.int .i64 a2) := (bb13.cell (p := ⟨g3, 0, none⟩) hc12_4).trans c12_4
    have hc13_4 : g3 < (w13.alloc (.cells #[.int .i64 a13, .slice p13 r13.length q13] 26)).heap.size := Nat.lt_of_lt_of_le hc12_4 sz13
    have c13_5 : (w13.alloc (.cells #[.int .i64 a13, .slice p13 r13.length q13] 26)).cell? ⟨g3, 1, none⟩ = some (.slice p3 r2.length q3) := (bb13.cell (p := ⟨g3, 1, none⟩) hc12_5).trans c12_5
    have hc13_5 : g3 < (w13.alloc (.cells #[.int .i64 a13, .slice p13 r13.length q13] 26)).heap.size := Nat.lt_of_lt_of_le hc12_5 sz13
    have c13_6 : (w13.alloc (.cells #[.int .i64 a13, .slice p13 r13.length q13] 26)).cell? ⟨g4, 0, none⟩ = some (.int .i64 a4) := (bb13.cell (p := ⟨g4, 0, none⟩) hc12_6).trans c12_6
    have hc13_6 : g4 < (w13.alloc (.cells #[.int .i64 a13, .slice p13 r13.length q13] 26)).heap.size := Nat.lt_of_lt_of_le hc12_6 sz13
    have c13_7 : (w13.alloc (.cells #[.int .i64 a13, .slice p13 r13.length q13] 26)).cell? ⟨g4, 1, none⟩ = some (.slice p4 r4.length q4) := (bb13.cell (p := ⟨g4, 1, none⟩) hc12_7).trans c12_7
    have hc13_7 : g4 < (w13.alloc (.cells #[.int .i64 a13, .slice p13 r13.length q13] 26)).heap.size := Nat.lt_of_lt_of_le hc12_7 sz13
    have c13_8 : (w13.alloc (.cells #[.int .i64 a13, .slice p13 r13.length q13] 26)).cell? ⟨g5, 0, none⟩ = some (.int .i64 a5) := (bb13.cell (p := ⟨g5, 0, none⟩) hc12_8).trans c12_8
    have hc13_8 : g5 < (w13.alloc (.cells #[.int .i64 a13, .slice p13 r13.length q13] 26)).heap.size := Nat.lt_of_lt_of_le hc12_8 sz13
    have c13_9 : (w13.alloc (.cells #[.int .i64 a13, .slice p13 r13.length q13] 26)).cell? ⟨g5, 1, none⟩ = some (.slice p5 r5.length q5) := (bb13.cell (p := ⟨g5, 1, none⟩) hc12_9).trans c12_9
    have hc13_9 : g5 < (w13.alloc (.cells #[.int .i64 a13, .slice p13 r13.length q13] 26)).heap.size := Nat.lt_of_lt_of_le hc12_9 sz13
    have c13_10 : (w13.alloc (.cells #[.int .i64 a13, .slice p13 r13.length q13] 26)).cell? ⟨g6, 0, none⟩ = some (.int .i64 a5) := (bb13.cell (p := ⟨g6, 0, none⟩) hc12_10).trans c12_10
    have hc13_10 : g6 < (w13.alloc (.cells #[.int .i64 a13, .slice p13 r13.length q13] 26)).heap.size := Nat.lt_of_lt_of_le hc12_10 sz13
    have c13_11 : (w13.alloc (.cells #[.int .i64 a13, .slice p13 r13.length q13] 26)).cell? ⟨g6, 1, none⟩ = some (.slice p6 r5.length q6) := (bb13.cell (p := ⟨g6, 1, none⟩) hc12_11).trans c12_11
    have hc13_11 : g6 < (w13.alloc (.cells #[.int .i64 a13, .slice p13 r13.length q13] 26)).heap.size := Nat.lt_of_lt_of_le hc12_11 sz13
    have c13_12 : (w13.alloc (.cells #[.int .i64 a13, .slice p13 r13.length q13] 26)).cell? ⟨g7, 0, none⟩ = some (.int .i64 a7) := (bb13.cell (p := ⟨g7, 0, none⟩) hc12_12).trans c12_12
    have hc13_12 : g7 < (w13.alloc (.cells #[.int .i64 a13, .slice p13 r13.length q13] 26)).heap.size := Nat.lt_of_lt_of_le hc12_12 sz13
    have c13_13 : (w13.alloc (.cells #[.int .i64 a13, .slice p13 r13.length q13] 26)).cell? ⟨g7, 1, none⟩ = some (.slice p7 r7.length q7) := (bb13.cell (p := ⟨g7, 1, none⟩) hc12_13).trans c12_13
    have hc13_13 : g7 < (w13.alloc (.cells #[.int .i64 a13, .slice p13 r13.length q13] 26)).heap.size := Nat.lt_of_lt_of_le hc12_13 sz13
    have c13_14 : (w13.alloc (.cells #[.int .i64 a13, .slice p13 r13.length q13] 26)).cell? ⟨g8, 0, none⟩ = some (.int .i64 a8) := (bb13.cell (p := ⟨g8, 0, none⟩) hc12_14).trans c12_14
    have hc13_14 : g8 < (w13.alloc (.cells #[.int .i64 a13, .slice p13 r13.length q13] 26)).heap.size := Nat.lt_of_lt_of_le hc12_14 sz13
    have c13_15 : (w13.alloc (.cells #[.int .i64 a13, .slice p13 r13.length q13] 26)).cell? ⟨g8, 1, none⟩ = some (.slice p8 r8.length q8) := (bb13.cell (p := ⟨g8, 1, none⟩) hc12_15).trans c12_15
    have hc13_15 : g8 < (w13.alloc (.cells #[.int .i64 a13, .slice p13 r13.length q13] 26)).heap.size := Nat.lt_of_lt_of_le hc12_15 sz13
    have c13_16 : (w13.alloc (.cells #[.int .i64 a13, .slice p13 r13.length q13] 26)).cell? ⟨g9, 0, none⟩ = some (.int .i64 a8) := (bb13.cell (p := ⟨g9, 0, none⟩) hc12_16).trans c12_16
    have hc13_16 : g9 < (w13.alloc (.cells #[.int .i64 a13, .slice p13 r13.length q13] 26)).heap.size := Nat.lt_of_lt_of_le hc12_16 sz13
    have c13_17 : (w13.alloc (.cells #[.int .i64 a13, .slice p13 r13.length q13] 26)).cell? ⟨g9, 1, none⟩ = some (.slice p9 r8.length q9) := (bb13.cell (p := ⟨g9, 1, none⟩) hc12_17).trans c12_17
    have hc13_17 : g9 < (w13.alloc (.cells #[.int .i64 a13, .slice p13 r13.length q13] 26)).heap.size := Nat.lt_of_lt_of_le hc12_17 sz13
    have c13_18 : (w13.alloc (.cells #[.int .i64 a13, .slice p13 r13.length q13] 26)).cell? ⟨g10, 0, none⟩ = some (.int .i64 a10) := (bb13.cell (p := ⟨g10, 0, none⟩) hc12_18).trans c12_18
    have hc13_18 : g10 < (w13.alloc (.cells #[.int .i64 a13, .slice p13 r13.length q13] 26)).heap.size := Nat.lt_of_lt_of_le hc12_18 sz13
    have c13_19 : (w13.alloc (.cells #[.int .i64 a13, .slice p13 r13.length q13] 26)).cell? ⟨g10, 1, none⟩ = some (.slice p10 r10.length q10) := (bb13.cell (p := ⟨g10, 1, none⟩) hc12_19).trans c12_19
    have hc13_19 : g10 < (w13.alloc (.cells #[.int .i64 a13, .slice p13 r13.length q13] 26)).heap.size := Nat.lt_of_lt_of_le hc12_19 sz13
    have c13_20 : (w13.alloc (.cells #[.int .i64 a13, .slice p13 r13.length q13] 26)).cell? ⟨g11, 0, none⟩ = some (.int .i64 a11) := (bb13.cell (p := ⟨g11, 0, none⟩) hc12_20).trans c12_20
    have hc13_20 : g11 < (w13.alloc (.cells #[.int .i64 a13, .slice p13 r13.length q13] 26)).heap.size := Nat.lt_of_lt_of_le hc12_20 sz13
    have c13_21 : (w13.alloc (.cells #[.int .i64 a13, .slice p13 r13.length q13] 26)).cell? ⟨g11, 1, none⟩ = some (.slice p11 r11.length q11) := (bb13.cell (p := ⟨g11, 1, none⟩) hc12_21).trans c12_21
    have hc13_21 : g11 < (w13.alloc (.cells #[.int .i64 a13, .slice p13 r13.length q13] 26)).heap.size := Nat.lt_of_lt_of_le hc12_21 sz13
    have c13_22 : (w13.alloc (.cells #[.int .i64 a13, .slice p13 r13.length q13] 26)).cell? ⟨g12, 0, none⟩ = some (.int .i64 a11) := (bb13.cell (p := ⟨g12, 0, none⟩) hc12_22).trans c12_22
    have hc13_22 : g12 < (w13.alloc (.cells #[.int .i64 a13, .slice p13 r13.length q13] 26)).heap.size := Nat.lt_of_lt_of_le hc12_22 sz13
    have c13_23 : (w13.alloc (.cells #[.int .i64 a13, .slice p13 r13.length q13] 26)).cell? ⟨g12, 1, none⟩ = some (.slice p12 r11.length q12) := (bb13.cell (p := ⟨g12, 1, none⟩) hc12_23).trans c12_23
    have hc13_23 : g12 < (w13.alloc (.cells #[.int .i64 a13, .slice p13 r13.length q13] 26)).heap.size := Nat.lt_of_lt_of_le hc12_23 sz13
    have R13_0 := Lib.hid (R12_0.out.below bb13 hR12_0)
    have hR13_0 : w.heap.size ≤ (w13.alloc (.cells #[.int .i64 a13, .slice p13 r13.length q13] 26)).heap.size := Nat.le_trans hR12_0 sz13
    have R13_1 := Lib.hid (R12_1.out.below bb13 hR12_1)
    have hR13_1 : g1 ≤ (w13.alloc (.cells #[.int .i64 a13, .slice p13 r13.length q13] 26)).heap.size := Nat.le_trans hR12_1 sz13
    have R13_2 := Lib.hid (R12_2.out.below bb13 hR12_2)
    have hR13_2 : g2 ≤ (w13.alloc (.cells #[.int .i64 a13, .slice p13 r13.length q13] 26)).heap.size := Nat.le_trans hR12_2 sz13
    have R13_3 := Lib.hid (R12_3.out.below bb13 hR12_3)
    have hR13_3 : g3 ≤ (w13.alloc (.cells #[.int .i64 a13, .slice p13 r13.length q13] 26)).heap.size := Nat.le_trans hR12_3 sz13
    have R13_4 := Lib.hid (R12_4.out.below bb13 hR12_4)
    have hR13_4 : g4 ≤ (w13.alloc (.cells #[.int .i64 a13, .slice p13 r13.length q13] 26)).heap.size := Nat.le_trans hR12_4 sz13
    have R13_5 := Lib.hid (R12_5.out.below bb13 hR12_5)
    have hR13_5 : g5 ≤ (w13.alloc (.cells #[.int .i64 a13, .slice p13 r13.length q13] 26)).heap.size := Nat.le_trans hR12_5 sz13
    have R13_6 := Lib.hid (R12_6.out.below bb13 hR12_6)
    have hR13_6 : g6 ≤ (w13.alloc (.cells #[.int .i64 a13, .slice p13 r13.length q13] 26)).heap.size := Nat.le_trans hR12_6 sz13
    have R13_7 := Lib.hid (R12_7.out.below bb13 hR12_7)
    have hR13_7 : g7 ≤ (w13.alloc (.cells #[.int .i64 a13, .slice p13 r13.length q13] 26)).heap.size := Nat.le_trans hR12_7 sz13
    have R13_8 := Lib.hid (R12_8.out.below bb13 hR12_8)
    have hR13_8 : g8 ≤ (w13.alloc (.cells #[.int .i64 a13, .slice p13 r13.length q13] 26)).heap.size := Nat.le_trans hR12_8 sz13
    have R13_9 := Lib.hid (R12_9.out.below bb13 hR12_9)
    have hR13_9 : g9 ≤ (w13.alloc (.cells #[.int .i64 a13, .slice p13 r13.length q13] 26)).heap.size := Nat.le_trans hR12_9 sz13
    have R13_10 := Lib.hid (R12_10.out.below bb13 hR12_10)
    have hR13_10 : g10 ≤ (w13.alloc (.cells #[.int .i64 a13, .slice p13 r13.length q13] 26)).heap.size := Nat.le_trans hR12_10 sz13
    have R13_11 := Lib.hid (R12_11.out.below bb13 hR12_11)
    have hR13_11 : g11 ≤ (w13.alloc (.cells #[.int .i64 a13, .slice p13 r13.length q13] 26)).heap.size := Nat.le_trans hR12_11 sz13
    have R13_12 := Lib.hid (R12_12.out.below bb13 hR12_12)
    have hR13_12 : g12 ≤ (w13.alloc (.cells #[.int .i64 a13, .slice p13 r13.length q13] 26)).heap.size := Nat.le_trans hR12_12 sz13
    have Bw13 := Lib.hid (Bw12.out.trans (bb13.mono Bw12.out.size))
    have c13_24 : (w13.alloc (.cells #[.int .i64 a13, .slice p13 r13.length q13] 26)).cell? ⟨w13.heap.size, 0, none⟩ = some (.int .i64 a13) := G13.cell 0
    have hc13_24 : w13.heap.size < (w13.alloc (.cells #[.int .i64 a13, .slice p13 r13.length q13] 26)).heap.size := hs13
    have c13_25 : (w13.alloc (.cells #[.int .i64 a13, .slice p13 r13.length q13] 26)).cell? ⟨w13.heap.size, 1, none⟩ = some (.slice p13 r13.length q13) := G13.cell 1
    have hc13_25 : w13.heap.size < (w13.alloc (.cells #[.int .i64 a13, .slice p13 r13.length q13] 26)).heap.size := hs13
    have R13_13 := Lib.hid (o13.reads.below hA13 (Nat.le_refl _))
    have hR13_13 : w13.heap.size ≤ (w13.alloc (.cells #[.int .i64 a13, .slice p13 r13.length q13] 26)).heap.size := Nat.le_of_lt hs13
    generalize w13.alloc (.cells #[.int .i64 a13, .slice p13 r13.length q13] 26) = W13 at bb13 sz13 c13_0 hc13_0 c13_1 hc13_1 c13_2 hc13_2 c13_3 hc13_3 c13_4 hc13_4 c13_5 hc13_5 c13_6 hc13_6 c13_7 hc13_7 c13_8 hc13_8 c13_9 hc13_9 c13_10 hc13_10 c13_11 hc13_11 c13_12 hc13_12 c13_13 hc13_13 c13_14 hc13_14 c13_15 hc13_15 c13_16 hc13_16 c13_17 hc13_17 c13_18 hc13_18 c13_19 hc13_19 c13_20 hc13_20 c13_21 hc13_21 c13_22 hc13_22 c13_23 hc13_23 R13_0 hR13_0 R13_1 hR13_1 R13_2 hR13_2 R13_3 hR13_3 R13_4 hR13_4 R13_5 hR13_5 R13_6 hR13_6 R13_7 hR13_7 R13_8 hR13_8 R13_9 hR13_9 R13_10 hR13_10 R13_11 hR13_11 R13_12 hR13_12 Bw13 c13_24 hc13_24 c13_25 hc13_25 R13_13 hR13_13 ⊢
    clear bb13 sz13
    clear c12_0 c12_1 c12_2 c12_3 c12_4 c12_5 c12_6 c12_7 c12_8 c12_9 c12_10 c12_11 c12_12 c12_13 c12_14 c12_15 c12_16 c12_17 c12_18 c12_19 c12_20 c12_21 c12_22 c12_23 hc12_0 hc12_1 hc12_2 hc12_3 hc12_4 hc12_5 hc12_6 hc12_7 hc12_8 hc12_9 hc12_10 hc12_11 hc12_12 hc12_13 hc12_14 hc12_15 hc12_16 hc12_17 hc12_18 hc12_19 hc12_20 hc12_21 hc12_22 hc12_23 R12_0 R12_1 R12_2 R12_3 R12_4 R12_5 R12_6 R12_7 R12_8 R12_9 R12_10 R12_11 R12_12 hR12_0 hR12_1 hR12_2 hR12_3 hR12_4 hR12_5 hR12_6 hR12_7 hR12_8 hR12_9 hR12_10 hR12_11 hR12_12 k12_0 k12_1 k12_2 k12_3 k12_4 k12_5 k12_6 k12_7 k12_8 k12_9 k12_10 k12_11 k12_12 k12_13 k12_14 k12_15 k12_16 k12_17 k12_18 k12_19 k12_20 k12_21 k12_22 k12_23 Bw12 G13 o13 b13 hA13 hs13
    generalize w13.heap.size = g13 at *
    have k13_0 := fun p : Past W13 => Past.cell (W := W13) c13_0 hc13_0 p
    have k13_1 := fun p : Past W13 => Past.cell (W := W13) c13_1 hc13_1 p
    have k13_2 := fun p : Past W13 => Past.cell (W := W13) c13_2 hc13_2 p
    have k13_3 := fun p : Past W13 => Past.cell (W := W13) c13_3 hc13_3 p
    have k13_4 := fun p : Past W13 => Past.cell (W := W13) c13_4 hc13_4 p
    have k13_5 := fun p : Past W13 => Past.cell (W := W13) c13_5 hc13_5 p
    have k13_6 := fun p : Past W13 => Past.cell (W := W13) c13_6 hc13_6 p
    have k13_7 := fun p : Past W13 => Past.cell (W := W13) c13_7 hc13_7 p
    have k13_8 := fun p : Past W13 => Past.cell (W := W13) c13_8 hc13_8 p
    have k13_9 := fun p : Past W13 => Past.cell (W := W13) c13_9 hc13_9 p
    have k13_10 := fun p : Past W13 => Past.cell (W := W13) c13_10 hc13_10 p
    have k13_11 := fun p : Past W13 => Past.cell (W := W13) c13_11 hc13_11 p
    have k13_12 := fun p : Past W13 => Past.cell (W := W13) c13_12 hc13_12 p
    have k13_13 := fun p : Past W13 => Past.cell (W := W13) c13_13 hc13_13 p
    have k13_14 := fun p : Past W13 => Past.cell (W := W13) c13_14 hc13_14 p
    have k13_15 := fun p : Past W13 => Past.cell (W := W13) c13_15 hc13_15 p
    have k13_16 := fun p : Past W13 => Past.cell (W := W13) c13_16 hc13_16 p
    have k13_17 := fun p : Past W13 => Past.cell (W := W13) c13_17 hc13_17 p
    have k13_18 := fun p : Past W13 => Past.cell (W := W13) c13_18 hc13_18 p
    have k13_19 := fun p : Past W13 => Past.cell (W := W13) c13_19 hc13_19 p
    have k13_20 := fun p : Past W13 => Past.cell (W := W13) c13_20 hc13_20 p
    have k13_21 := fun p : Past W13 => Past.cell (W := W13) c13_21 hc13_21 p
    have k13_22 := fun p : Past W13 => Past.cell (W := W13) c13_22 hc13_22 p
    have k13_23 := fun p : Past W13 => Past.cell (W := W13) c13_23 hc13_23 p
    have k13_24 := fun p : Past W13 => Past.cell (W := W13) c13_24 hc13_24 p
    have k13_25 := fun p : Past W13 => Past.cell (W := W13) c13_25 hc13_25 p
    have hk2 : (k2 != k2) = false := by simp
    have hk5 : (k5 != k5) = false := by simp
    have hk8 : (k8 != k8) = false := by simp
    have hk11 : (k11 != k11) = false := by simp
    have E2 := Lib.hid fun p : Past W13 => p.of (spec_eqc a2 a2 _ _ r2 r2 g2 g3 p.w (Past.reads R13_2.out hR13_2 p) (Past.reads R13_3.out hR13_3 p) (Past.len hR13_2 p) (Past.len hR13_3 p))
    rw [show (a2 == a2 && r2 == r2) = true by simp] at E2
    have E5 := Lib.hid fun p : Past W13 => p.of (spec_eqc a5 a5 _ _ r5 r5 g5 g6 p.w (Past.reads R13_5.out hR13_5 p) (Past.reads R13_6.out hR13_6 p) (Past.len hR13_5 p) (Past.len hR13_6 p))
    rw [show (a5 == a5 && r5 == r5) = true by simp] at E5
    have E8 := Lib.hid fun p : Past W13 => p.of (spec_eqc a8 a8 _ _ r8 r8 g8 g9 p.w (Past.reads R13_8.out hR13_8 p) (Past.reads R13_9.out hR13_9 p) (Past.len hR13_8 p) (Past.len hR13_9 p))
    rw [show (a8 == a8 && r8 == r8) = true by simp] at E8
    have E11 := Lib.hid fun p : Past W13 => p.of (spec_eqc a11 a11 _ _ r11 r11 g11 g12 p.w (Past.reads R13_11.out hR13_11 p) (Past.reads R13_12.out hR13_12 p) (Past.len hR13_11 p) (Past.len hR13_12 p))
    rw [show (a11 == a11 && r11 == r11) = true by simp] at E11
    obtain ⟨xO, hO⟩ : ∃ x, redO a13 r13 x13 = x := ⟨_, rfl⟩
    have IO := Lib.hid fun p : Past W13 => p.of (impl_redO a13 _ r13 x13 g13 p.w (Past.reads R13_13.out hR13_13 p) (Past.len hR13_13 p))
    rw [hO] at IO
    have SO := Lib.hid fun p : Past W13 => p.of (spec_redO a13 _ r13 x13 g13 p.w (Past.reads R13_13.out hR13_13 p) (Past.len hR13_13 p))
    rw [hO] at SO
    clear hO
    have hqO : (xO != xO) = false := by simp
    obtain ⟨xT, hT⟩ : ∃ x, redA a13 r13 x13 = x := ⟨_, rfl⟩
    have IT := Lib.hid fun p : Past W13 => p.of (impl_redA a13 _ r13 x13 g13 p.w (Past.reads R13_13.out hR13_13 p) (Past.len hR13_13 p))
    rw [hT] at IT
    have ST := Lib.hid fun p : Past W13 => p.of (spec_redA a13 _ r13 x13 g13 p.w (Past.reads R13_13.out hR13_13 p) (Past.len hR13_13 p))
    rw [hT] at ST
    clear hT
    have hqT : (xT != xT) = false := by simp
    go_wp2_with fail
    refine wp_region_pastIn (Past.start W13) (by kernel_rfl) (by kernel_rfl) ?_
    repeat (go_big_quiet_step (first | with_reducible exact E2.out _ | with_reducible exact E5.out _ | with_reducible exact E8.out _ | with_reducible exact E11.out _ | with_reducible exact IO.out _ | with_reducible exact SO.out _ | with_reducible exact IT.out _ | with_reducible exact ST.out _))
    refine wpQuiet_nil ?_
    rintro _ ⟨z1, rfl⟩
    clear E2 E5 E8 E11 IO SO IT ST hqO hqT hk2 hk5 hk8 hk11
    go_upto_region 18 with fail
    go_cut [163] (fun s163 wx => s163 = .bool false ∧ ∃ p : Past W13, wx = p.w)
    case first =>
      cases k5 with
      | false =>
        refine wp_region_pastIn z1 (by kernel_rfl) (by kernel_rfl) ?_
        repeat (go_big_quiet_step (fail))
        refine wpQuiet_nil ?_
        rintro _ ⟨z2, rfl⟩
        go_wp2_with fail
        go_meet
        exact ⟨rfl, z2, rfl⟩
      | true =>
        have hcc := (clarify_count (opt_some EN5.out ER5.out EK5.out)).2.2
        have C1 := Lib.hid fun p : Past W13 => p.ofPairs (spec_concepts a5 _ r5 g5 p.w (Past.reads R13_5.out hR13_5 p) (Past.len hR13_5 p))
        have C2 := Lib.hid fun p : Past W13 => p.ofPairs (spec_concepts a4 _ r4 g4 p.w (Past.reads R13_4.out hR13_4 p) (Past.len hR13_4 p))
        generalize concepts a5 r5 = l5 at C1 hcc
        generalize concepts a4 r4 = l4 at C2 hcc
        have hq : ((l5.length : Int) != (l4.length : Int)) = false := by rw [hcc]; simp
        clear hcc
        go_region_held3 (fun wx => wx.cell? ⟨g5, 0, none⟩ = some (.int .i64 a5) ∧ wx.cell? ⟨g5, 1, none⟩ = some (.slice p5 r5.length q5) ∧ wx.cell? ⟨g4, 0, none⟩ = some (.int .i64 a4) ∧ wx.cell? ⟨g4, 1, none⟩ = some (.slice p4 r4.length q4))
          (first | with_reducible exact ⟨k13_8 z1.drew, k13_9 z1.drew, k13_6 z1.drew, k13_7 z1.drew⟩ | with_reducible exact ⟨k13_8 m1, k13_9 m1, k13_6 m1, k13_7 m1⟩ | with_reducible exact ⟨k13_8 m2, k13_9 m2, k13_6 m2, k13_7 m2⟩)
          (first | (go_at_call 32; (with_reducible refine (C1.out z1.drew).mono ?_); rintro e _ ⟨pm1, qm1, rfl, m1, rfl, -⟩) | (go_at_call 32; (with_reducible refine (C2.out m1).mono ?_); rintro e _ ⟨pm2, qm2, rfl, m2, rfl, -⟩) | fail)
        all_goals go_wp2
        all_goals go_meet
        exact ⟨rfl, m2, rfl⟩
    case rest =>
    obtain ⟨rfl, z2, rfl⟩ := hcut
    cases k2 with
    | false =>
      have hnc := reduce_none EK2.out
      have H1 := z2.of (spec_isCtx a1 _ r1 g1 z2.w (Past.reads R13_1.out hR13_1 z2) (Past.len hR13_1 z2))
      rw [hnc] at H1
      have HH := Lib.hid H1
      clear H1 hnc
      have kz0 := k13_0 z2
      have kz1 := k13_1 z2
      go_wp2_with fail
      refine HH.out.mono ?_
      rintro e _ ⟨rfl, z3, rfl⟩
      have hbb := z3.below Bw13.out
      go_wp2_with fail
      go_ret
      exact ⟨rfl, hbb⟩
    | true =>
      have hrc := isCtx_parts (reduce_ctx (opt_some EN2.out ER2.out EK2.out))
      have hr8 := hrc.2.2.1
      have ha6 := hrc.2.1
      have ha0 := hrc.1
      clear hrc
      obtain ⟨-, hcc, hA, hO⟩ := reduce_count (opt_some EN2.out ER2.out EK2.out)
      have HO := Lib.hid fun (p : Past W13) (k : Int) => p.of (impl_redO a2 _ r2 k g2 p.w (Past.reads R13_2.out hR13_2 p) (Past.len hR13_2 p))
      have HT := Lib.hid fun (p : Past W13) (k : Int) => p.of (impl_redA a2 _ r2 k g2 p.w (Past.reads R13_2.out hR13_2 p) (Past.len hR13_2 p))
      simp only [hO] at HO
      simp only [hA] at HT
      have C1 := Lib.hid fun p : Past W13 => p.ofPairs (spec_concepts a2 _ r2 g2 p.w (Past.reads R13_2.out hR13_2 p) (Past.len hR13_2 p))
      have C2 := Lib.hid fun p : Past W13 => p.ofPairs (spec_concepts a1 _ r1 g1 p.w (Past.reads R13_1.out hR13_1 p) (Past.len hR13_1 p))
      generalize concepts a2 r2 = l2 at C1 hcc
      generalize concepts a1 r1 = l1 at C2 hcc
      have hq : ((l2.length : Int) == (l1.length : Int)) = true := by rw [hcc]; simp
      clear hcc hA hO
      have kz2 := k13_2 z2
      have kz3 := k13_3 z2
      go_wp2_with fail
      go_loopw [27] (fun i wx => ∃ k : Nat, k ≤ r2.length ∧ i = .int .i64 k ∧ ∃ p : Past W13, wx = p.w) (fun i _ => r2.length - (intOf i).toNat)
      case atStart => exact ⟨0, Nat.zero_le _, rfl, z2, rfl⟩
      case round =>
        obtain ⟨k, hk, rfl, p, rfl⟩ := hrel
        have kp2 := k13_2 p
        have kp3 := k13_3 p
        by_cases hlt : k < r2.length
        · have HK := Lib.hid (HO.out p k)
          go_wp2_with fail
          refine HK.out.mono ?_
          rintro e _ ⟨rfl, p2, rfl⟩
          go_wp2_with fail
          go_roundw
          case rel => exact ⟨k + 1, by omega, by simp, p2, rfl⟩
          case measure => simp [intOf]; omega
        · go_wp2_with fail
          go_loopw [28] (fun i wx => ∃ k : Nat, (k : Int) ≤ max a2 0 ∧ i = .int .i64 k ∧ ∃ p : Past W13, wx = p.w) (fun i _ => a2.toNat - (intOf i).toNat)
          case atStart => exact ⟨0, by omega, rfl, p, rfl⟩
          case round =>
            obtain ⟨k2, hk2, rfl, p3, rfl⟩ := hrel
            have kt2 := k13_2 p3
            have kt3 := k13_3 p3
            by_cases hl2 : (k2 : Int) < a2
            · have HK := Lib.hid (HT.out p3 k2)
              go_wp2_with fail
              refine HK.out.mono ?_
              rintro e _ ⟨rfl, p4, rfl⟩
              go_wp2_with fail
              go_roundw
              case rel => exact ⟨k2 + 1, by omega, by simp, p4, rfl⟩
              case measure => simp [intOf]; omega
            · clear HO HT
              go_wp2_with fail
              go_region_held3 (fun wx => wx.cell? ⟨g2, 0, none⟩ = some (.int .i64 a2) ∧ wx.cell? ⟨g2, 1, none⟩ = some (.slice p2 r2.length q2) ∧ wx.cell? ⟨g1, 0, none⟩ = some (.int .i64 a1) ∧ wx.cell? ⟨g1, 1, none⟩ = some (.slice p1 r1.length q1))
                (first | with_reducible exact ⟨k13_2 p3.drew, k13_3 p3.drew, k13_0 p3.drew, k13_1 p3.drew⟩ | with_reducible exact ⟨k13_2 m1, k13_3 m1, k13_0 m1, k13_1 m1⟩ | with_reducible exact ⟨k13_2 m2, k13_3 m2, k13_0 m2, k13_1 m2⟩)
                (first | (go_at_call 32; (with_reducible refine (C1.out p3.drew).mono ?_); rintro e _ ⟨pm1, qm1, rfl, m1, rfl, -⟩) | (go_at_call 32; (with_reducible refine (C2.out m1).mono ?_); rintro e _ ⟨pm2, qm2, rfl, m2, rfl, -⟩) | fail)
              have hbb := m2.below Bw13.out
              go_wp2_with fail
              go_ret
              exact ⟨rfl, hbb⟩
end Go.Proofs.Ytbpicpapkpomhaa.LRed
