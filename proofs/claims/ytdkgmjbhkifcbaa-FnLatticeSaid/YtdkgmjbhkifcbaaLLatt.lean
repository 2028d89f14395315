/-
  The law of lattices: walk.
-/
import Derived.Test.YtdkgmjbhkifcbaaDraw6
import Derived.Test.YtdkgmjbhkifcbaaLatQ
import Derived.Test.YtdkgmjbhkifcbaaPast2
import Derived.Test.YtdkgmjbhkifcbaaLBig
import Derived.Deep.RegionHeld3
import Derived.Deep.DeepCutAuto
namespace Go.Proofs.Ytdkgmjbhkifcbaa.LLatt
open Go Go.RowKit Mem Sets Ctx Draw Tab
set_option maxRecDepth 100000

theorem isBelS_ex {l : List PInt} {x y : Int} (hx : exi l x = true) (hy : exi l y = true) : isBelS l x y = und' l x.toNat y.toNat := by rw [isBelS, hx, hy]; rfl
theorem exi_of {l : List PInt} {k : Nat} (h : k < l.length) : exi l (k : Int) = true := by simp [exi]; omega
set_option maxHeartbeats 16000000 in
theorem walk (v : Value) (xs : List Int) (w : World) (hr : Reads w w.heap.size v (u8s xs)) (hx : ∀ j, j < xs.length → 0 ≤ xs.getD j 0 ∧ xs.getD j 0 ≤ 255) :
    Calls Try.prog 5 #[v] w fun e w' => e = .returned (.bool true) ∧ Below w.heap.size w w' := by
  have e0 : (u8s xs).length = xs.length := by simp [u8s]
  have HB := Lib.hid (LBig.isBig v (u8s xs) _ w hr)
  by_cases hlen : 1048576 < xs.length
  · have hd : decide (1048576 < (u8s xs).length) = true := by rw [e0]; simp; omega
    clear hr hx
    go_enter Try.func5, Try.ntmps5
    go_wp2_with fail
    refine HB.out.mono ?_
    rintro e w' ⟨rfl, hw⟩
    subst w'
    go_wp2_with fail
    go_ret
    exact ⟨rfl, Below.refl _ _⟩
  · have hd : decide (1048576 < (u8s xs).length) = false := by rw [e0]; simp; omega
    have HX := Lib.hid hx
    have R0_0 := Lib.hid hr
    have hR0_0 : w.heap.size ≤ w.heap.size := Nat.le_refl _
    have Bw0 := Lib.hid (Below.refl w.heap.size w)
    clear hr hx e0
    go_enter Try.func5, Try.ntmps5
    go_wp2_with fail
    refine HB.out.mono ?_
    rintro e w' ⟨rfl, hw⟩
    subst w'
    clear HB hd
    go_wp2_with fail
    refine (DrawMeetOf v xs w.heap.size (Past.start w).w (Past.reads R0_0.out hR0_0 (Past.start w)) (Past.len hR0_0 (Past.start w)) HX.out (by omega)).mono ?_
    rintro e w1 ⟨a1, x1, y1, u1, r1, rfl, -, o1, b1⟩
    obtain ⟨p1, q1, rfl⟩ := own_form o1
    have hA1 := (Below.refl w1.heap.size w1).alloc (Nat.le_refl _) (.cells #[.int .i64 a1, .slice p1 r1.length q1] 26)
    go_upto_region 4 with fail
    have hs1 : w1.heap.size < (w1.alloc (.cells #[.int .i64 a1, .slice p1 r1.length q1] 26)).heap.size := by simp
    have G1 := BoxAt.new w1 26 #[.int .i64 a1, .slice p1 r1.length q1]
    have bb1 := (Past.start w).h.trans ((b1.trans (hA1.mono b1.size)).mono (Past.start w).h.size)
    have sz1 := bb1.size
    have R1_0 := Lib.hid (R0_0.out.below bb1 hR0_0)
    have hR1_0 : w.heap.size ≤ (w1.alloc (.cells #[.int .i64 a1, .slice p1 r1.length q1] 26)).heap.size := Nat.le_trans hR0_0 sz1
    have Bw1 := Lib.hid (Bw0.out.trans (bb1.mono Bw0.out.size))
    have c1_0 : (w1.alloc (.cells #[.int .i64 a1, .slice p1 r1.length q1] 26)).cell? ⟨w1.heap.size, 0, none⟩ = some (.int .i64 a1) := G1.cell 0
    have hc1_0 : w1.heap.size < (w1.alloc (.cells #[.int .i64 a1, .slice p1 r1.length q1] 26)).heap.size := hs1
    have c1_1 : (w1.alloc (.cells #[.int .i64 a1, .slice p1 r1.length q1] 26)).cell? ⟨w1.heap.size, 1, none⟩ = some (.slice p1 r1.length q1) := G1.cell 1
    have hc1_1 : w1.heap.size < (w1.alloc (.cells #[.int .i64 a1, .slice p1 r1.length q1] 26)).heap.size := hs1
    have R1_1 := Lib.hid (o1.reads.below hA1 (Nat.le_refl _))
    have hR1_1 : w1.heap.size ≤ (w1.alloc (.cells #[.int .i64 a1, .slice p1 r1.length q1] 26)).heap.size := Nat.le_of_lt hs1
    generalize w1.alloc (.cells #[.int .i64 a1, .slice p1 r1.length q1] 26) = W1 at bb1 sz1 R1_0 hR1_0 Bw1 c1_0 hc1_0 c1_1 hc1_1 R1_1 hR1_1 ⊢
    clear bb1 sz1
    clear R0_0 hR0_0 Bw0 G1 o1 b1 hA1 hs1
    generalize w1.heap.size = g1 at *
    have k1_0 := fun p : Past W1 => Past.cell (W := W1) c1_0 hc1_0 p
    have k1_1 := fun p : Past W1 => Past.cell (W := W1) c1_1 hc1_1 p
    have HM := Lib.hid fun p : Past W1 => p.of (f_meet a1 _ r1 x1 y1 g1 p.w (Past.reads R1_1.out hR1_1 p) (Past.len hR1_1 p))
    have HJ := Lib.hid fun p : Past W1 => p.of (f_join a1 _ r1 x1 y1 g1 p.w (Past.reads R1_1.out hR1_1 p) (Past.len hR1_1 p))
    obtain ⟨M, hM⟩ : ∃ M, meetS a1 r1 x1 y1 = M := ⟨_, rfl⟩
    rw [hM] at HM
    have EM := Lib.hid hM
    clear hM
    obtain ⟨J, hJ⟩ : ∃ J, joinS a1 r1 x1 y1 = J := ⟨_, rfl⟩
    rw [hJ] at HJ
    have EJ := Lib.hid hJ
    clear hJ
    go_wp2_with fail
    refine (HM.out (Past.start W1)).mono ?_
    rintro e _ ⟨rfl, z1, rfl⟩
    go_wp2_with fail
    refine (HJ.out z1).mono ?_
    rintro e _ ⟨rfl, z2, rfl⟩
    go_wp2_with fail
    refine (DrawUpperCovers v xs w.heap.size z2.w (Past.reads R1_0.out hR1_0 z2) (Past.len hR1_0 z2) HX.out (by omega)).mono ?_
    rintro e w2 ⟨a2, x2, u2, r2, rfl, -, o2, b2⟩
    obtain ⟨p2, q2, rfl⟩ := own_form o2
    have hA2 := (Below.refl w2.heap.size w2).alloc (Nat.le_refl _) (.cells #[.int .i64 a2, .slice p2 r2.length q2] 26)
    go_upto_region 7 with fail
    have hs2 : w2.heap.size < (w2.alloc (.cells #[.int .i64 a2, .slice p2 r2.length q2] 26)).heap.size := by simp
    have G2 := BoxAt.new w2 26 #[.int .i64 a2, .slice p2 r2.length q2]
    have bb2 := z2.h.trans ((b2.trans (hA2.mono b2.size)).mono z2.h.size)
    have sz2 := bb2.size
    have c2_0 : (w2.alloc (.cells #[.int .i64 a2, .slice p2 r2.length q2] 26)).cell? ⟨g1, 0, none⟩ = some (.int .i64 a1) := (bb2.cell (p := ⟨g1, 0, none⟩) hc1_0).trans c1_0
    have hc2_0 : g1 < (w2.alloc (.cells #[.int .i64 a2, .slice p2 r2.length q2] 26)).heap.size := Nat.lt_of_lt_of_le hc1_0 sz2
    have c2_1 : (w2.alloc (.cells #[.int .i64 a2, .slice p2 r2.length q2] 26)).cell? ⟨g1, 1, none⟩ = some (.slice p1 r1.length q1) := (bb2.cell (p := ⟨g1, 1, none⟩) hc1_1).trans c1_1
    have hc2_1 : g1 < (w2.alloc (.cells #[.int .i64 a2, .slice p2 r2.length q2] 26)).heap.size := Nat.lt_of_lt_of_le hc1_1 sz2
    have R2_0 := Lib.hid (R1_0.out.below bb2 hR1_0)
    have hR2_0 : w.heap.size ≤ (w2.alloc (.cells #[.int .i64 a2, .slice p2 r2.length q2] 26)).heap.size := Nat.le_trans hR1_0 sz2
    have R2_1 := Lib.hid (R1_1.out.below bb2 hR1_1)
    have hR2_1 : g1 ≤ (w2.alloc (.cells #[.int .i64 a2, .slice p2 r2.length q2] 26)).heap.size := Nat.le_trans hR1_1 sz2
    have Bw2 := Lib.hid (Bw1.out.trans (bb2.mono Bw1.out.size))
    have c2_2 : (w2.alloc (.cells #[.int .i64 a2, .slice p2 r2.length q2] 26)).cell? ⟨w2.heap.size, 0, none⟩ = some (.int .i64 a2) := G2.cell 0
    have hc2_2 : w2.heap.size < (w2.alloc (.cells #[.int .i64 a2, .slice p2 r2.length q2] 26)).heap.size := hs2
    have c2_3 : (w2.alloc (.cells #[.int .i64 a2, .slice p2 r2.length q2] 26)).cell? ⟨w2.heap.size, 1, none⟩ = some (.slice p2 r2.length q2) := G2.cell 1
    have hc2_3 : w2.heap.size < (w2.alloc (.cells #[.int .i64 a2, .slice p2 r2.length q2] 26)).heap.size := hs2
    have R2_2 := Lib.hid (o2.reads.below hA2 (Nat.le_refl _))
    have hR2_2 : w2.heap.size ≤ (w2.alloc (.cells #[.int .i64 a2, .slice p2 r2.length q2] 26)).heap.size := Nat.le_of_lt hs2
    generalize w2.alloc (.cells #[.int .i64 a2, .slice p2 r2.length q2] 26) = W2 at bb2 sz2 c2_0 hc2_0 c2_1 hc2_1 R2_0 hR2_0 R2_1 hR2_1 Bw2 c2_2 hc2_2 c2_3 hc2_3 R2_2 hR2_2 ⊢
    clear bb2 sz2
    clear c1_0 c1_1 hc1_0 hc1_1 R1_0 R1_1 hR1_0 hR1_1 k1_0 k1_1 Bw1 G2 o2 b2 hA2 hs2
    generalize w2.heap.size = g2 at *
    have k2_0 := fun p : Past W2 => Past.cell (W := W2) c2_0 hc2_0 p
    have k2_1 := fun p : Past W2 => Past.cell (W := W2) c2_1 hc2_1 p
    have k2_2 := fun p : Past W2 => Past.cell (W := W2) c2_2 hc2_2 p
    have k2_3 := fun p : Past W2 => Past.cell (W := W2) c2_3 hc2_3 p
    clear HM HJ z1 z2
    obtain ⟨xu, hxu⟩ : ∃ xu, covL (concepts a2 r2) true x2 = xu := ⟨_, rfl⟩
    have hlxu : xu.length ≤ 256 := by rw [← hxu]; exact Nat.le_trans (covL_len _ _ _) (concepts_len _ _)
    have Exu := Lib.hid hxu
    clear hxu
    obtain ⟨xl, hxl⟩ : ∃ xl, covL (concepts a2 r2) false x2 = xl := ⟨_, rfl⟩
    have hlxl : xl.length ≤ 256 := by rw [← hxl]; exact Nat.le_trans (covL_len _ _ _) (concepts_len _ _)
    have Exl := Lib.hid hxl
    clear hxl
    have HU := Lib.hid fun p : Past W2 => p.ofInts (f_up a2 _ r2 x2 g2 p.w (Past.reads R2_2.out hR2_2 p) (Past.len hR2_2 p))
    rw [Exu.out] at HU
    go_wp2_with fail
    refine (HU.out (Past.start W2)).mono ?_
    rintro e _ ⟨pxu, cxu, rfl, z3, rfl, hrxu⟩
    have bb3 := z3.h
    have sz3 := bb3.size
    have c3_0 : (z3.w).cell? ⟨g1, 0, none⟩ = some (.int .i64 a1) := (bb3.cell (p := ⟨g1, 0, none⟩) hc2_0).trans c2_0
    have hc3_0 : g1 < (z3.w).heap.size := Nat.lt_of_lt_of_le hc2_0 sz3
    have c3_1 : (z3.w).cell? ⟨g1, 1, none⟩ = some (.slice p1 r1.length q1) := (bb3.cell (p := ⟨g1, 1, none⟩) hc2_1).trans c2_1
    have hc3_1 : g1 < (z3.w).heap.size := Nat.lt_of_lt_of_le hc2_1 sz3
    have c3_2 : (z3.w).cell? ⟨g2, 0, none⟩ = some (.int .i64 a2) := (bb3.cell (p := ⟨g2, 0, none⟩) hc2_2).trans c2_2
    have hc3_2 : g2 < (z3.w).heap.size := Nat.lt_of_lt_of_le hc2_2 sz3
    have c3_3 : (z3.w).cell? ⟨g2, 1, none⟩ = some (.slice p2 r2.length q2) := (bb3.cell (p := ⟨g2, 1, none⟩) hc2_3).trans c2_3
    have hc3_3 : g2 < (z3.w).heap.size := Nat.lt_of_lt_of_le hc2_3 sz3
    have R3_0 := Lib.hid (R2_0.out.below bb3 hR2_0)
    have hR3_0 : w.heap.size ≤ (z3.w).heap.size := Nat.le_trans hR2_0 sz3
    have R3_1 := Lib.hid (R2_1.out.below bb3 hR2_1)
    have hR3_1 : g1 ≤ (z3.w).heap.size := Nat.le_trans hR2_1 sz3
    have R3_2 := Lib.hid (R2_2.out.below bb3 hR2_2)
    have hR3_2 : g2 ≤ (z3.w).heap.size := Nat.le_trans hR2_2 sz3
    have Bw3 := Lib.hid (Bw2.out.trans (bb3.mono Bw2.out.size))
    have R3_3 := Lib.hid (hrxu)
    have hR3_3 : z3.w.heap.size ≤ (z3.w).heap.size := Nat.le_refl _
    generalize z3.w = W3 at bb3 sz3 c3_0 hc3_0 c3_1 hc3_1 c3_2 hc3_2 c3_3 hc3_3 R3_0 hR3_0 R3_1 hR3_1 R3_2 hR3_2 Bw3 R3_3 hR3_3 hrxu ⊢
    clear bb3 sz3
    clear c2_0 c2_1 c2_2 c2_3 hc2_0 hc2_1 hc2_2 hc2_3 R2_0 R2_1 R2_2 hR2_0 hR2_1 hR2_2 k2_0 k2_1 k2_2 k2_3 Bw2 hrxu HU z3
    skip
    have k3_0 := fun p : Past W3 => Past.cell (W := W3) c3_0 hc3_0 p
    have k3_1 := fun p : Past W3 => Past.cell (W := W3) c3_1 hc3_1 p
    have k3_2 := fun p : Past W3 => Past.cell (W := W3) c3_2 hc3_2 p
    have k3_3 := fun p : Past W3 => Past.cell (W := W3) c3_3 hc3_3 p
    have HL := Lib.hid fun p : Past W3 => p.ofInts (f_lo a2 _ r2 x2 g2 p.w (Past.reads R3_2.out hR3_2 p) (Past.len hR3_2 p))
    rw [Exl.out] at HL
    go_wp2_with fail
    refine (HL.out (Past.start W3)).mono ?_
    rintro e _ ⟨pxl, cxl, rfl, z4, rfl, hrxl⟩
    have bb4 := z4.h
    have sz4 := bb4.size
    have c4_0 : (z4.w).cell? ⟨g1, 0, none⟩ = some (.int .i64 a1) := (bb4.cell (p := ⟨g1, 0, none⟩) hc3_0).trans c3_0
    have hc4_0 : g1 < (z4.w).heap.size := Nat.lt_of_lt_of_le hc3_0 sz4
    have c4_1 : (z4.w).cell? ⟨g1, 1, none⟩ = some (.slice p1 r1.length q1) := (bb4.cell (p := ⟨g1, 1, none⟩) hc3_1).trans c3_1
    have hc4_1 : g1 < (z4.w).heap.size := Nat.lt_of_lt_of_le hc3_1 sz4
    have c4_2 : (z4.w).cell? ⟨g2, 0, none⟩ = some (.int .i64 a2) := (bb4.cell (p := ⟨g2, 0, none⟩) hc3_2).trans c3_2
    have hc4_2 : g2 < (z4.w).heap.size := Nat.lt_of_lt_of_le hc3_2 sz4
    have c4_3 : (z4.w).cell? ⟨g2, 1, none⟩ = some (.slice p2 r2.length q2) := (bb4.cell (p := ⟨g2, 1, none⟩) hc3_3).trans c3_3
    have hc4_3 : g2 < (z4.w).heap.size := Nat.lt_of_lt_of_le hc3_3 sz4
    have R4_0 := Lib.hid (R3_0.out.below bb4 hR3_0)
    have hR4_0 : w.heap.size ≤ (z4.w).heap.size := Nat.le_trans hR3_0 sz4
    have R4_1 := Lib.hid (R3_1.out.below bb4 hR3_1)
    have hR4_1 : g1 ≤ (z4.w).heap.size := Nat.le_trans hR3_1 sz4
    have R4_2 := Lib.hid (R3_2.out.below bb4 hR3_2)
    have hR4_2 : g2 ≤ (z4.w).heap.size := Nat.le_trans hR3_2 sz4
    have R4_3 := Lib.hid (R3_3.out.below bb4 hR3_3)
    have hR4_3 : W3.heap.size ≤ (z4.w).heap.size := Nat.le_trans hR3_3 sz4
    have Bw4 := Lib.hid (Bw3.out.trans (bb4.mono Bw3.out.size))
    have R4_4 := Lib.hid (hrxl)
    have hR4_4 : z4.w.heap.size ≤ (z4.w).heap.size := Nat.le_refl _
    generalize z4.w = W4 at bb4 sz4 c4_0 hc4_0 c4_1 hc4_1 c4_2 hc4_2 c4_3 hc4_3 R4_0 hR4_0 R4_1 hR4_1 R4_2 hR4_2 R4_3 hR4_3 Bw4 R4_4 hR4_4 hrxl ⊢
    clear bb4 sz4
    clear c3_0 c3_1 c3_2 c3_3 hc3_0 hc3_1 hc3_2 hc3_3 R3_0 R3_1 R3_2 R3_3 hR3_0 hR3_1 hR3_2 hR3_3 k3_0 k3_1 k3_2 k3_3 Bw3 hrxl HL z4
    skip
    have k4_0 := fun p : Past W4 => Past.cell (W := W4) c4_0 hc4_0 p
    have k4_1 := fun p : Past W4 => Past.cell (W := W4) c4_1 hc4_1 p
    have k4_2 := fun p : Past W4 => Past.cell (W := W4) c4_2 hc4_2 p
    have k4_3 := fun p : Past W4 => Past.cell (W := W4) c4_3 hc4_3 p
    go_wp2_with fail
    refine (DrawTopOf v xs w.heap.size (Past.start W4).w (Past.reads R4_0.out hR4_0 (Past.start W4)) (Past.len hR4_0 (Past.start W4)) HX.out (by omega)).mono ?_
    rintro e w3 ⟨a3, u3, r3, rfl, -, o3, b3⟩
    obtain ⟨p3, q3, rfl⟩ := own_form o3
    have hA3 := (Below.refl w3.heap.size w3).alloc (Nat.le_refl _) (.cells #[.int .i64 a3, .slice p3 r3.length q3] 26)
    have hs3 : w3.heap.size < (w3.alloc (.cells #[.int .i64 a3, .slice p3 r3.length q3] 26)).heap.size := by simp
    have G3 := BoxAt.new w3 26 #[.int .i64 a3, .slice p3 r3.length q3]
    have bb5 := (Past.start W4).h.trans ((b3.trans (hA3.mono b3.size)).mono (Past.start W4).h.size)
    have sz5 := bb5.size
    have c5_0 : (w3.alloc (.cells #[.int .i64 a3, .slice p3 r3.length q3] 26)).cell? ⟨g1, 0, none⟩ = some (.int .i64 a1) := (bb5.cell (p := ⟨g1, 0, none⟩) hc4_0).trans c4_0
    have hc5_0 : g1 < (w3.alloc (.cells #[.int .i64 a3, .slice p3 r3.length q3] 26)).heap.size := Nat.lt_of_lt_of_le hc4_0 sz5
    have c5_1 : (w3.alloc (.cells #[.int .i64 a3, .slice p3 r3.length q3] 26)).cell? ⟨g1, 1, none⟩ = some (.slice p1 r1.length q1) := (bb5.cell (p := ⟨g1, 1, none⟩) hc4_1).trans c4_1
    have hc5_1 : g1 < (w3.alloc (.cells #[.int .i64 a3, .slice p3 r3.length q3] 26)).heap.size := Nat.lt_of_lt_of_le hc4_1 sz5
    have c5_2 : (w3.alloc (.cells #[.int .i64 a3, .slice p3 r3.length q3] 26)).cell? ⟨g2, 0, none⟩ = some (.int .i64 a2) := (bb5.cell (p := ⟨g2, 0, none⟩) hc4_2).trans c4_2
    have hc5_2 : g2 < (w3.alloc (.cells #[.int .i64 a3, .slice p3 r3.length q3] 26)).heap.size := Nat.lt_of_lt_of_le hc4_2 sz5
    have c5_3 : (w3.alloc (.cells #[.int .i64 a3, .slice p3 r3.length q3] 26)).cell? ⟨g2, 1, none⟩ = some (.slice p2 r2.length q2) := (bb5.cell (p := ⟨g2, 1, none⟩) hc4_3).trans c4_3
    have hc5_3 : g2 < (w3.alloc (.cells #[.int .i64 a3, .slice p3 r3.length q3] 26)).heap.size := Nat.lt_of_lt_of_le hc4_3 sz5
    have R5_0 := Lib.hid (R4_0.out.below bb5 hR4_0)
    have hR5_0 : w.heap.size ≤ (w3.alloc (.cells #[.int .i64 a3, .slice p3 r3.length q3] 26)).heap.size := Nat.le_trans hR4_0 sz5
    have R5_1 := Lib.hid (R4_1.out.below bb5 hR4_1)
    have hR5_1 : g1 ≤ (w3.alloc (.cells #[.int .i64 a3, .slice p3 r3.length q3] 26)).heap.size := Nat.le_trans hR4_1 sz5
    have R5_2 := Lib.hid (R4_2.out.below bb5 hR4_2)
    have hR5_2 : g2 ≤ (w3.alloc (.cells #[.int .i64 a3, .slice p3 r3.length q3] 26)).heap.size := Nat.le_trans hR4_2 sz5
    have R5_3 := Lib.hid (R4_3.out.below bb5 hR4_3)
    have hR5_3 : W3.heap.size ≤ (w3.alloc (.cells #[.int .i64 a3, .slice p3 r3.length q3] 26)).heap.size := Nat.le_trans hR4_3 sz5
    have R5_4 := Lib.hid (R4_4.out.below bb5 hR4_4)
    have hR5_4 : W4.heap.size ≤ (w3.alloc (.cells #[.int .i64 a3, .slice p3 r3.length q3] 26)).heap.size := Nat.le_trans hR4_4 sz5
    have Bw5 := Lib.hid (Bw4.out.trans (bb5.mono Bw4.out.size))
    have c5_4 : (w3.alloc (.cells #[.int .i64 a3, .slice p3 r3.length q3] 26)).cell? ⟨w3.heap.size, 0, none⟩ = some (.int .i64 a3) := G3.cell 0
    have hc5_4 : w3.heap.size < (w3.alloc (.cells #[.int .i64 a3, .slice p3 r3.length q3] 26)).heap.size := hs3
    have c5_5 : (w3.alloc (.cells #[.int .i64 a3, .slice p3 r3.length q3] 26)).cell? ⟨w3.heap.size, 1, none⟩ = some (.slice p3 r3.length q3) := G3.cell 1
    have hc5_5 : w3.heap.size < (w3.alloc (.cells #[.int .i64 a3, .slice p3 r3.length q3] 26)).heap.size := hs3
    have R5_5 := Lib.hid (o3.reads.below hA3 (Nat.le_refl _))
    have hR5_5 : w3.heap.size ≤ (w3.alloc (.cells #[.int .i64 a3, .slice p3 r3.length q3] 26)).heap.size := Nat.le_of_lt hs3
    go_wp2_with fail
    generalize w3.alloc (.cells #[.int .i64 a3, .slice p3 r3.length q3] 26) = W5 at bb5 sz5 c5_0 hc5_0 c5_1 hc5_1 c5_2 hc5_2 c5_3 hc5_3 R5_0 hR5_0 R5_1 hR5_1 R5_2 hR5_2 R5_3 hR5_3 R5_4 hR5_4 Bw5 c5_4 hc5_4 c5_5 hc5_5 R5_5 hR5_5 ⊢
    clear bb5 sz5
    clear c4_0 c4_1 c4_2 c4_3 hc4_0 hc4_1 hc4_2 hc4_3 R4_0 R4_1 R4_2 R4_3 R4_4 hR4_0 hR4_1 hR4_2 hR4_3 hR4_4 k4_0 k4_1 k4_2 k4_3 Bw4 G3 o3 b3 hA3 hs3
    generalize w3.heap.size = g3 at *
    have k5_0 := fun p : Past W5 => Past.cell (W := W5) c5_0 hc5_0 p
    have k5_1 := fun p : Past W5 => Past.cell (W := W5) c5_1 hc5_1 p
    have k5_2 := fun p : Past W5 => Past.cell (W := W5) c5_2 hc5_2 p
    have k5_3 := fun p : Past W5 => Past.cell (W := W5) c5_3 hc5_3 p
    have k5_4 := fun p : Past W5 => Past.cell (W := W5) c5_4 hc5_4 p
    have k5_5 := fun p : Past W5 => Past.cell (W := W5) c5_5 hc5_5 p
    have hqM : (M != M) = false := by simp
    have hqJ : (J != J) = false := by simp
    have SM := Lib.hid fun p : Past W5 => p.of (spec_meet a1 _ r1 x1 y1 g1 p.w (Past.reads R5_1.out hR5_1 p) (Past.len hR5_1 p))
    rw [EM.out] at SM
    have SJ := Lib.hid fun p : Past W5 => p.of (spec_join a1 _ r1 x1 y1 g1 p.w (Past.reads R5_1.out hR5_1 p) (Past.len hR5_1 p))
    rw [EJ.out] at SJ
    have SU := Lib.hid fun p : Past W5 => p.ofInts (spec_up a2 _ r2 x2 g2 p.w (Past.reads R5_2.out hR5_2 p) (Past.len hR5_2 p))
    rw [Exu.out] at SU
    have SL := Lib.hid fun p : Past W5 => p.ofInts (spec_lo a2 _ r2 x2 g2 p.w (Past.reads R5_2.out hR5_2 p) (Past.len hR5_2 p))
    rw [Exl.out] at SL
    obtain ⟨BB, hBB⟩ : ∃ BB, isBelS (concepts a1 r1) x1 y1 = BB := ⟨_, rfl⟩
    have EBB := Lib.hid hBB
    clear hBB
    have IB := Lib.hid fun p : Past W5 => p.of (f_isBelow a1 _ r1 x1 y1 g1 p.w (Past.reads R5_1.out hR5_1 p) (Past.len hR5_1 p))
    rw [EBB.out] at IB
    have SB := Lib.hid fun p : Past W5 => p.of (spec_isBelow a1 _ r1 x1 y1 g1 p.w (Past.reads R5_1.out hR5_1 p) (Past.len hR5_1 p))
    rw [EBB.out] at SB
    have hqB : (BB != BB) = false := by simp
    obtain ⟨TT, hTT⟩ : ∃ TT, (if isCtx a3 r3 = true then (0 : Int) else -1) = TT := ⟨_, rfl⟩
    have ETT := Lib.hid hTT
    clear hTT
    have ITT := Lib.hid fun p : Past W5 => p.of (impl_top a3 _ r3 g3 p.w (Past.reads R5_5.out hR5_5 p) (Past.len hR5_5 p))
    rw [ETT.out] at ITT
    have STT := Lib.hid fun p : Past W5 => p.of (spec_top a3 _ r3 g3 p.w (Past.reads R5_5.out hR5_5 p) (Past.len hR5_5 p))
    rw [ETT.out] at STT
    have hqTT : (TT != TT) = false := by simp
    obtain ⟨OO, hOO⟩ : ∃ OO, ((concepts a3 r3).length : Int) - 1 = OO := ⟨_, rfl⟩
    have EOO := Lib.hid hOO
    clear hOO
    have IOO := Lib.hid fun p : Past W5 => p.of (f_bottom a3 _ r3 g3 p.w (Past.reads R5_5.out hR5_5 p) (Past.len hR5_5 p))
    rw [EOO.out] at IOO
    have SOO := Lib.hid fun p : Past W5 => p.of (spec_bottom a3 _ r3 g3 p.w (Past.reads R5_5.out hR5_5 p) (Past.len hR5_5 p))
    rw [EOO.out] at SOO
    have hqOO : (OO != OO) = false := by simp
    obtain ⟨HH, hHH⟩ : ∃ HH, hgt (concepts a3 r3) (concepts a3 r3).length = HH := ⟨_, rfl⟩
    have EHH := Lib.hid hHH
    clear hHH
    have IHH := Lib.hid fun p : Past W5 => p.of (f_height a3 _ r3 g3 p.w (Past.reads R5_5.out hR5_5 p) (Past.len hR5_5 p))
    rw [EHH.out] at IHH
    have SHH := Lib.hid fun p : Past W5 => p.of (spec_height a3 _ r3 g3 p.w (Past.reads R5_5.out hR5_5 p) (Past.len hR5_5 p))
    rw [EHH.out] at SHH
    have hqHH : (HH != HH) = false := by simp
    obtain ⟨DD, hDD⟩ : ∃ DD, ((edS (concepts a3 r3) (concepts a3 r3).length : Nat) : Int) = DD := ⟨_, rfl⟩
    have EDD := Lib.hid hDD
    clear hDD
    have IDD := Lib.hid fun p : Past W5 => p.of (f_edges a3 _ r3 g3 p.w (Past.reads R5_5.out hR5_5 p) (Past.len hR5_5 p))
    rw [EDD.out] at IDD
    have SDD := Lib.hid fun p : Past W5 => p.of (spec_edges a3 _ r3 g3 p.w (Past.reads R5_5.out hR5_5 p) (Past.len hR5_5 p))
    rw [EDD.out] at SDD
    have hqDD : (DD != DD) = false := by simp
    dsimp only [List.append]
    go_region_held3 (fun wx => wx.cell? ⟨g1, 0, none⟩ = some (.int .i64 a1) ∧ wx.cell? ⟨g1, 1, none⟩ = some (.slice p1 r1.length q1) ∧ wx.cell? ⟨g2, 0, none⟩ = some (.int .i64 a2) ∧ wx.cell? ⟨g2, 1, none⟩ = some (.slice p2 r2.length q2) ∧ wx.cell? ⟨g3, 0, none⟩ = some (.int .i64 a3) ∧ wx.cell? ⟨g3, 1, none⟩ = some (.slice p3 r3.length q3))
      (first | with_reducible exact ⟨k5_0 ((Past.start W5).drew), k5_1 ((Past.start W5).drew), k5_2 ((Past.start W5).drew), k5_3 ((Past.start W5).drew), k5_4 ((Past.start W5).drew), k5_5 ((Past.start W5).drew)⟩ | with_reducible exact ⟨k5_0 s1, k5_1 s1, k5_2 s1, k5_3 s1, k5_4 s1, k5_5 s1⟩ | with_reducible exact ⟨k5_0 s2, k5_1 s2, k5_2 s2, k5_3 s2, k5_4 s2, k5_5 s2⟩ | with_reducible exact ⟨k5_0 s3, k5_1 s3, k5_2 s3, k5_3 s3, k5_4 s3, k5_5 s3⟩ | with_reducible exact ⟨k5_0 s4, k5_1 s4, k5_2 s4, k5_3 s4, k5_4 s4, k5_5 s4⟩ | with_reducible exact ⟨k5_0 s5, k5_1 s5, k5_2 s5, k5_3 s5, k5_4 s5, k5_5 s5⟩ | with_reducible exact ⟨k5_0 s6, k5_1 s6, k5_2 s6, k5_3 s6, k5_4 s6, k5_5 s6⟩ | with_reducible exact ⟨k5_0 s7, k5_1 s7, k5_2 s7, k5_3 s7, k5_4 s7, k5_5 s7⟩ | with_reducible exact ⟨k5_0 s8, k5_1 s8, k5_2 s8, k5_3 s8, k5_4 s8, k5_5 s8⟩ | with_reducible exact ⟨k5_0 s9, k5_1 s9, k5_2 s9, k5_3 s9, k5_4 s9, k5_5 s9⟩ | with_reducible exact ⟨k5_0 s10, k5_1 s10, k5_2 s10, k5_3 s10, k5_4 s10, k5_5 s10⟩ | with_reducible exact ⟨k5_0 s11, k5_1 s11, k5_2 s11, k5_3 s11, k5_4 s11, k5_5 s11⟩ | with_reducible exact ⟨k5_0 s12, k5_1 s12, k5_2 s12, k5_3 s12, k5_4 s12, k5_5 s12⟩ | with_reducible exact ⟨k5_0 s13, k5_1 s13, k5_2 s13, k5_3 s13, k5_4 s13, k5_5 s13⟩ | with_reducible exact ⟨k5_0 s14, k5_1 s14, k5_2 s14, k5_3 s14, k5_4 s14, k5_5 s14⟩ | with_reducible exact ⟨k5_0 s15, k5_1 s15, k5_2 s15, k5_3 s15, k5_4 s15, k5_5 s15⟩ | with_reducible exact ⟨k5_0 s16, k5_1 s16, k5_2 s16, k5_3 s16, k5_4 s16, k5_5 s16⟩)
      (first | (go_at_call 60; with_reducible refine (SM.out ((Past.start W5).drew)).mono ?_; rintro e _ ⟨rfl, s1, rfl⟩) | (go_at_call 61; with_reducible refine (SJ.out s1).mono ?_; rintro e _ ⟨rfl, s2, rfl⟩) | (go_at_call 63; with_reducible refine (SU.out s2).mono ?_; rintro e _ ⟨ppxu, ccxu, rfl, s3, rfl, hs3⟩) | (go_at_call 62; with_reducible refine (s3.of (same_ _ _ xu W3.heap.size s3.w.heap.size s3.w (Past.reads R5_3.out hR5_3 s3) hs3 (Past.len hR5_3 s3) (Nat.le_refl _) (by omega))).mono ?_; rintro e _ ⟨rfl, s4, rfl⟩) | (go_at_call 64; with_reducible refine (SL.out s4).mono ?_; rintro e _ ⟨ppxl, ccxl, rfl, s5, rfl, hs5⟩) | (go_at_call 62; with_reducible refine (s5.of (same_ _ _ xl W4.heap.size s5.w.heap.size s5.w (Past.reads R5_4.out hR5_4 s5) hs5 (Past.len hR5_4 s5) (Nat.le_refl _) (by omega))).mono ?_; rintro e _ ⟨rfl, s6, rfl⟩) | (go_at_call 65; with_reducible refine (IB.out s6).mono ?_; rintro e _ ⟨rfl, s7, rfl⟩) | (go_at_call 66; with_reducible refine (SB.out s7).mono ?_; rintro e _ ⟨rfl, s8, rfl⟩) | (go_at_call 67; with_reducible refine (ITT.out s8).mono ?_; rintro e _ ⟨rfl, s9, rfl⟩) | (go_at_call 68; with_reducible refine (STT.out s9).mono ?_; rintro e _ ⟨rfl, s10, rfl⟩) | (go_at_call 69; with_reducible refine (IOO.out s10).mono ?_; rintro e _ ⟨rfl, s11, rfl⟩) | (go_at_call 70; with_reducible refine (SOO.out s11).mono ?_; rintro e _ ⟨rfl, s12, rfl⟩) | (go_at_call 71; with_reducible refine (IHH.out s12).mono ?_; rintro e _ ⟨rfl, s13, rfl⟩) | (go_at_call 72; with_reducible refine (SHH.out s13).mono ?_; rintro e _ ⟨rfl, s14, rfl⟩) | (go_at_call 73; with_reducible refine (IDD.out s14).mono ?_; rintro e _ ⟨rfl, s15, rfl⟩) | (go_at_call 74; with_reducible refine (SDD.out s15).mono ?_; rintro e _ ⟨rfl, s16, rfl⟩) | fail)
    clear SM SJ SU SL IB SB ITT STT IOO SOO IHH SHH IDD SDD hqTT hqOO hqHH hqDD hqB hqM hqJ
    go_wp2_with fail
    go_loopw [13] (fun i wr => ∃ k : Nat, i = .int .i64 k ∧ k ≤ xu.length ∧ ∃ p : Past W5, wr = p.w) (fun i _ => xu.length - (intOf i).toNat)
    case atStart => exact ⟨0, rfl, by omega, s16, rfl⟩
    case round =>
      obtain ⟨k, rfl, hk, p, rfl⟩ := hrel
      by_cases hkn : k < xu.length
      · have hne : ints xu ≠ [] := fun e => by have h1 := congrArg List.length e; simp at h1; rw [h1] at hkn; simp at hkn
        obtain ⟨-, a', c', hform, hcells⟩ := R5_3.out
        obtain ⟨ee, -, -⟩ := Value.slice.inj hform
        subst ee
        clear hform
        obtain ⟨bu, ou, rfl, hbu, hcu⟩ := hcells hne
        have cy := hcu k (by simpa using hkn)
        rw [Mem.get_at xu k hkn] at cy
        clear hcu hcells hne
        have hy : xu.getD k 0 ∈ xu := by rw [List.getD_eq_getElem?_getD, List.getElem?_eq_getElem hkn]; exact List.getElem_mem hkn
        generalize xu.getD k 0 = y at cy hy
        have hF := up_facts (l := concepts a2 r2) (x := x2) (y := y) (by rw [Exu.out]; exact hy)
        obtain ⟨hf1, hf2, hf3⟩ := hF
        have ky := fun q : Past W5 => Past.cell (W := W5) cy (Nat.lt_of_lt_of_le hbu hR5_3) q
        have IB := Lib.hid fun p : Past W5 => p.of (f_isBelow a2 _ r2 x2 y g2 p.w (Past.reads R5_2.out hR5_2 p) (Past.len hR5_2 p))
        rw [hf1] at IB
        have IL := Lib.hid fun p : Past W5 => p.ofInts (f_lo a2 _ r2 y g2 p.w (Past.reads R5_2.out hR5_2 p) (Past.len hR5_2 p))
        have hly : (covL (concepts a2 r2) false y).length ≤ 256 := Nat.le_trans (covL_len _ _ _) (concepts_len _ _)
        generalize covL (concepts a2 r2) false y = xy at IL hf3 hly
        have HMEM := Lib.hid hf3
        have hk0 : (0 : Int) ≤ (k : Int) := by omega
        have hk1 : (k : Int) < (xu.length : Int) := by omega
        clear hf1 hf3 hy cy
        go_wp2_with fail
        go_region_held3 (fun wx => wx.cell? ⟨g2, 0, none⟩ = some (.int .i64 a2) ∧ wx.cell? ⟨g2, 1, none⟩ = some (.slice p2 r2.length q2) ∧ wx.cell? ⟨bu, ou + k, none⟩ = some (.int .i64 y))
          (first | with_reducible exact ⟨k5_2 p.drew, k5_3 p.drew, ky p.drew⟩ | with_reducible exact ⟨k5_2 m1, k5_3 m1, ky m1⟩ | with_reducible exact ⟨k5_2 m2, k5_3 m2, ky m2⟩)
          (first | (go_at_call 65; with_reducible refine (IB.out p.drew).mono ?_; rintro e _ ⟨rfl, m1, rfl⟩) | (go_at_call 58; with_reducible refine (IL.out m1).mono ?_; rintro e _ ⟨py, qy, rfl, m2, rfl, hry⟩) | (go_at_call 75; with_reducible refine (hasInt_ _ xy x2 m2.w.heap.size m2.w hry (Nat.le_refl _) (by omega) HMEM.out).mono ?_; rintro e _ ⟨rfl, rfl⟩) | fail)
        go_wp2_with fail
        exact ⟨⟨k + 1, by simp, by omega, m2, rfl⟩, by simp only [intOf]; omega⟩
      · have hke : k = xu.length := by omega
        subst hke
        clear hk hkn
        by_cases hxy : exi (concepts a1 r1) x1 = true ∧ exi (concepts a1 r1) y1 = true
        · obtain ⟨km, hkm, hme, hmall⟩ := meet_good hxy.1 hxy.2
          obtain ⟨kj, hkj, hje, hjall⟩ := join_good hxy.1 hxy.2
          rw [EM.out] at hme
          rw [EJ.out] at hje
          subst hme
          subst hje
          obtain ⟨i1, rfl, hi1⟩ := exi_nat hxy.1
          obtain ⟨j1, rfl, hj1⟩ := exi_nat hxy.2
          simp only [Int.toNat_natCast] at hmall hjall
          have hln : (concepts a1 r1).length ≤ 64 := concepts_64 a1 r1
          have HC := Lib.hid fun p : Past W5 => p.ofPairs (spec_concepts a1 _ r1 g1 p.w (Past.reads R5_1.out hR5_1 p) (Past.len hR5_1 p))
          have HIB := Lib.hid fun (p : Past W5) (s t : Int) => p.of (f_isBelow a1 _ r1 s t g1 p.w (Past.reads R5_1.out hR5_1 p) (Past.len hR5_1 p))
          have HSB := Lib.hid fun (p : Past W5) (s t : Int) => p.of (spec_isBelow a1 _ r1 s t g1 p.w (Past.reads R5_1.out hR5_1 p) (Past.len hR5_1 p))
          have HVB : Hid (∀ i j : Nat, i < (concepts a1 r1).length → j < (concepts a1 r1).length → isBelS (concepts a1 r1) i j = und' (concepts a1 r1) i j) := Lib.hid fun i j hi hj => isBelS_ex (exi_of hi) (exi_of hj)
          have hm1 := hmall km hkm
          have hj2 := hjall kj hkj
          rw [und_refl hkm] at hm1
          rw [und_refl hkj] at hj2
          have hm2 := Bool.and_eq_true_iff.1 hm1.symm
          have hj3 := Bool.and_eq_true_iff.1 hj2.symm
          generalize concepts a1 r1 = l at *
          obtain ⟨n, hn⟩ : ∃ n, l.length = n := ⟨_, rfl⟩
          rw [hn] at HC hln hkm hkj hi1 hj1 hmall hjall HVB
          have HMA := Lib.hid hmall
          have HJA := Lib.hid hjall
          clear hmall hjall hm1 hj2 hxy EM EJ hn
          go_wp2_with fail
          refine (HC.out p).mono ?_
          rintro e _ ⟨pc, qc, rfl, p6, rfl, -⟩
          go_wp2_with fail
          go_loopw [15] (fun i wr => ∃ k : Nat, i = .int .i64 k ∧ k ≤ n ∧ ∃ p : Past W5, wr = p.w) (fun i _ => n - (intOf i).toNat)
          case atStart => exact ⟨0, rfl, by omega, p6, rfl⟩
          case round =>
            obtain ⟨i, rfl, hi, p7, rfl⟩ := hrel
            by_cases hin : i < n
            · have B1 := Lib.hid fun p : Past W5 => HSB.out p (i : Int) (i1 : Int)
              rw [HVB.out _ _ (by omega) (by omega)] at B1
              have B2 := Lib.hid fun p : Past W5 => HSB.out p (i : Int) (j1 : Int)
              rw [HVB.out _ _ (by omega) (by omega)] at B2
              have B3 := Lib.hid fun p : Past W5 => HSB.out p (i : Int) (km : Int)
              rw [HVB.out _ _ (by omega) (by omega)] at B3
              have B4 := Lib.hid fun p : Past W5 => HSB.out p (i1 : Int) (i : Int)
              rw [HVB.out _ _ (by omega) (by omega)] at B4
              have B5 := Lib.hid fun p : Past W5 => HSB.out p (j1 : Int) (i : Int)
              rw [HVB.out _ _ (by omega) (by omega)] at B5
              have B6 := Lib.hid fun p : Past W5 => HSB.out p (kj : Int) (i : Int)
              rw [HVB.out _ _ (by omega) (by omega)] at B6
              rw [HMA.out i hin] at B3
              rw [HJA.out i hin] at B6
              obtain ⟨t0, ht0⟩ : ∃ t, und' l i i1 = t := ⟨_, rfl⟩
              obtain ⟨t1, ht1⟩ : ∃ t, und' l i j1 = t := ⟨_, rfl⟩
              obtain ⟨t2, ht2⟩ : ∃ t, und' l i1 i = t := ⟨_, rfl⟩
              obtain ⟨t3, ht3⟩ : ∃ t, und' l j1 i = t := ⟨_, rfl⟩
              rw [ht0] at B1 B3
              rw [ht1] at B2 B3
              rw [ht2] at B4 B6
              rw [ht3] at B5 B6
              clear ht0 ht1 ht2 ht3
              have hq1 : (t1 != t1) = false := by simp
              have hq3 : (t3 != t3) = false := by simp
              cases t0 <;> cases t2
              · simp only [Bool.false_and] at B3 B6
                go_wp2_with fail
                refine wp_region_pastIn p7 (by kernel_rfl) (by kernel_rfl) ?_
                repeat (go_big_quiet_step (first | with_reducible exact B1.out _ | with_reducible exact B2.out _ | with_reducible exact B3.out _ | with_reducible exact B4.out _ | with_reducible exact B5.out _ | with_reducible exact B6.out _))
                refine wpQuiet_nil ?_
                rintro _ ⟨p8, rfl⟩
                go_wp2_with fail
                exact ⟨⟨i + 1, by simp, by omega, p8, rfl⟩, by simp only [intOf]; omega⟩
              · simp only [Bool.true_and, Bool.false_and] at B3 B6
                go_wp2_with fail
                refine wp_region_pastIn p7 (by kernel_rfl) (by kernel_rfl) ?_
                repeat (go_big_quiet_step (first | with_reducible exact B1.out _ | with_reducible exact B2.out _ | with_reducible exact B3.out _ | with_reducible exact B4.out _ | with_reducible exact B5.out _ | with_reducible exact B6.out _))
                refine wpQuiet_nil ?_
                rintro _ ⟨p8, rfl⟩
                go_wp2_with fail
                exact ⟨⟨i + 1, by simp, by omega, p8, rfl⟩, by simp only [intOf]; omega⟩
              · simp only [Bool.true_and, Bool.false_and] at B3 B6
                go_wp2_with fail
                refine wp_region_pastIn p7 (by kernel_rfl) (by kernel_rfl) ?_
                repeat (go_big_quiet_step (first | with_reducible exact B1.out _ | with_reducible exact B2.out _ | with_reducible exact B3.out _ | with_reducible exact B4.out _ | with_reducible exact B5.out _ | with_reducible exact B6.out _))
                refine wpQuiet_nil ?_
                rintro _ ⟨p8, rfl⟩
                go_wp2_with fail
                exact ⟨⟨i + 1, by simp, by omega, p8, rfl⟩, by simp only [intOf]; omega⟩
              · simp only [Bool.true_and] at B3 B6
                go_wp2_with fail
                refine wp_region_pastIn p7 (by kernel_rfl) (by kernel_rfl) ?_
                repeat (go_big_quiet_step (first | with_reducible exact B1.out _ | with_reducible exact B2.out _ | with_reducible exact B3.out _ | with_reducible exact B4.out _ | with_reducible exact B5.out _ | with_reducible exact B6.out _))
                refine wpQuiet_nil ?_
                rintro _ ⟨p8, rfl⟩
                go_wp2_with fail
                exact ⟨⟨i + 1, by simp, by omega, p8, rfl⟩, by simp only [intOf]; omega⟩
            · have hie : i = n := by omega
              subst hie
              clear hi hin
              have C1 := Lib.hid fun p : Past W5 => HIB.out p (km : Int) (i1 : Int)
              rw [HVB.out _ _ (by omega) (by omega), hm2.1] at C1
              have C2 := Lib.hid fun p : Past W5 => HIB.out p (km : Int) (j1 : Int)
              rw [HVB.out _ _ (by omega) (by omega), hm2.2] at C2
              have C3 := Lib.hid fun p : Past W5 => HIB.out p (i1 : Int) (kj : Int)
              rw [HVB.out _ _ (by omega) (by omega), hj3.1] at C3
              have C4 := Lib.hid fun p : Past W5 => HIB.out p (j1 : Int) (kj : Int)
              rw [HVB.out _ _ (by omega) (by omega), hj3.2] at C4
              go_wp2_with fail
              refine (C1.out p7).mono ?_
              rintro e _ ⟨rfl, q0, rfl⟩
              go_wp2_with fail
              refine (C2.out q0).mono ?_
              rintro e _ ⟨rfl, q1, rfl⟩
              go_wp2_with fail
              refine (C3.out q1).mono ?_
              rintro e _ ⟨rfl, q2, rfl⟩
              go_wp2_with fail
              refine (C4.out q2).mono ?_
              rintro e _ ⟨rfl, q3, rfl⟩
              have hbb := q3.below Bw5.out
              go_wp2_with fail
              go_ret
              exact ⟨rfl, hbb⟩
        · have hM1 : M = -1 := by rw [← EM.out, meetS, if_neg hxy]
          have hJ1 : J = -1 := by rw [← EJ.out, joinS, if_neg hxy]
          subst hM1
          subst hJ1
          clear EM EJ
          have hbb := p.below Bw5.out
          go_wp2_with fail
          go_ret
          exact ⟨rfl, hbb⟩
end Go.Proofs.Ytdkgmjbhkifcbaa.LLatt
