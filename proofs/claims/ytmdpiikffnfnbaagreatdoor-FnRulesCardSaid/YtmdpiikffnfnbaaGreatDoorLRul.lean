/-
  The law of rules: walk.
-/
import Derived.Test.YtmdpiikffnfnbaaGreatDoorDrawH
import Derived.Test.YtmdpiikffnfnbaaGreatDoorRuleL
import Derived.Test.YtmdpiikffnfnbaaGreatDoorRuleJ
import Derived.Test.YtmdpiikffnfnbaaGreatDoorRuleI2
import Derived.Test.YtmdpiikffnfnbaaGreatDoorRuleI3
import Derived.Test.YtmdpiikffnfnbaaGreatDoorSameR
import Derived.Test.YtmdpiikffnfnbaaGreatDoorLBig
import Derived.Deep.RegionHeld3
import Derived.Deep.DeepCutAuto
namespace Go.Proofs.YtmdpiikffnfnbaaGreatDoor.LRul
open Go Go.RowKit Mem Sets Ctx Draw Tab Rule
set_option maxRecDepth 100000

theorem rulesText_nil {l : List PInt} (h : allIn 8 l = false) : rulesText l = [] := by
  have hne : l ≠ [] := by rintro rfl; cases h
  rw [rulesText, if_neg hne, if_neg (by simp [h])]
theorem rulesText_ne {l : List PInt} (h : allIn 8 l = true) (hl : l.length ≤ 40) : rulesText l ≠ [] := by
  intro he
  have h1 := parse_rulesText h hl
  rw [he] at h1
  rw [show parseRules [] = none from by decide] at h1
  cases h1
theorem parse_len (t : List UInt8) : ((parseRules t).getD []).length ≤ 40 := by
  unfold parseRules
  split
  · simp
  · split
    · rename_i h; simpa [valsR] using h.2
    · simp
theorem isR_8 {n : Int} {p : PInt} (h : isR n p = true) : isR 8 p = true := by
  unfold isR at h ⊢
  rw [Bool.and_eq_true] at h
  rw [isSet8_true (isSet_le h.1), isSet8_true (isSet_le h.2)]; rfl
theorem allIn_8 {l : List PInt} (h : allIn 6 l = true) : allIn 8 l = true := List.all_eq_true.2 fun p hp => isR_8 (List.all_eq_true.1 h p hp)
theorem areR_in {l : List PInt} (h : areR 6 l = true) : allIn 6 l = true := by
  unfold areR at h
  rw [Bool.and_eq_true, Bool.and_eq_true] at h
  exact h.1.1
theorem areR_one {p : PInt} (h : areR 6 [p] = true) : isR 6 p = true := by
  have := areR_in h
  simpa [allIn] using this
theorem readsP_one (w : World) (x y : Int) (t : TypeId) : ReadsP (w.alloc (.cells #[.int .i64 x, .int .i64 y] t)) (w.alloc (.cells #[.int .i64 x, .int .i64 y] t)).heap.size (.slice (some ⟨w.heap.size, 0, none⟩) 1 1) [(x, y)] := by
  refine ⟨by unfold maxLen; simp, some ⟨w.heap.size, 0, none⟩, 1, rfl, fun _ => ⟨w.heap.size, 0, rfl, by simp, fun j hj => ?_⟩⟩
  obtain rfl : j = 0 := by simpa using hj
  exact ⟨by simp, by simp⟩
set_option maxHeartbeats 16000000 in
theorem walk (v : Value) (xs : List Int) (w : World) (hr : Reads w w.heap.size v (u8s xs)) (hx : ∀ j, j < xs.length → 0 ≤ xs.getD j 0 ∧ xs.getD j 0 ≤ 255) (hS : w.ShapedOpen Tryz.prog) :
    Calls Tryz.prog 3 #[v] w fun e w' => e = .returned (.bool true) ∧ Below w.heap.size w w' := by
  have e0 : (u8s xs).length = xs.length := by simp [u8s]
  have HB := Lib.hid (LBig.isBig v (u8s xs) _ w hr)
  by_cases hlen : 1048576 < xs.length
  · have hd : decide (1048576 < (u8s xs).length) = true := by rw [e0]; simp; omega
    clear hr hx hS
    go_enter Tryz.func3, Tryz.ntmps3
    go_wp2_with fail
    refine HB.out.mono ?_
    rintro e w' ⟨rfl, hw⟩
    subst w'
    go_wp2_with fail
    go_ret
    exact ⟨rfl, Below.refl _ _⟩
  · have hd : decide (1048576 < (u8s xs).length) = false := by rw [e0]; simp; omega
    have HX := Lib.hid hx
    have HSH := Lib.hid hS
    have R0_0 := Lib.hid hr
    have hR0_0 : w.heap.size ≤ w.heap.size := Nat.le_refl _
    have Bw0 := Lib.hid (Below.refl w.heap.size w)
    clear hr hx e0 hS
    go_enter Tryz.func3, Tryz.ntmps3
    go_wp2_with fail
    refine HB.out.mono ?_
    rintro e w' ⟨rfl, hw⟩
    subst w'
    clear HB hd
    go_wp2_with fail
    refine (DrawHoldsIn v xs w.heap.size (Past.start w).w (R0_0.out.below (Past.h (Past.start w)) hR0_0) (Past.len hR0_0 (Past.start w)) HX.out (by omega)).mono ?_
    rintro e w1 ⟨a1, u1, r1, ⟨x1, y1⟩, rfl, hn1, o1, b1⟩
    obtain ⟨p1, q1, rfl⟩ := own_form o1
    go_upto_region 4 with fail
    have hA1 : Below w1.heap.size w1 ((w1.alloc (.cells #[.int .i64 a1, .slice p1 r1.length q1] 26)).alloc (.cells #[.int .i64 x1, .int .i64 y1] 28)) := ((Below.refl w1.heap.size w1).alloc (Nat.le_refl _) (.cells #[.int .i64 a1, .slice p1 r1.length q1] 26)).alloc (by simp) (.cells #[.int .i64 x1, .int .i64 y1] 28)
    have hs1 : w1.heap.size + 1 < ((w1.alloc (.cells #[.int .i64 a1, .slice p1 r1.length q1] 26)).alloc (.cells #[.int .i64 x1, .int .i64 y1] 28)).heap.size := by simp
    have G1 := (BoxAt.new w1 26 #[.int .i64 a1, .slice p1 r1.length q1]).alloc (.cells #[.int .i64 x1, .int .i64 y1] 28)
    have G1b : BoxAt ((w1.alloc (.cells #[.int .i64 a1, .slice p1 r1.length q1] 26)).alloc (.cells #[.int .i64 x1, .int .i64 y1] 28)) (w1.heap.size + 1) 28 #[.int .i64 x1, .int .i64 y1] := by have := BoxAt.new (w1.alloc (.cells #[.int .i64 a1, .slice p1 r1.length q1] 26)) 28 #[.int .i64 x1, .int .i64 y1]; simpa using this
    have bb1 := (Past.start w).h.trans ((b1.trans (hA1.mono b1.size)).mono (Past.start w).h.size)
    have sz1 := bb1.size
    have R1_0 := Lib.hid (R0_0.out.below bb1 hR0_0)
    have hR1_0 : w.heap.size ≤ ((w1.alloc (.cells #[.int .i64 a1, .slice p1 r1.length q1] 26)).alloc (.cells #[.int .i64 x1, .int .i64 y1] 28)).heap.size := Nat.le_trans hR0_0 sz1
    have Bw1 := Lib.hid (Bw0.out.trans (bb1.mono Bw0.out.size))
    have c1_0 : ((w1.alloc (.cells #[.int .i64 a1, .slice p1 r1.length q1] 26)).alloc (.cells #[.int .i64 x1, .int .i64 y1] 28)).cell? ⟨w1.heap.size, 0, none⟩ = some (.int .i64 a1) := G1.cell 0
    have hc1_0 : w1.heap.size < ((w1.alloc (.cells #[.int .i64 a1, .slice p1 r1.length q1] 26)).alloc (.cells #[.int .i64 x1, .int .i64 y1] 28)).heap.size := by omega
    have c1_1 : ((w1.alloc (.cells #[.int .i64 a1, .slice p1 r1.length q1] 26)).alloc (.cells #[.int .i64 x1, .int .i64 y1] 28)).cell? ⟨w1.heap.size, 1, none⟩ = some (.slice p1 r1.length q1) := G1.cell 1
    have hc1_1 : w1.heap.size < ((w1.alloc (.cells #[.int .i64 a1, .slice p1 r1.length q1] 26)).alloc (.cells #[.int .i64 x1, .int .i64 y1] 28)).heap.size := by omega
    have c1_2 : ((w1.alloc (.cells #[.int .i64 a1, .slice p1 r1.length q1] 26)).alloc (.cells #[.int .i64 x1, .int .i64 y1] 28)).cell? ⟨w1.heap.size + 1, 0, none⟩ = some (.int .i64 x1) := G1b.cell 0
    have hc1_2 : w1.heap.size + 1 < ((w1.alloc (.cells #[.int .i64 a1, .slice p1 r1.length q1] 26)).alloc (.cells #[.int .i64 x1, .int .i64 y1] 28)).heap.size := hs1
    have c1_3 : ((w1.alloc (.cells #[.int .i64 a1, .slice p1 r1.length q1] 26)).alloc (.cells #[.int .i64 x1, .int .i64 y1] 28)).cell? ⟨w1.heap.size + 1, 1, none⟩ = some (.int .i64 y1) := G1b.cell 1
    have hc1_3 : w1.heap.size + 1 < ((w1.alloc (.cells #[.int .i64 a1, .slice p1 r1.length q1] 26)).alloc (.cells #[.int .i64 x1, .int .i64 y1] 28)).heap.size := hs1
    have R1_1 := Lib.hid (o1.reads.below hA1 (Nat.le_refl _))
    have hR1_1 : w1.heap.size ≤ ((w1.alloc (.cells #[.int .i64 a1, .slice p1 r1.length q1] 26)).alloc (.cells #[.int .i64 x1, .int .i64 y1] 28)).heap.size := by omega
    generalize (w1.alloc (.cells #[.int .i64 a1, .slice p1 r1.length q1] 26)).alloc (.cells #[.int .i64 x1, .int .i64 y1] 28) = W1 at bb1 sz1 R1_0 hR1_0 Bw1 c1_0 hc1_0 c1_1 hc1_1 c1_2 hc1_2 c1_3 hc1_3 R1_1 hR1_1 ⊢
    clear bb1 sz1
    clear R0_0 hR0_0 Bw0 G1 G1b o1 b1 hA1 hs1
    generalize w1.heap.size = g1 at *
    have k1_0 := fun p : Past W1 => Past.cell (W := W1) c1_0 hc1_0 p
    have k1_1 := fun p : Past W1 => Past.cell (W := W1) c1_1 hc1_1 p
    have k1_2 := fun p : Past W1 => Past.cell (W := W1) c1_2 hc1_2 p
    have k1_3 := fun p : Past W1 => Past.cell (W := W1) c1_3 hc1_3 p
    obtain ⟨vh, hvh⟩ : ∃ x, holds a1 r1 (x1, y1) = x := ⟨_, rfl⟩
    have EH := Lib.hid hvh
    clear hvh
    have H1 := Lib.hid fun p : Past W1 => p.of (impl_holds a1 _ r1 (x1, y1) g1 p.w (R1_1.out.below (Past.h p) hR1_1) (Past.len hR1_1 p))
    rw [EH.out] at H1
    go_wp2_with fail
    refine (H1.out (Past.start W1)).mono ?_
    rintro e _ ⟨rfl, z1, rfl⟩
    clear H1
    go_wp2_with fail
    refine (DrawFollows v xs w.heap.size z1.w (R1_0.out.below (Past.h z1) hR1_0) (Past.len hR1_0 z1) HX.out (by omega)).mono ?_
    rintro e w2 ⟨u2, l2, ⟨x2, y2⟩, rfl, hn2, o2, b2⟩
    obtain ⟨p2, q2, rfl⟩ := o2.form
    go_upto_region 6 with fail
    have hA2 : Below w2.heap.size w2 (w2.alloc (.cells #[.int .i64 x2, .int .i64 y2] 28)) := (Below.refl w2.heap.size w2).alloc (Nat.le_refl _) (.cells #[.int .i64 x2, .int .i64 y2] 28)
    have hs2 : w2.heap.size < (w2.alloc (.cells #[.int .i64 x2, .int .i64 y2] 28)).heap.size := by simp
    have G2 := BoxAt.new w2 28 #[.int .i64 x2, .int .i64 y2]
    have bb2 := z1.h.trans ((b2.trans (hA2.mono b2.size)).mono z1.h.size)
    have sz2 := bb2.size
    have c2_0 : (w2.alloc (.cells #[.int .i64 x2, .int .i64 y2] 28)).cell? ⟨g1, 0, none⟩ = some (.int .i64 a1) := (bb2.cell (p := ⟨g1, 0, none⟩) hc1_0).trans c1_0
    have hc2_0 : g1 < (w2.alloc (.cells #[.int .i64 x2, .int .i64 y2] 28)).heap.size := Nat.lt_of_lt_of_le hc1_0 sz2
    have c2_1 : (w2.alloc (.cells #[.int .i64 x2, .int .i64 y2] 28)).cell? ⟨g1, 1, none⟩ = some (.slice p1 r1.length q1) := (bb2.cell (p := ⟨g1, 1, none⟩) hc1_1).trans c1_1
    have hc2_1 : g1 < (w2.alloc (.cells #[.int .i64 x2, .int .i64 y2] 28)).heap.size := Nat.lt_of_lt_of_le hc1_1 sz2
    have c2_2 : (w2.alloc (.cells #[.int .i64 x2, .int .i64 y2] 28)).cell? ⟨g1 + 1, 0, none⟩ = some (.int .i64 x1) := (bb2.cell (p := ⟨g1 + 1, 0, none⟩) hc1_2).trans c1_2
    have hc2_2 : g1 + 1 < (w2.alloc (.cells #[.int .i64 x2, .int .i64 y2] 28)).heap.size := Nat.lt_of_lt_of_le hc1_2 sz2
    have c2_3 : (w2.alloc (.cells #[.int .i64 x2, .int .i64 y2] 28)).cell? ⟨g1 + 1, 1, none⟩ = some (.int .i64 y1) := (bb2.cell (p := ⟨g1 + 1, 1, none⟩) hc1_3).trans c1_3
    have hc2_3 : g1 + 1 < (w2.alloc (.cells #[.int .i64 x2, .int .i64 y2] 28)).heap.size := Nat.lt_of_lt_of_le hc1_3 sz2
    have R2_0 := Lib.hid (R1_0.out.below bb2 hR1_0)
    have hR2_0 : w.heap.size ≤ (w2.alloc (.cells #[.int .i64 x2, .int .i64 y2] 28)).heap.size := Nat.le_trans hR1_0 sz2
    have R2_1 := Lib.hid (R1_1.out.below bb2 hR1_1)
    have hR2_1 : g1 ≤ (w2.alloc (.cells #[.int .i64 x2, .int .i64 y2] 28)).heap.size := Nat.le_trans hR1_1 sz2
    have Bw2 := Lib.hid (Bw1.out.trans (bb2.mono Bw1.out.size))
    have c2_4 : (w2.alloc (.cells #[.int .i64 x2, .int .i64 y2] 28)).cell? ⟨w2.heap.size, 0, none⟩ = some (.int .i64 x2) := G2.cell 0
    have hc2_4 : w2.heap.size < (w2.alloc (.cells #[.int .i64 x2, .int .i64 y2] 28)).heap.size := hs2
    have c2_5 : (w2.alloc (.cells #[.int .i64 x2, .int .i64 y2] 28)).cell? ⟨w2.heap.size, 1, none⟩ = some (.int .i64 y2) := G2.cell 1
    have hc2_5 : w2.heap.size < (w2.alloc (.cells #[.int .i64 x2, .int .i64 y2] 28)).heap.size := hs2
    have R2_2 := Lib.hid (o2.reads.below hA2 (Nat.le_refl _))
    have hR2_2 : w2.heap.size ≤ (w2.alloc (.cells #[.int .i64 x2, .int .i64 y2] 28)).heap.size := Nat.le_of_lt hs2
    generalize w2.alloc (.cells #[.int .i64 x2, .int .i64 y2] 28) = W2 at bb2 sz2 c2_0 hc2_0 c2_1 hc2_1 c2_2 hc2_2 c2_3 hc2_3 R2_0 hR2_0 R2_1 hR2_1 Bw2 c2_4 hc2_4 c2_5 hc2_5 R2_2 hR2_2 ⊢
    clear bb2 sz2
    clear c1_0 c1_1 c1_2 c1_3 hc1_0 hc1_1 hc1_2 hc1_3 R1_0 R1_1 hR1_0 hR1_1 k1_0 k1_1 k1_2 k1_3 Bw1 G2 b2 hA2 hs2 o2
    generalize w2.heap.size = g2 at *
    have k2_0 := fun p : Past W2 => Past.cell (W := W2) c2_0 hc2_0 p
    have k2_1 := fun p : Past W2 => Past.cell (W := W2) c2_1 hc2_1 p
    have k2_2 := fun p : Past W2 => Past.cell (W := W2) c2_2 hc2_2 p
    have k2_3 := fun p : Past W2 => Past.cell (W := W2) c2_3 hc2_3 p
    have k2_4 := fun p : Past W2 => Past.cell (W := W2) c2_4 hc2_4 p
    have k2_5 := fun p : Past W2 => Past.cell (W := W2) c2_5 hc2_5 p
    obtain ⟨vf, hvf⟩ : ∃ x, follows l2 (x2, y2) = x := ⟨_, rfl⟩
    have EF := Lib.hid hvf
    clear hvf
    have H2 := Lib.hid fun p : Past W2 => p.of (impl_follows _ l2 (x2, y2) g2 p.w (R2_2.out.below (Past.h p) hR2_2) (Past.len hR2_2 p))
    rw [EF.out] at H2
    go_wp2_with fail
    refine (H2.out (Past.start W2)).mono ?_
    rintro e _ ⟨rfl, z2, rfl⟩
    clear H2
    go_wp2_with fail
    refine (DrawClosedBy v xs w.heap.size z2.w (R2_0.out.below (Past.h z2) hR2_0) (Past.len hR2_0 z2) HX.out (by omega)).mono ?_
    rintro e w3 ⟨u3, l3, s3, rfl, hn3, o3, b3⟩
    obtain ⟨p3, q3, rfl⟩ := o3.form
    go_upto_region 8 with fail
    have bb3 := z2.h.trans (b3.mono z2.h.size)
    have sz3 := bb3.size
    have c3_0 : (w3).cell? ⟨g1, 0, none⟩ = some (.int .i64 a1) := (bb3.cell (p := ⟨g1, 0, none⟩) hc2_0).trans c2_0
    have hc3_0 : g1 < (w3).heap.size := Nat.lt_of_lt_of_le hc2_0 sz3
    have c3_1 : (w3).cell? ⟨g1, 1, none⟩ = some (.slice p1 r1.length q1) := (bb3.cell (p := ⟨g1, 1, none⟩) hc2_1).trans c2_1
    have hc3_1 : g1 < (w3).heap.size := Nat.lt_of_lt_of_le hc2_1 sz3
    have c3_2 : (w3).cell? ⟨g1 + 1, 0, none⟩ = some (.int .i64 x1) := (bb3.cell (p := ⟨g1 + 1, 0, none⟩) hc2_2).trans c2_2
    have hc3_2 : g1 + 1 < (w3).heap.size := Nat.lt_of_lt_of_le hc2_2 sz3
    have c3_3 : (w3).cell? ⟨g1 + 1, 1, none⟩ = some (.int .i64 y1) := (bb3.cell (p := ⟨g1 + 1, 1, none⟩) hc2_3).trans c2_3
    have hc3_3 : g1 + 1 < (w3).heap.size := Nat.lt_of_lt_of_le hc2_3 sz3
    have c3_4 : (w3).cell? ⟨g2, 0, none⟩ = some (.int .i64 x2) := (bb3.cell (p := ⟨g2, 0, none⟩) hc2_4).trans c2_4
    have hc3_4 : g2 < (w3).heap.size := Nat.lt_of_lt_of_le hc2_4 sz3
    have c3_5 : (w3).cell? ⟨g2, 1, none⟩ = some (.int .i64 y2) := (bb3.cell (p := ⟨g2, 1, none⟩) hc2_5).trans c2_5
    have hc3_5 : g2 < (w3).heap.size := Nat.lt_of_lt_of_le hc2_5 sz3
    have R3_0 := Lib.hid (R2_0.out.below bb3 hR2_0)
    have hR3_0 : w.heap.size ≤ (w3).heap.size := Nat.le_trans hR2_0 sz3
    have R3_1 := Lib.hid (R2_1.out.below bb3 hR2_1)
    have hR3_1 : g1 ≤ (w3).heap.size := Nat.le_trans hR2_1 sz3
    have R3_2 := Lib.hid (R2_2.out.below bb3 hR2_2)
    have hR3_2 : g2 ≤ (w3).heap.size := Nat.le_trans hR2_2 sz3
    have Bw3 := Lib.hid (Bw2.out.trans (bb3.mono Bw2.out.size))
    have R3_3 := Lib.hid (o3.reads)
    have hR3_3 : w3.heap.size ≤ (w3).heap.size := Nat.le_refl _
    clear bb3 sz3
    clear c2_0 c2_1 c2_2 c2_3 c2_4 c2_5 hc2_0 hc2_1 hc2_2 hc2_3 hc2_4 hc2_5 R2_0 R2_1 R2_2 hR2_0 hR2_1 hR2_2 k2_0 k2_1 k2_2 k2_3 k2_4 k2_5 Bw2 b3 o3
    have k3_0 := fun p : Past w3 => Past.cell (W := w3) c3_0 hc3_0 p
    have k3_1 := fun p : Past w3 => Past.cell (W := w3) c3_1 hc3_1 p
    have k3_2 := fun p : Past w3 => Past.cell (W := w3) c3_2 hc3_2 p
    have k3_3 := fun p : Past w3 => Past.cell (W := w3) c3_3 hc3_3 p
    have k3_4 := fun p : Past w3 => Past.cell (W := w3) c3_4 hc3_4 p
    have k3_5 := fun p : Past w3 => Past.cell (W := w3) c3_5 hc3_5 p
    obtain ⟨vx, hvx⟩ : ∃ x, closedBy l3 s3 = x := ⟨_, rfl⟩
    have EX := Lib.hid hvx
    clear hvx
    have H3 := Lib.hid fun p : Past w3 => p.of (impl_closedBy _ l3 s3 w3.heap.size p.w (R3_3.out.below (Past.h p) hR3_3) (Past.len hR3_3 p))
    rw [EX.out] at H3
    go_wp2_with fail
    refine (H3.out (Past.start w3)).mono ?_
    rintro e _ ⟨rfl, z3, rfl⟩
    clear H3
    go_wp2_with fail
    refine (DrawRespects v xs w.heap.size z3.w (R3_0.out.below (Past.h z3) hR3_0) (Past.len hR3_0 z3) HX.out (by omega)).mono ?_
    rintro e w4 ⟨⟨x4, y4⟩, t4, rfl , b4⟩
    go_upto_region 10 with fail
    have hA4 : Below w4.heap.size w4 (w4.alloc (.cells #[.int .i64 x4, .int .i64 y4] 28)) := (Below.refl w4.heap.size w4).alloc (Nat.le_refl _) (.cells #[.int .i64 x4, .int .i64 y4] 28)
    have hs4 : w4.heap.size < (w4.alloc (.cells #[.int .i64 x4, .int .i64 y4] 28)).heap.size := by simp
    have G4 := BoxAt.new w4 28 #[.int .i64 x4, .int .i64 y4]
    have bb4 := z3.h.trans ((b4.trans (hA4.mono b4.size)).mono z3.h.size)
    have sz4 := bb4.size
    have c4_0 : (w4.alloc (.cells #[.int .i64 x4, .int .i64 y4] 28)).cell? ⟨g1, 0, none⟩ = some (.int .i64 a1) := (bb4.cell (p := ⟨g1, 0, none⟩) hc3_0).trans c3_0
    have hc4_0 : g1 < (w4.alloc (.cells #[.int .i64 x4, .int .i64 y4] 28)).heap.size := Nat.lt_of_lt_of_le hc3_0 sz4
    have c4_1 : (w4.alloc (.cells #[.int .i64 x4, .int .i64 y4] 28)).cell? ⟨g1, 1, none⟩ = some (.slice p1 r1.length q1) := (bb4.cell (p := ⟨g1, 1, none⟩) hc3_1).trans c3_1
    have hc4_1 : g1 < (w4.alloc (.cells #[.int .i64 x4, .int .i64 y4] 28)).heap.size := Nat.lt_of_lt_of_le hc3_1 sz4
    have c4_2 : (w4.alloc (.cells #[.int .i64 x4, .int .i64 y4] 28)).cell? ⟨g1 + 1, 0, none⟩ = some (.int .i64 x1) := (bb4.cell (p := ⟨g1 + 1, 0, none⟩) hc3_2).trans c3_2
    have hc4_2 : g1 + 1 < (w4.alloc (.cells #[.int .i64 x4, .int .i64 y4] 28)).heap.size := Nat.lt_of_lt_of_le hc3_2 sz4
    have c4_3 : (w4.alloc (.cells #[.int .i64 x4, .int .i64 y4] 28)).cell? ⟨g1 + 1, 1, none⟩ = some (.int .i64 y1) := (bb4.cell (p := ⟨g1 + 1, 1, none⟩) hc3_3).trans c3_3
    have hc4_3 : g1 + 1 < (w4.alloc (.cells #[.int .i64 x4, .int .i64 y4] 28)).heap.size := Nat.lt_of_lt_of_le hc3_3 sz4
    have c4_4 : (w4.alloc (.cells #[.int .i64 x4, .int .i64 y4] 28)).cell? ⟨g2, 0, none⟩ = some (.int .i64 x2) := (bb4.cell (p := ⟨g2, 0, none⟩) hc3_4).trans c3_4
    have hc4_4 : g2 < (w4.alloc (.cells #[.int .i64 x4, .int .i64 y4] 28)).heap.size := Nat.lt_of_lt_of_le hc3_4 sz4
    have c4_5 : (w4.alloc (.cells #[.int .i64 x4, .int .i64 y4] 28)).cell? ⟨g2, 1, none⟩ = some (.int .i64 y2) := (bb4.cell (p := ⟨g2, 1, none⟩) hc3_5).trans c3_5
    have hc4_5 : g2 < (w4.alloc (.cells #[.int .i64 x4, .int .i64 y4] 28)).heap.size := Nat.lt_of_lt_of_le hc3_5 sz4
    have R4_0 := Lib.hid (R3_0.out.below bb4 hR3_0)
    have hR4_0 : w.heap.size ≤ (w4.alloc (.cells #[.int .i64 x4, .int .i64 y4] 28)).heap.size := Nat.le_trans hR3_0 sz4
    have R4_1 := Lib.hid (R3_1.out.below bb4 hR3_1)
    have hR4_1 : g1 ≤ (w4.alloc (.cells #[.int .i64 x4, .int .i64 y4] 28)).heap.size := Nat.le_trans hR3_1 sz4
    have R4_2 := Lib.hid (R3_2.out.below bb4 hR3_2)
    have hR4_2 : g2 ≤ (w4.alloc (.cells #[.int .i64 x4, .int .i64 y4] 28)).heap.size := Nat.le_trans hR3_2 sz4
    have R4_3 := Lib.hid (R3_3.out.below bb4 hR3_3)
    have hR4_3 : w3.heap.size ≤ (w4.alloc (.cells #[.int .i64 x4, .int .i64 y4] 28)).heap.size := Nat.le_trans hR3_3 sz4
    have Bw4 := Lib.hid (Bw3.out.trans (bb4.mono Bw3.out.size))
    have c4_6 : (w4.alloc (.cells #[.int .i64 x4, .int .i64 y4] 28)).cell? ⟨w4.heap.size, 0, none⟩ = some (.int .i64 x4) := G4.cell 0
    have hc4_6 : w4.heap.size < (w4.alloc (.cells #[.int .i64 x4, .int .i64 y4] 28)).heap.size := hs4
    have c4_7 : (w4.alloc (.cells #[.int .i64 x4, .int .i64 y4] 28)).cell? ⟨w4.heap.size, 1, none⟩ = some (.int .i64 y4) := G4.cell 1
    have hc4_7 : w4.heap.size < (w4.alloc (.cells #[.int .i64 x4, .int .i64 y4] 28)).heap.size := hs4
    generalize w4.alloc (.cells #[.int .i64 x4, .int .i64 y4] 28) = W4 at bb4 sz4 c4_0 hc4_0 c4_1 hc4_1 c4_2 hc4_2 c4_3 hc4_3 c4_4 hc4_4 c4_5 hc4_5 R4_0 hR4_0 R4_1 hR4_1 R4_2 hR4_2 R4_3 hR4_3 Bw4 c4_6 hc4_6 c4_7 hc4_7 ⊢
    clear bb4 sz4
    clear c3_0 c3_1 c3_2 c3_3 c3_4 c3_5 hc3_0 hc3_1 hc3_2 hc3_3 hc3_4 hc3_5 R3_0 R3_1 R3_2 R3_3 hR3_0 hR3_1 hR3_2 hR3_3 k3_0 k3_1 k3_2 k3_3 k3_4 k3_5 Bw3 G4 b4 hA4 hs4
    generalize w4.heap.size = g4 at *
    have k4_0 := fun p : Past W4 => Past.cell (W := W4) c4_0 hc4_0 p
    have k4_1 := fun p : Past W4 => Past.cell (W := W4) c4_1 hc4_1 p
    have k4_2 := fun p : Past W4 => Past.cell (W := W4) c4_2 hc4_2 p
    have k4_3 := fun p : Past W4 => Past.cell (W := W4) c4_3 hc4_3 p
    have k4_4 := fun p : Past W4 => Past.cell (W := W4) c4_4 hc4_4 p
    have k4_5 := fun p : Past W4 => Past.cell (W := W4) c4_5 hc4_5 p
    have k4_6 := fun p : Past W4 => Past.cell (W := W4) c4_6 hc4_6 p
    have k4_7 := fun p : Past W4 => Past.cell (W := W4) c4_7 hc4_7 p
    go_wp2_with fail
    refine (DrawAreRules v xs w.heap.size (Past.start W4).w (R4_0.out.below (Past.h (Past.start W4)) hR4_0) (Past.len hR4_0 (Past.start W4)) HX.out (by omega)).mono ?_
    rintro e w5 ⟨n5, u5, l5, rfl, hn5, o5, b5⟩
    obtain ⟨p5, q5, rfl⟩ := o5.form
    go_upto_region 11 with fail
    have bb5 := (Past.start W4).h.trans (b5.mono (Past.start W4).h.size)
    have sz5 := bb5.size
    have c5_0 : (w5).cell? ⟨g1, 0, none⟩ = some (.int .i64 a1) := (bb5.cell (p := ⟨g1, 0, none⟩) hc4_0).trans c4_0
    have hc5_0 : g1 < (w5).heap.size := Nat.lt_of_lt_of_le hc4_0 sz5
    have c5_1 : (w5).cell? ⟨g1, 1, none⟩ = some (.slice p1 r1.length q1) := (bb5.cell (p := ⟨g1, 1, none⟩) hc4_1).trans c4_1
    have hc5_1 : g1 < (w5).heap.size := Nat.lt_of_lt_of_le hc4_1 sz5
    have c5_2 : (w5).cell? ⟨g1 + 1, 0, none⟩ = some (.int .i64 x1) := (bb5.cell (p := ⟨g1 + 1, 0, none⟩) hc4_2).trans c4_2
    have hc5_2 : g1 + 1 < (w5).heap.size := Nat.lt_of_lt_of_le hc4_2 sz5
    have c5_3 : (w5).cell? ⟨g1 + 1, 1, none⟩ = some (.int .i64 y1) := (bb5.cell (p := ⟨g1 + 1, 1, none⟩) hc4_3).trans c4_3
    have hc5_3 : g1 + 1 < (w5).heap.size := Nat.lt_of_lt_of_le hc4_3 sz5
    have c5_4 : (w5).cell? ⟨g2, 0, none⟩ = some (.int .i64 x2) := (bb5.cell (p := ⟨g2, 0, none⟩) hc4_4).trans c4_4
    have hc5_4 : g2 < (w5).heap.size := Nat.lt_of_lt_of_le hc4_4 sz5
    have c5_5 : (w5).cell? ⟨g2, 1, none⟩ = some (.int .i64 y2) := (bb5.cell (p := ⟨g2, 1, none⟩) hc4_5).trans c4_5
    have hc5_5 : g2 < (w5).heap.size := Nat.lt_of_lt_of_le hc4_5 sz5
    have c5_6 : (w5).cell? ⟨g4, 0, none⟩ = some (.int .i64 x4) := (bb5.cell (p := ⟨g4, 0, none⟩) hc4_6).trans c4_6
    have hc5_6 : g4 < (w5).heap.size := Nat.lt_of_lt_of_le hc4_6 sz5
    have c5_7 : (w5).cell? ⟨g4, 1, none⟩ = some (.int .i64 y4) := (bb5.cell (p := ⟨g4, 1, none⟩) hc4_7).trans c4_7
    have hc5_7 : g4 < (w5).heap.size := Nat.lt_of_lt_of_le hc4_7 sz5
    have R5_0 := Lib.hid (R4_0.out.below bb5 hR4_0)
    have hR5_0 : w.heap.size ≤ (w5).heap.size := Nat.le_trans hR4_0 sz5
    have R5_1 := Lib.hid (R4_1.out.below bb5 hR4_1)
    have hR5_1 : g1 ≤ (w5).heap.size := Nat.le_trans hR4_1 sz5
    have R5_2 := Lib.hid (R4_2.out.below bb5 hR4_2)
    have hR5_2 : g2 ≤ (w5).heap.size := Nat.le_trans hR4_2 sz5
    have R5_3 := Lib.hid (R4_3.out.below bb5 hR4_3)
    have hR5_3 : w3.heap.size ≤ (w5).heap.size := Nat.le_trans hR4_3 sz5
    have Bw5 := Lib.hid (Bw4.out.trans (bb5.mono Bw4.out.size))
    have R5_4 := Lib.hid (o5.reads)
    have hR5_4 : w5.heap.size ≤ (w5).heap.size := Nat.le_refl _
    clear bb5 sz5
    clear c4_0 c4_1 c4_2 c4_3 c4_4 c4_5 c4_6 c4_7 hc4_0 hc4_1 hc4_2 hc4_3 hc4_4 hc4_5 hc4_6 hc4_7 R4_0 R4_1 R4_2 R4_3 hR4_0 hR4_1 hR4_2 hR4_3 k4_0 k4_1 k4_2 k4_3 k4_4 k4_5 k4_6 k4_7 Bw4 b5 o5
    have k5_0 := fun p : Past w5 => Past.cell (W := w5) c5_0 hc5_0 p
    have k5_1 := fun p : Past w5 => Past.cell (W := w5) c5_1 hc5_1 p
    have k5_2 := fun p : Past w5 => Past.cell (W := w5) c5_2 hc5_2 p
    have k5_3 := fun p : Past w5 => Past.cell (W := w5) c5_3 hc5_3 p
    have k5_4 := fun p : Past w5 => Past.cell (W := w5) c5_4 hc5_4 p
    have k5_5 := fun p : Past w5 => Past.cell (W := w5) c5_5 hc5_5 p
    have k5_6 := fun p : Past w5 => Past.cell (W := w5) c5_6 hc5_6 p
    have k5_7 := fun p : Past w5 => Past.cell (W := w5) c5_7 hc5_7 p
    go_wp2_with fail
    refine (DrawParseRules v xs w.heap.size (Past.start w5).w (R5_0.out.below (Past.h (Past.start w5)) hR5_0) (Past.len hR5_0 (Past.start w5)) HX.out (by omega)).mono ?_
    rintro e w6 ⟨t6, rfl, hn6 , b6⟩
    go_upto_region 12 with fail
    have bb6 := (Past.start w5).h.trans (b6.mono (Past.start w5).h.size)
    have sz6 := bb6.size
    have c6_0 : (w6).cell? ⟨g1, 0, none⟩ = some (.int .i64 a1) := (bb6.cell (p := ⟨g1, 0, none⟩) hc5_0).trans c5_0
    have hc6_0 : g1 < (w6).heap.size := Nat.lt_of_lt_of_le hc5_0 sz6
    have c6_1 : (w6).cell? ⟨g1, 1, none⟩ = some (.slice p1 r1.length q1) := (bb6.cell (p := ⟨g1, 1, none⟩) hc5_1).trans c5_1
    have hc6_1 : g1 < (w6).heap.size := Nat.lt_of_lt_of_le hc5_1 sz6
    have c6_2 : (w6).cell? ⟨g1 + 1, 0, none⟩ = some (.int .i64 x1) := (bb6.cell (p := ⟨g1 + 1, 0, none⟩) hc5_2).trans c5_2
    have hc6_2 : g1 + 1 < (w6).heap.size := Nat.lt_of_lt_of_le hc5_2 sz6
    have c6_3 : (w6).cell? ⟨g1 + 1, 1, none⟩ = some (.int .i64 y1) := (bb6.cell (p := ⟨g1 + 1, 1, none⟩) hc5_3).trans c5_3
    have hc6_3 : g1 + 1 < (w6).heap.size := Nat.lt_of_lt_of_le hc5_3 sz6
    have c6_4 : (w6).cell? ⟨g2, 0, none⟩ = some (.int .i64 x2) := (bb6.cell (p := ⟨g2, 0, none⟩) hc5_4).trans c5_4
    have hc6_4 : g2 < (w6).heap.size := Nat.lt_of_lt_of_le hc5_4 sz6
    have c6_5 : (w6).cell? ⟨g2, 1, none⟩ = some (.int .i64 y2) := (bb6.cell (p := ⟨g2, 1, none⟩) hc5_5).trans c5_5
    have hc6_5 : g2 < (w6).heap.size := Nat.lt_of_lt_of_le hc5_5 sz6
    have c6_6 : (w6).cell? ⟨g4, 0, none⟩ = some (.int .i64 x4) := (bb6.cell (p := ⟨g4, 0, none⟩) hc5_6).trans c5_6
    have hc6_6 : g4 < (w6).heap.size := Nat.lt_of_lt_of_le hc5_6 sz6
    have c6_7 : (w6).cell? ⟨g4, 1, none⟩ = some (.int .i64 y4) := (bb6.cell (p := ⟨g4, 1, none⟩) hc5_7).trans c5_7
    have hc6_7 : g4 < (w6).heap.size := Nat.lt_of_lt_of_le hc5_7 sz6
    have R6_0 := Lib.hid (R5_0.out.below bb6 hR5_0)
    have hR6_0 : w.heap.size ≤ (w6).heap.size := Nat.le_trans hR5_0 sz6
    have R6_1 := Lib.hid (R5_1.out.below bb6 hR5_1)
    have hR6_1 : g1 ≤ (w6).heap.size := Nat.le_trans hR5_1 sz6
    have R6_2 := Lib.hid (R5_2.out.below bb6 hR5_2)
    have hR6_2 : g2 ≤ (w6).heap.size := Nat.le_trans hR5_2 sz6
    have R6_3 := Lib.hid (R5_3.out.below bb6 hR5_3)
    have hR6_3 : w3.heap.size ≤ (w6).heap.size := Nat.le_trans hR5_3 sz6
    have R6_4 := Lib.hid (R5_4.out.below bb6 hR5_4)
    have hR6_4 : w5.heap.size ≤ (w6).heap.size := Nat.le_trans hR5_4 sz6
    have Bw6 := Lib.hid (Bw5.out.trans (bb6.mono Bw5.out.size))
    clear bb6 sz6
    clear c5_0 c5_1 c5_2 c5_3 c5_4 c5_5 c5_6 c5_7 hc5_0 hc5_1 hc5_2 hc5_3 hc5_4 hc5_5 hc5_6 hc5_7 R5_0 R5_1 R5_2 R5_3 R5_4 hR5_0 hR5_1 hR5_2 hR5_3 hR5_4 k5_0 k5_1 k5_2 k5_3 k5_4 k5_5 k5_6 k5_7 Bw5 b6
    have k6_0 := fun p : Past w6 => Past.cell (W := w6) c6_0 hc6_0 p
    have k6_1 := fun p : Past w6 => Past.cell (W := w6) c6_1 hc6_1 p
    have k6_2 := fun p : Past w6 => Past.cell (W := w6) c6_2 hc6_2 p
    have k6_3 := fun p : Past w6 => Past.cell (W := w6) c6_3 hc6_3 p
    have k6_4 := fun p : Past w6 => Past.cell (W := w6) c6_4 hc6_4 p
    have k6_5 := fun p : Past w6 => Past.cell (W := w6) c6_5 hc6_5 p
    have k6_6 := fun p : Past w6 => Past.cell (W := w6) c6_6 hc6_6 p
    have k6_7 := fun p : Past w6 => Past.cell (W := w6) c6_7 hc6_7 p
    obtain ⟨l7, hl7⟩ : ∃ x, (parseRules t6).getD [] = x := ⟨_, rfl⟩
    have EL7 := Lib.hid hl7
    clear hl7
    obtain ⟨k7, hk7⟩ : ∃ x, (parseRules t6).isSome = x := ⟨_, rfl⟩
    have EK7 := Lib.hid hk7
    clear hk7
    have H := impl_parseRules t6 (by omega) (Past.start w6).w (shapedBelow HSH.out (Past.below (Past.start w6) Bw6.out))
    rw [EL7.out, EK7.out] at H
    have HH := Lib.hid H
    clear H
    go_wp2_with fail
    refine HH.out.mono ?_
    rintro e w7 ⟨u7, rfl, o7, b7⟩
    clear HH
    obtain ⟨p7, q7, rfl⟩ := o7.form
    go_upto_region 13 with fail
    have bb7 := (Past.start w6).h.trans (b7.mono (Past.start w6).h.size)
    have sz7 := bb7.size
    have c7_0 : (w7).cell? ⟨g1, 0, none⟩ = some (.int .i64 a1) := (bb7.cell (p := ⟨g1, 0, none⟩) hc6_0).trans c6_0
    have hc7_0 : g1 < (w7).heap.size := Nat.lt_of_lt_of_le hc6_0 sz7
    have c7_1 : (w7).cell? ⟨g1, 1, none⟩ = some (.slice p1 r1.length q1) := (bb7.cell (p := ⟨g1, 1, none⟩) hc6_1).trans c6_1
    have hc7_1 : g1 < (w7).heap.size := Nat.lt_of_lt_of_le hc6_1 sz7
    have c7_2 : (w7).cell? ⟨g1 + 1, 0, none⟩ = some (.int .i64 x1) := (bb7.cell (p := ⟨g1 + 1, 0, none⟩) hc6_2).trans c6_2
    have hc7_2 : g1 + 1 < (w7).heap.size := Nat.lt_of_lt_of_le hc6_2 sz7
    have c7_3 : (w7).cell? ⟨g1 + 1, 1, none⟩ = some (.int .i64 y1) := (bb7.cell (p := ⟨g1 + 1, 1, none⟩) hc6_3).trans c6_3
    have hc7_3 : g1 + 1 < (w7).heap.size := Nat.lt_of_lt_of_le hc6_3 sz7
    have c7_4 : (w7).cell? ⟨g2, 0, none⟩ = some (.int .i64 x2) := (bb7.cell (p := ⟨g2, 0, none⟩) hc6_4).trans c6_4
    have hc7_4 : g2 < (w7).heap.size := Nat.lt_of_lt_of_le hc6_4 sz7
    have c7_5 : (w7).cell? ⟨g2, 1, none⟩ = some (.int .i64 y2) := (bb7.cell (p := ⟨g2, 1, none⟩) hc6_5).trans c6_5
    have hc7_5 : g2 < (w7).heap.size := Nat.lt_of_lt_of_le hc6_5 sz7
    have c7_6 : (w7).cell? ⟨g4, 0, none⟩ = some (.int .i64 x4) := (bb7.cell (p := ⟨g4, 0, none⟩) hc6_6).trans c6_6
    have hc7_6 : g4 < (w7).heap.size := Nat.lt_of_lt_of_le hc6_6 sz7
    have c7_7 : (w7).cell? ⟨g4, 1, none⟩ = some (.int .i64 y4) := (bb7.cell (p := ⟨g4, 1, none⟩) hc6_7).trans c6_7
    have hc7_7 : g4 < (w7).heap.size := Nat.lt_of_lt_of_le hc6_7 sz7
    have R7_0 := Lib.hid (R6_0.out.below bb7 hR6_0)
    have hR7_0 : w.heap.size ≤ (w7).heap.size := Nat.le_trans hR6_0 sz7
    have R7_1 := Lib.hid (R6_1.out.below bb7 hR6_1)
    have hR7_1 : g1 ≤ (w7).heap.size := Nat.le_trans hR6_1 sz7
    have R7_2 := Lib.hid (R6_2.out.below bb7 hR6_2)
    have hR7_2 : g2 ≤ (w7).heap.size := Nat.le_trans hR6_2 sz7
    have R7_3 := Lib.hid (R6_3.out.below bb7 hR6_3)
    have hR7_3 : w3.heap.size ≤ (w7).heap.size := Nat.le_trans hR6_3 sz7
    have R7_4 := Lib.hid (R6_4.out.below bb7 hR6_4)
    have hR7_4 : w5.heap.size ≤ (w7).heap.size := Nat.le_trans hR6_4 sz7
    have Bw7 := Lib.hid (Bw6.out.trans (bb7.mono Bw6.out.size))
    have R7_5 := Lib.hid (o7.reads)
    have hR7_5 : w7.heap.size ≤ (w7).heap.size := Nat.le_refl _
    clear bb7 sz7
    clear c6_0 c6_1 c6_2 c6_3 c6_4 c6_5 c6_6 c6_7 hc6_0 hc6_1 hc6_2 hc6_3 hc6_4 hc6_5 hc6_6 hc6_7 R6_0 R6_1 R6_2 R6_3 R6_4 hR6_0 hR6_1 hR6_2 hR6_3 hR6_4 k6_0 k6_1 k6_2 k6_3 k6_4 k6_5 k6_6 k6_7 Bw6 b7 o7
    have k7_0 := fun p : Past w7 => Past.cell (W := w7) c7_0 hc7_0 p
    have k7_1 := fun p : Past w7 => Past.cell (W := w7) c7_1 hc7_1 p
    have k7_2 := fun p : Past w7 => Past.cell (W := w7) c7_2 hc7_2 p
    have k7_3 := fun p : Past w7 => Past.cell (W := w7) c7_3 hc7_3 p
    have k7_4 := fun p : Past w7 => Past.cell (W := w7) c7_4 hc7_4 p
    have k7_5 := fun p : Past w7 => Past.cell (W := w7) c7_5 hc7_5 p
    have k7_6 := fun p : Past w7 => Past.cell (W := w7) c7_6 hc7_6 p
    have k7_7 := fun p : Past w7 => Past.cell (W := w7) c7_7 hc7_7 p
    have H := spec_parseRules t6 (by omega) (Past.start w7).w
    rw [EL7.out, EK7.out] at H
    have HH := Lib.hid H
    clear H
    go_wp2_with fail
    refine HH.out.mono ?_
    rintro e w8 ⟨u8, rfl, o8, b8⟩
    clear HH
    obtain ⟨p8, q8, rfl⟩ := o8.form
    go_upto_region 14 with fail
    have bb8 := (Past.start w7).h.trans (b8.mono (Past.start w7).h.size)
    have sz8 := bb8.size
    have c8_0 : (w8).cell? ⟨g1, 0, none⟩ = some (.int .i64 a1) := (bb8.cell (p := ⟨g1, 0, none⟩) hc7_0).trans c7_0
    have hc8_0 : g1 < (w8).heap.size := Nat.lt_of_lt_of_le hc7_0 sz8
    have c8_1 : (w8).cell? ⟨g1, 1, none⟩ = some (.slice p1 r1.length q1) := (bb8.cell (p := ⟨g1, 1, none⟩) hc7_1).trans c7_1
    have hc8_1 : g1 < (w8).heap.size := Nat.lt_of_lt_of_le hc7_1 sz8
    have c8_2 : (w8).cell? ⟨g1 + 1, 0, none⟩ = some (.int .i64 x1) := (bb8.cell (p := ⟨g1 + 1, 0, none⟩) hc7_2).trans c7_2
    have hc8_2 : g1 + 1 < (w8).heap.size := Nat.lt_of_lt_of_le hc7_2 sz8
    have c8_3 : (w8).cell? ⟨g1 + 1, 1, none⟩ = some (.int .i64 y1) := (bb8.cell (p := ⟨g1 + 1, 1, none⟩) hc7_3).trans c7_3
    have hc8_3 : g1 + 1 < (w8).heap.size := Nat.lt_of_lt_of_le hc7_3 sz8
    have c8_4 : (w8).cell? ⟨g2, 0, none⟩ = some (.int .i64 x2) := (bb8.cell (p := ⟨g2, 0, none⟩) hc7_4).trans c7_4
    have hc8_4 : g2 < (w8).heap.size := Nat.lt_of_lt_of_le hc7_4 sz8
    have c8_5 : (w8).cell? ⟨g2, 1, none⟩ = some (.int .i64 y2) := (bb8.cell (p := ⟨g2, 1, none⟩) hc7_5).trans c7_5
    have hc8_5 : g2 < (w8).heap.size := Nat.lt_of_lt_of_le hc7_5 sz8
    have c8_6 : (w8).cell? ⟨g4, 0, none⟩ = some (.int .i64 x4) := (bb8.cell (p := ⟨g4, 0, none⟩) hc7_6).trans c7_6
    have hc8_6 : g4 < (w8).heap.size := Nat.lt_of_lt_of_le hc7_6 sz8
    have c8_7 : (w8).cell? ⟨g4, 1, none⟩ = some (.int .i64 y4) := (bb8.cell (p := ⟨g4, 1, none⟩) hc7_7).trans c7_7
    have hc8_7 : g4 < (w8).heap.size := Nat.lt_of_lt_of_le hc7_7 sz8
    have R8_0 := Lib.hid (R7_0.out.below bb8 hR7_0)
    have hR8_0 : w.heap.size ≤ (w8).heap.size := Nat.le_trans hR7_0 sz8
    have R8_1 := Lib.hid (R7_1.out.below bb8 hR7_1)
    have hR8_1 : g1 ≤ (w8).heap.size := Nat.le_trans hR7_1 sz8
    have R8_2 := Lib.hid (R7_2.out.below bb8 hR7_2)
    have hR8_2 : g2 ≤ (w8).heap.size := Nat.le_trans hR7_2 sz8
    have R8_3 := Lib.hid (R7_3.out.below bb8 hR7_3)
    have hR8_3 : w3.heap.size ≤ (w8).heap.size := Nat.le_trans hR7_3 sz8
    have R8_4 := Lib.hid (R7_4.out.below bb8 hR7_4)
    have hR8_4 : w5.heap.size ≤ (w8).heap.size := Nat.le_trans hR7_4 sz8
    have R8_5 := Lib.hid (R7_5.out.below bb8 hR7_5)
    have hR8_5 : w7.heap.size ≤ (w8).heap.size := Nat.le_trans hR7_5 sz8
    have Bw8 := Lib.hid (Bw7.out.trans (bb8.mono Bw7.out.size))
    have R8_6 := Lib.hid (o8.reads)
    have hR8_6 : w8.heap.size ≤ (w8).heap.size := Nat.le_refl _
    clear bb8 sz8
    clear c7_0 c7_1 c7_2 c7_3 c7_4 c7_5 c7_6 c7_7 hc7_0 hc7_1 hc7_2 hc7_3 hc7_4 hc7_5 hc7_6 hc7_7 R7_0 R7_1 R7_2 R7_3 R7_4 R7_5 hR7_0 hR7_1 hR7_2 hR7_3 hR7_4 hR7_5 k7_0 k7_1 k7_2 k7_3 k7_4 k7_5 k7_6 k7_7 Bw7 b8 o8
    have k8_0 := fun p : Past w8 => Past.cell (W := w8) c8_0 hc8_0 p
    have k8_1 := fun p : Past w8 => Past.cell (W := w8) c8_1 hc8_1 p
    have k8_2 := fun p : Past w8 => Past.cell (W := w8) c8_2 hc8_2 p
    have k8_3 := fun p : Past w8 => Past.cell (W := w8) c8_3 hc8_3 p
    have k8_4 := fun p : Past w8 => Past.cell (W := w8) c8_4 hc8_4 p
    have k8_5 := fun p : Past w8 => Past.cell (W := w8) c8_5 hc8_5 p
    have k8_6 := fun p : Past w8 => Past.cell (W := w8) c8_6 hc8_6 p
    have k8_7 := fun p : Past w8 => Past.cell (W := w8) c8_7 hc8_7 p
    go_wp2_with fail
    refine (DrawRulesText v xs w.heap.size (Past.start w8).w (R8_0.out.below (Past.h (Past.start w8)) hR8_0) (Past.len hR8_0 (Past.start w8)) HX.out (by omega)).mono ?_
    rintro e w9 ⟨u9, l9, rfl, hn9, o9, b9⟩
    obtain ⟨p9, q9, rfl⟩ := o9.form
    go_upto_region 15 with fail
    have bb9 := (Past.start w8).h.trans (b9.mono (Past.start w8).h.size)
    have sz9 := bb9.size
    have c9_0 : (w9).cell? ⟨g1, 0, none⟩ = some (.int .i64 a1) := (bb9.cell (p := ⟨g1, 0, none⟩) hc8_0).trans c8_0
    have hc9_0 : g1 < (w9).heap.size := Nat.lt_of_lt_of_le hc8_0 sz9
    have c9_1 : (w9).cell? ⟨g1, 1, none⟩ = some (.slice p1 r1.length q1) := (bb9.cell (p := ⟨g1, 1, none⟩) hc8_1).trans c8_1
    have hc9_1 : g1 < (w9).heap.size := Nat.lt_of_lt_of_le hc8_1 sz9
    have c9_2 : (w9).cell? ⟨g1 + 1, 0, none⟩ = some (.int .i64 x1) := (bb9.cell (p := ⟨g1 + 1, 0, none⟩) hc8_2).trans c8_2
    have hc9_2 : g1 + 1 < (w9).heap.size := Nat.lt_of_lt_of_le hc8_2 sz9
    have c9_3 : (w9).cell? ⟨g1 + 1, 1, none⟩ = some (.int .i64 y1) := (bb9.cell (p := ⟨g1 + 1, 1, none⟩) hc8_3).trans c8_3
    have hc9_3 : g1 + 1 < (w9).heap.size := Nat.lt_of_lt_of_le hc8_3 sz9
    have c9_4 : (w9).cell? ⟨g2, 0, none⟩ = some (.int .i64 x2) := (bb9.cell (p := ⟨g2, 0, none⟩) hc8_4).trans c8_4
    have hc9_4 : g2 < (w9).heap.size := Nat.lt_of_lt_of_le hc8_4 sz9
    have c9_5 : (w9).cell? ⟨g2, 1, none⟩ = some (.int .i64 y2) := (bb9.cell (p := ⟨g2, 1, none⟩) hc8_5).trans c8_5
    have hc9_5 : g2 < (w9).heap.size := Nat.lt_of_lt_of_le hc8_5 sz9
    have c9_6 : (w9).cell? ⟨g4, 0, none⟩ = some (.int .i64 x4) := (bb9.cell (p := ⟨g4, 0, none⟩) hc8_6).trans c8_6
    have hc9_6 : g4 < (w9).heap.size := Nat.lt_of_lt_of_le hc8_6 sz9
    have c9_7 : (w9).cell? ⟨g4, 1, none⟩ = some (.int .i64 y4) := (bb9.cell (p := ⟨g4, 1, none⟩) hc8_7).trans c8_7
    have hc9_7 : g4 < (w9).heap.size := Nat.lt_of_lt_of_le hc8_7 sz9
    have R9_0 := Lib.hid (R8_0.out.below bb9 hR8_0)
    have hR9_0 : w.heap.size ≤ (w9).heap.size := Nat.le_trans hR8_0 sz9
    have R9_1 := Lib.hid (R8_1.out.below bb9 hR8_1)
    have hR9_1 : g1 ≤ (w9).heap.size := Nat.le_trans hR8_1 sz9
    have R9_2 := Lib.hid (R8_2.out.below bb9 hR8_2)
    have hR9_2 : g2 ≤ (w9).heap.size := Nat.le_trans hR8_2 sz9
    have R9_3 := Lib.hid (R8_3.out.below bb9 hR8_3)
    have hR9_3 : w3.heap.size ≤ (w9).heap.size := Nat.le_trans hR8_3 sz9
    have R9_4 := Lib.hid (R8_4.out.below bb9 hR8_4)
    have hR9_4 : w5.heap.size ≤ (w9).heap.size := Nat.le_trans hR8_4 sz9
    have R9_5 := Lib.hid (R8_5.out.below bb9 hR8_5)
    have hR9_5 : w7.heap.size ≤ (w9).heap.size := Nat.le_trans hR8_5 sz9
    have R9_6 := Lib.hid (R8_6.out.below bb9 hR8_6)
    have hR9_6 : w8.heap.size ≤ (w9).heap.size := Nat.le_trans hR8_6 sz9
    have Bw9 := Lib.hid (Bw8.out.trans (bb9.mono Bw8.out.size))
    have R9_7 := Lib.hid (o9.reads)
    have hR9_7 : w9.heap.size ≤ (w9).heap.size := Nat.le_refl _
    clear bb9 sz9
    clear c8_0 c8_1 c8_2 c8_3 c8_4 c8_5 c8_6 c8_7 hc8_0 hc8_1 hc8_2 hc8_3 hc8_4 hc8_5 hc8_6 hc8_7 R8_0 R8_1 R8_2 R8_3 R8_4 R8_5 R8_6 hR8_0 hR8_1 hR8_2 hR8_3 hR8_4 hR8_5 hR8_6 k8_0 k8_1 k8_2 k8_3 k8_4 k8_5 k8_6 k8_7 Bw8 b9 o9
    have k9_0 := fun p : Past w9 => Past.cell (W := w9) c9_0 hc9_0 p
    have k9_1 := fun p : Past w9 => Past.cell (W := w9) c9_1 hc9_1 p
    have k9_2 := fun p : Past w9 => Past.cell (W := w9) c9_2 hc9_2 p
    have k9_3 := fun p : Past w9 => Past.cell (W := w9) c9_3 hc9_3 p
    have k9_4 := fun p : Past w9 => Past.cell (W := w9) c9_4 hc9_4 p
    have k9_5 := fun p : Past w9 => Past.cell (W := w9) c9_5 hc9_5 p
    have k9_6 := fun p : Past w9 => Past.cell (W := w9) c9_6 hc9_6 p
    have k9_7 := fun p : Past w9 => Past.cell (W := w9) c9_7 hc9_7 p
    have hTl : (rulesText l9).length ≤ 94 := Nat.le_trans rulesText_le (by omega)
    have HPT := Lib.hid fun h => parse_rulesText (l := l9) h (by omega)
    have HNT := Lib.hid fun h : allIn 8 l9 = false => rulesText_nil h
    have HNE := Lib.hid fun h : allIn 8 l9 = true => rulesText_ne h (by omega)
    obtain ⟨T, hT⟩ : ∃ x, rulesText l9 = x := ⟨_, rfl⟩
    have ET := Lib.hid hT
    clear hT
    rw [ET.out] at hTl HPT HNT HNE
    have H9 := Lib.hid fun p : Past w9 => p.of (impl_rulesText _ l9 w9.heap.size p.w (R9_7.out.below (Past.h p) hR9_7) (Past.len hR9_7 p) (by omega))
    rw [ET.out] at H9
    go_wp2_with fail
    refine (H9.out (Past.start w9)).mono ?_
    rintro e _ ⟨rfl, z9, rfl⟩
    clear H9
    as_aux_lemma =>
      obtain ⟨vr, hvr⟩ : ∃ x, resp (x4, y4) t4 = x := ⟨_, rfl⟩
      have ER := Lib.hid hvr
      clear hvr
      obtain ⟨va, hva⟩ : ∃ x, areR n5 l5 = x := ⟨_, rfl⟩
      have EA := Lib.hid hva
      clear hva
      obtain ⟨T4, hT4⟩ : ∃ x, ruleText (x4, y4) = x := ⟨_, rfl⟩
      have ET4 := Lib.hid hT4
      clear hT4
      have SH := Lib.hid fun p : Past w9 => p.of (spec_holds a1 _ r1 (x1, y1) g1 p.w (R9_1.out.below (Past.h p) hR9_1) (Past.len hR9_1 p))
      rw [EH.out] at SH
      have SF := Lib.hid fun p : Past w9 => p.of (spec_follows _ l2 (x2, y2) g2 p.w (R9_2.out.below (Past.h p) hR9_2) (Past.len hR9_2 p))
      rw [EF.out] at SF
      have SX := Lib.hid fun p : Past w9 => p.of (spec_closedBy _ l3 s3 w3.heap.size p.w (R9_3.out.below (Past.h p) hR9_3) (Past.len hR9_3 p))
      rw [EX.out] at SX
      have IR := Lib.hid fun p : Past w9 => p.of (impl_resp (x4, y4) t4 p.w)
      rw [ER.out] at IR
      have SR := Lib.hid fun p : Past w9 => p.of (spec_resp (x4, y4) t4 p.w)
      rw [ER.out] at SR
      have IA := Lib.hid fun p : Past w9 => p.of (impl_areRules n5 _ l5 w5.heap.size p.w (R9_4.out.below (Past.h p) hR9_4) (Past.len hR9_4 p))
      rw [EA.out] at IA
      have SA := Lib.hid fun p : Past w9 => p.of (spec_areRules n5 _ l5 w5.heap.size p.w (R9_4.out.below (Past.h p) hR9_4) (Past.len hR9_4 p))
      rw [EA.out] at SA
      have hl7 : l7.length ≤ 40 := by rw [← EL7.out]; exact parse_len t6
      have SM := Lib.hid fun p : Past w9 => p.of (sameR _ _ l7 w7.heap.size w8.heap.size p.w (R9_5.out.below (Past.h p) hR9_5) (R9_6.out.below (Past.h p) hR9_6) (Past.len hR9_5 p) (Past.len hR9_6 p) (by omega))
      have ST := Lib.hid fun p : Past w9 => p.of (spec_rulesText _ l9 w9.heap.size p.w (R9_7.out.below (Past.h p) hR9_7) (Past.len hR9_7 p) (by omega))
      rw [ET.out] at ST
      have IT := Lib.hid fun p : Past w9 => p.of (impl_ruleText (x4, y4) p.w)
      rw [ET4.out] at IT
      have STT := Lib.hid fun p : Past w9 => p.of (spec_ruleText (x4, y4) p.w)
      rw [ET4.out] at STT
      have hqvh : (vh != vh) = false := by simp
      have hqvf : (vf != vf) = false := by simp
      have hqvx : (vx != vx) = false := by simp
      have hqvr : (vr != vr) = false := by simp
      have hqva : (va != va) = false := by simp
      have hqk7 : (k7 != k7) = false := by simp
      have hqT : (T == T) = true := by simp
      have hqT4 : (T4 == T4) = true := by simp
      go_wp2_with fail
      refine wp_region_pastIn z9 (by kernel_rfl) (by kernel_rfl) ?_
      repeat (go_big_quiet_step (first | with_reducible exact SH.out _ | with_reducible exact SF.out _ | with_reducible exact SX.out _ | with_reducible exact IR.out _ | with_reducible exact SR.out _ | with_reducible exact IA.out _ | with_reducible exact SA.out _ | with_reducible exact SM.out _ | with_reducible exact ST.out _ | with_reducible exact IT.out _ | with_reducible exact STT.out _))
      refine wpQuiet_nil ?_
      rintro _ ⟨z10, rfl⟩
      clear SH SF SX IR SR IA SA SM ST IT STT
      as_aux_lemma =>
        obtain ⟨l11, hl11⟩ : ∃ x, (parseRules T).getD [] = x := ⟨_, rfl⟩
        have EL11 := Lib.hid hl11
        clear hl11
        obtain ⟨k11, hk11⟩ : ∃ x, (parseRules T).isSome = x := ⟨_, rfl⟩
        have EK11 := Lib.hid hk11
        clear hk11
        have H := impl_parseRules T (by omega) z10.w (shapedBelow HSH.out (Past.below z10 Bw9.out))
        rw [EL11.out, EK11.out] at H
        have HH := Lib.hid H
        clear H
        go_wp2_with fail
        refine HH.out.mono ?_
        rintro e w11 ⟨u11, rfl, o11, b11⟩
        clear HH
        obtain ⟨p11, q11, rfl⟩ := o11.form
        go_upto_region 19 with fail
        have bb10 := z10.h.trans (b11.mono z10.h.size)
        have sz10 := bb10.size
        have c10_0 : (w11).cell? ⟨g1, 0, none⟩ = some (.int .i64 a1) := (bb10.cell (p := ⟨g1, 0, none⟩) hc9_0).trans c9_0
        have hc10_0 : g1 < (w11).heap.size := Nat.lt_of_lt_of_le hc9_0 sz10
        have c10_1 : (w11).cell? ⟨g1, 1, none⟩ = some (.slice p1 r1.length q1) := (bb10.cell (p := ⟨g1, 1, none⟩) hc9_1).trans c9_1
        have hc10_1 : g1 < (w11).heap.size := Nat.lt_of_lt_of_le hc9_1 sz10
        have c10_2 : (w11).cell? ⟨g1 + 1, 0, none⟩ = some (.int .i64 x1) := (bb10.cell (p := ⟨g1 + 1, 0, none⟩) hc9_2).trans c9_2
        have hc10_2 : g1 + 1 < (w11).heap.size := Nat.lt_of_lt_of_le hc9_2 sz10
        have c10_3 : (w11).cell? ⟨g1 + 1, 1, none⟩ = some (.int .i64 y1) := (bb10.cell (p := ⟨g1 + 1, 1, none⟩) hc9_3).trans c9_3
        have hc10_3 : g1 + 1 < (w11).heap.size := Nat.lt_of_lt_of_le hc9_3 sz10
        have c10_4 : (w11).cell? ⟨g2, 0, none⟩ = some (.int .i64 x2) := (bb10.cell (p := ⟨g2, 0, none⟩) hc9_4).trans c9_4
        have hc10_4 : g2 < (w11).heap.size := Nat.lt_of_lt_of_le hc9_4 sz10
        have c10_5 : (w11).cell? ⟨g2, 1, none⟩ = some (.int .i64 y2) := (bb10.cell (p := ⟨g2, 1, none⟩) hc9_5).trans c9_5
        have hc10_5 : g2 < (w11).heap.size := Nat.lt_of_lt_of_le hc9_5 sz10
        have c10_6 : (w11).cell? ⟨g4, 0, none⟩ = some (.int .i64 x4) := (bb10.cell (p := ⟨g4, 0, none⟩) hc9_6).trans c9_6
        have hc10_6 : g4 < (w11).heap.size := Nat.lt_of_lt_of_le hc9_6 sz10
        have c10_7 : (w11).cell? ⟨g4, 1, none⟩ = some (.int .i64 y4) := (bb10.cell (p := ⟨g4, 1, none⟩) hc9_7).trans c9_7
        have hc10_7 : g4 < (w11).heap.size := Nat.lt_of_lt_of_le hc9_7 sz10
        have R10_0 := Lib.hid (R9_0.out.below bb10 hR9_0)
        have hR10_0 : w.heap.size ≤ (w11).heap.size := Nat.le_trans hR9_0 sz10
        have R10_1 := Lib.hid (R9_1.out.below bb10 hR9_1)
        have hR10_1 : g1 ≤ (w11).heap.size := Nat.le_trans hR9_1 sz10
        have R10_2 := Lib.hid (R9_2.out.below bb10 hR9_2)
        have hR10_2 : g2 ≤ (w11).heap.size := Nat.le_trans hR9_2 sz10
        have R10_3 := Lib.hid (R9_3.out.below bb10 hR9_3)
        have hR10_3 : w3.heap.size ≤ (w11).heap.size := Nat.le_trans hR9_3 sz10
        have R10_4 := Lib.hid (R9_4.out.below bb10 hR9_4)
        have hR10_4 : w5.heap.size ≤ (w11).heap.size := Nat.le_trans hR9_4 sz10
        have R10_5 := Lib.hid (R9_5.out.below bb10 hR9_5)
        have hR10_5 : w7.heap.size ≤ (w11).heap.size := Nat.le_trans hR9_5 sz10
        have R10_6 := Lib.hid (R9_6.out.below bb10 hR9_6)
        have hR10_6 : w8.heap.size ≤ (w11).heap.size := Nat.le_trans hR9_6 sz10
        have R10_7 := Lib.hid (R9_7.out.below bb10 hR9_7)
        have hR10_7 : w9.heap.size ≤ (w11).heap.size := Nat.le_trans hR9_7 sz10
        have Bw10 := Lib.hid (Bw9.out.trans (bb10.mono Bw9.out.size))
        have R10_8 := Lib.hid (o11.reads)
        have hR10_8 : w11.heap.size ≤ (w11).heap.size := Nat.le_refl _
        clear bb10 sz10
        clear c9_0 c9_1 c9_2 c9_3 c9_4 c9_5 c9_6 c9_7 hc9_0 hc9_1 hc9_2 hc9_3 hc9_4 hc9_5 hc9_6 hc9_7 R9_0 R9_1 R9_2 R9_3 R9_4 R9_5 R9_6 R9_7 hR9_0 hR9_1 hR9_2 hR9_3 hR9_4 hR9_5 hR9_6 hR9_7 k9_0 k9_1 k9_2 k9_3 k9_4 k9_5 k9_6 k9_7 Bw9 b11 o11
        have k10_0 := fun p : Past w11 => Past.cell (W := w11) c10_0 hc10_0 p
        have k10_1 := fun p : Past w11 => Past.cell (W := w11) c10_1 hc10_1 p
        have k10_2 := fun p : Past w11 => Past.cell (W := w11) c10_2 hc10_2 p
        have k10_3 := fun p : Past w11 => Past.cell (W := w11) c10_3 hc10_3 p
        have k10_4 := fun p : Past w11 => Past.cell (W := w11) c10_4 hc10_4 p
        have k10_5 := fun p : Past w11 => Past.cell (W := w11) c10_5 hc10_5 p
        have k10_6 := fun p : Past w11 => Past.cell (W := w11) c10_6 hc10_6 p
        have k10_7 := fun p : Past w11 => Past.cell (W := w11) c10_7 hc10_7 p
        as_aux_lemma =>
          go_cut [158] (fun s158 wx => s158 = .bool false ∧ ∃ p : Past w11, wx = p.w)
          case first =>
            cases hin : allIn 8 l9 with
            | false =>
              have hT := HNT.out hin
              subst hT
              clear hin
              go_wp2_with fail
              go_meet
              exact ⟨rfl, Past.start _, rfl⟩
            | true =>
              have hp := HPT.out hin
              have hne := HNE.out hin
              have hk := EK11.out
              have hl := EL11.out
              rw [hp] at hk hl
              simp only [Option.isSome_some, Option.getD_some] at hk hl
              subst hk hl
              have hqT2 : (T == []) = false := by simpa using hne
              clear hin hp hne
              have HM := Lib.hid ((Past.start w11).of (sameR _ _ l9 w11.heap.size w9.heap.size w11 (R10_8.out.below (Past.h (Past.start w11)) hR10_8) (R10_7.out.below (Past.h (Past.start w11)) hR10_7) (Past.len hR10_8 (Past.start w11)) (Past.len hR10_7 (Past.start w11)) (by omega)))
              go_wp2_with fail
              refine HM.out.mono ?_
              rintro e _ ⟨rfl, z11, rfl⟩
              go_wp2_with fail
              go_meet
              exact ⟨rfl, z11, rfl⟩
          case rest =>
          obtain ⟨rfl, z12, rfl⟩ := hcut
          clear HPT HNT HNE EL11 EK11
          as_aux_lemma =>
            go_upto_region 21 with fail
            have HIC := Lib.hid fun p : Past w11 => p.of (spec_isCtx a1 _ r1 g1 p.w (R10_1.out.below (Past.h p) hR10_1) (Past.len hR10_1 p))
            have HS1 := Lib.hid fun w => spec_isSet a1 x1 w
            have HS2 := Lib.hid fun w => spec_isSet a1 y1 w
            have HAND := Lib.hid (show (isCtx a1 r1 && isR a1 (x1, y1)) = (isCtx a1 r1 && (isSet a1 x1 && isSet a1 y1)) from rfl)
            obtain ⟨bc, hbc⟩ : ∃ x, isCtx a1 r1 = x := ⟨_, rfl⟩
            obtain ⟨b1, hb1⟩ : ∃ x, isSet a1 x1 = x := ⟨_, rfl⟩
            obtain ⟨b2, hb2⟩ : ∃ x, isSet a1 y1 = x := ⟨_, rfl⟩
            obtain ⟨bb, hbb⟩ : ∃ x, (isCtx a1 r1 && isR a1 (x1, y1)) = x := ⟨_, rfl⟩
            rw [hbc] at HIC
            rw [hb1] at HS1
            rw [hb2] at HS2
            rw [hbb, hbc, hb1, hb2] at HAND
            have HBB := Lib.hid hbb
            clear hbc hb1 hb2 hbb
            go_cut [174] (fun s174 wx => s174 = .bool bb ∧ ∃ p : Past w11, wx = p.w)
            case first =>
              have kz0 := k10_0 z12
              have kz1 := k10_1 z12
              have kz2 := k10_2 z12
              have kz3 := k10_3 z12
              go_wp2_with fail
              refine (HIC.out z12).mono ?_
              rintro e _ ⟨rfl, z13, rfl⟩
              have ky0 := k10_0 z13
              have ky1 := k10_1 z13
              have ky2 := k10_2 z13
              have ky3 := k10_3 z13
              cases bc with
              | false => go_wp2_with fail; go_meet; exact ⟨by rw [HAND.out]; rfl, z13, rfl⟩
              | true =>
                go_wp2_with fail
                refine (HS1.out _).mono ?_
                rintro e w' ⟨rfl, hw⟩
                subst w'
                cases b1 with
                | false => go_wp2_with fail; go_meet; exact ⟨by rw [HAND.out]; rfl, z13, rfl⟩
                | true =>
                  go_wp2_with fail
                  refine (HS2.out _).mono ?_
                  rintro e w' ⟨rfl, hw⟩
                  subst w'
                  go_wp2_with fail
                  go_meet
                  exact ⟨by rw [HAND.out]; rfl, z13, rfl⟩
            case rest =>
            obtain ⟨rfl, z14, rfl⟩ := hcut
            clear HIC HS1 HS2 HAND
            as_aux_lemma =>
              go_upto_if 174 with fail
              go_cut [] (fun wx => ∃ p : Past w11, wx = p.w)
              case first =>
                cases bb with
                | false => go_wp2_with fail; go_meet; exact ⟨z14, rfl⟩
                | true =>
                  have hcr := HBB.out
                  rw [Bool.and_eq_true] at hcr
                  obtain ⟨hcc, hri⟩ := hcr
                  have hp := isCtx_parts hcc
                  have HRW : Hid (∀ k, resp (x1, y1) (r1.getD k 0) = RB (x1, y1) (r1.getD k 0).toNat) := Lib.hid fun k => by rw [resp, isR_8 hri, isSet8_true (row_le hcc k)]; rfl
                  have HVH : Hid (vh = true ↔ ∀ k, k < r1.length → RB (x1, y1) (r1.getD k 0).toNat = true) := Lib.hid (by rw [← EH.out, holds, hcc, hri, Bool.true_and, Bool.true_and]; exact holds_rows hri)
                  have h8 := hp.2.2.1
                  clear hcc hri hp
                  have IRK := Lib.hid fun (p : Past w11) (k : Nat) => p.of (impl_resp (x1, y1) (r1.getD k 0) p.w)
                  simp only [HRW.out] at IRK
                  go_wp2_with fail
                  go_loopw [25, 26] (fun al i wx => ∃ (k : Nat) (b : Bool), k ≤ r1.length ∧ i = .int .i64 k ∧ al = .bool b ∧ Hid (b = true ↔ ∀ j, j < k → RB (x1, y1) (r1.getD j 0).toNat = true) ∧ ∃ p : Past w11, wx = p.w) (fun _ i _ => r1.length - (intOf i).toNat)
                  case atStart => exact ⟨0, true, Nat.zero_le _, rfl, rfl, Lib.hid ⟨fun _ j hj => absurd hj (by omega), fun _ => rfl⟩, z14, rfl⟩
                  case round =>
                    obtain ⟨k, b, hk, rfl, rfl, hb, p, rfl⟩ := hrel
                    have kp0 := k10_0 p
                    have kp1 := k10_1 p
                    have kp2 := k10_2 p
                    have kp3 := k10_3 p
                    by_cases hlt : k < r1.length
                    · obtain ⟨bq, oq, rfl, hbq, hcq⟩ : ∃ bq oq, p1 = some ⟨bq, oq, none⟩ ∧ bq < g1 ∧ ∀ p : Past w11, p.w.cell? ⟨bq, oq + k, none⟩ = some (.int .i64 (r1.getD k 0)) := by
                        obtain ⟨_, a', c', hv, hcells⟩ := R10_1.out
                        injection hv with e1 e2 e3
                        subst e1
                        obtain ⟨b, o, h1, h2, h3⟩ := hcells (by simp [ints]; rintro rfl; simp at hlt)
                        exact ⟨b, o, h1, h2, fun p => Past.cell ((h3 k (by simp [ints]; exact hlt)).trans (ints_get r1 k hlt)) (by show b < _; have := hR10_1; omega) p⟩
                      cases b with
                      | false =>
                        have HF : Hid (false = true ↔ ∀ j, j < k + 1 → RB (x1, y1) (r1.getD j 0).toNat = true) := Lib.hid ⟨fun h => (Bool.false_ne_true h).elim, fun h => hb.out.2 fun j hj => h j (by omega)⟩
                        go_wp2_with fail
                        refine wp_region_pastIn p (by kernel_rfl) (by kernel_rfl) ?_
                        repeat (go_big_quiet_step (fail))
                        refine wpQuiet_nil ?_
                        rintro _ ⟨p4, rfl⟩
                        go_wp2_with fail
                        go_roundw
                        case rel => exact ⟨k + 1, false, by omega, by simp, rfl, HF, p4, rfl⟩
                        case measure => simp [intOf]; omega
                      | true =>
                        have HK := Lib.hid fun p => IRK.out p k
                        have HB2 : Hid ((RB (x1, y1) (r1.getD k 0).toNat) = true ↔ ∀ j, j < k + 1 → RB (x1, y1) (r1.getD j 0).toNat = true) := Lib.hid ⟨fun h j hj => by
                          rcases Nat.lt_or_eq_of_le (Nat.le_of_lt_succ hj) with h1 | rfl
                          · exact hb.out.1 rfl j h1
                          · exact h, fun h => h k (by omega)⟩
                        obtain ⟨y, hy⟩ : ∃ y, r1.getD k 0 = y := ⟨_, rfl⟩
                        obtain ⟨b2, hb2⟩ : ∃ b2, RB (x1, y1) (r1.getD k 0).toNat = b2 := ⟨_, rfl⟩
                        rw [hb2] at HK HB2
                        rw [hy] at hcq HK
                        clear hy hb2
                        go_wp2_with fail
                        refine wp_region_pastIn p (by kernel_rfl) (by kernel_rfl) ?_
                        repeat (go_big_quiet_step (first | with_reducible exact HK.out _))
                        refine wpQuiet_nil ?_
                        rintro _ ⟨p4, rfl⟩
                        go_wp2_with fail
                        go_roundw
                        case rel => exact ⟨k + 1, b2, by omega, by simp, rfl, HB2, p4, rfl⟩
                        case measure => simp [intOf]; omega
                    · have hbv : b = vh := by
                        have h1 := hb.out
                        have h2 := HVH.out
                        rw [show k = r1.length by omega] at h1
                        exact Bool.eq_iff_iff.2 (h1.trans h2.symm)
                      subst hbv
                      have hqb : (b != b) = false := by simp
                      go_wp2_with fail
                      go_meet
                      exact ⟨p, rfl⟩
              case rest =>
              obtain ⟨z15, rfl⟩ := hcut
              as_aux_lemma =>
                have HA2 := Lib.hid fun p : Past w11 => p.of (spec_areRules 6 _ l2 g2 p.w (R10_2.out.below (Past.h p) hR10_2) (Past.len hR10_2 p))
                have kz4 := k10_4 z15
                have kz5 := k10_5 z15
                go_wp2_with fail
                refine (HA2.out z15).mono ?_
                rintro e _ ⟨rfl, z16, rfl⟩
                clear HA2
                have ky4 := k10_4 z16
                have ky5 := k10_5 z16
                cases ha : areR 6 l2 with
                | false =>
                  have hbb := Past.below z16 Bw10.out
                  clear ha
                  go_wp2_with fail
                  go_ret
                  exact ⟨rfl, hbb⟩
                | true =>
                  as_aux_lemma =>
                    have HA3 := Lib.hid ((z16.alloc (.cells #[.int .i64 x2, .int .i64 y2] 28)).of (spec_areRules 6 (.slice (some ⟨z16.w.heap.size, 0, none⟩) 1 1) [(x2, y2)] (z16.w.alloc (.cells #[.int .i64 x2, .int .i64 y2] 28)).heap.size _ (readsP_one z16.w x2 y2 _) (Nat.le_refl _)))
                    go_wp2_with fail
                    refine HA3.out.mono ?_
                    rintro e _ ⟨rfl, z17, rfl⟩
                    clear HA3
                    have kx4 := k10_4 z17
                    have kx5 := k10_5 z17
                    as_aux_lemma =>
                      cases hq : areR 6 [(x2, y2)] with
                      | false =>
                        have hbb := Past.below z17 Bw10.out
                        clear ha hq
                        go_wp2_with fail
                        go_ret
                        exact ⟨rfl, hbb⟩
                      | true =>
                        have ha6 := areR_in ha
                        have hq6 := areR_one hq
                        have ha8 := allIn_8 ha6
                        have hq8 := isR_8 hq6
                        have HCM : Hid (∀ m : Nat, m < 64 → closedBy l2 (m : Int) = ((cl l2 m : Nat) : Int)) := Lib.hid fun m hm => by rw [closedBy, if_pos ⟨ha8, isSet8_true (by omega)⟩, Int.toNat_natCast]
                        have HRM : Hid (∀ m : Nat, m < 64 → resp (x2, y2) (m : Int) = RB (x2, y2) m) := Lib.hid fun m hm => by rw [resp, hq8, isSet8_true (by omega), Int.toNat_natCast]; rfl
                        have HVF : Hid (vf = true ↔ ∀ m, m < 64 → cl l2 m = m → RB (x2, y2) m = true) := Lib.hid (by rw [← EF.out, follows, ha8, hq8, Bool.true_and, Bool.true_and]; exact follows_iff ha6 hq6)
                        clear ha hq ha6 hq6 ha8 hq8
                        have HCL := Lib.hid fun (p : Past w11) (m : Int) => p.of (impl_closedBy _ l2 m g2 p.w (R10_2.out.below (Past.h p) hR10_2) (Past.len hR10_2 p))
                        have HRS := Lib.hid fun (p : Past w11) (m : Int) => p.of (impl_resp (x2, y2) m p.w)
                        go_wp2_with fail
                        go_loopw [27, 28] (fun ev i wx => ∃ (k : Nat) (b : Bool), k ≤ 64 ∧ i = .int .i64 k ∧ ev = .bool b ∧ Hid (b = true ↔ ∀ m, m < k → cl l2 m = m → RB (x2, y2) m = true) ∧ ∃ p : Past w11, wx = p.w) (fun _ i _ => 64 - (intOf i).toNat)
                        case atStart => exact ⟨0, true, Nat.zero_le _, rfl, rfl, Lib.hid ⟨fun _ j hj => absurd hj (by omega), fun _ => rfl⟩, z17, rfl⟩
                        case round =>
                          obtain ⟨k, b, hk, rfl, rfl, hb, p, rfl⟩ := hrel
                          by_cases hlt : k < 64
                          · have HK := Lib.hid (HCL.out p k)
                            rw [HCM.out k hlt] at HK
                            have HR := Lib.hid fun p => HRS.out p k
                            simp only [HRM.out k hlt] at HR
                            have HST := Lib.hid fun (c : Bool) (h : c = true ↔ ∀ m, m < k + 1 → cl l2 m = m → RB (x2, y2) m = true) => h
                            go_wp2_with fail
                            refine HK.out.mono ?_
                            rintro e _ ⟨rfl, p2, rfl⟩
                            have kp4 := k10_4 p2
                            have kp5 := k10_5 p2
                            by_cases hc : cl l2 k = k
                            · have hd : (((cl l2 k : Nat) : Int) == ((k : Nat) : Int)) = true := by rw [hc]; simp
                              cases b with
                              | false =>
                                have HF := Lib.hid (HST.out false ⟨fun h => (Bool.false_ne_true h).elim, fun h => hb.out.2 fun j hj => h j (by omega)⟩)
                                clear hc
                                generalize cl l2 k = ck at hd ⊢
                                go_wp2_with fail
                                go_roundw
                                case rel => exact ⟨k + 1, false, by omega, by simp, rfl, HF, p2, rfl⟩
                                case measure => simp [intOf]; omega
                              | true =>
                                have HF := Lib.hid (HST.out (RB (x2, y2) k) ⟨fun h j hj => by
                                  rcases Nat.lt_or_eq_of_le (Nat.le_of_lt_succ hj) with h1 | rfl
                                  · exact hb.out.1 rfl j h1
                                  · exact fun _ => h, fun h => h k (by omega) hc⟩)
                                clear hc
                                generalize cl l2 k = ck at hd ⊢
                                generalize RB (x2, y2) k = b2 at HF HR
                                go_wp2_with fail
                                refine (HR.out p2).mono ?_
                                rintro e _ ⟨rfl, p3, rfl⟩
                                go_wp2_with fail
                                go_roundw
                                case rel => exact ⟨k + 1, b2, by omega, by simp, rfl, HF, p3, rfl⟩
                                case measure => simp [intOf]; omega
                            · have hd : (((cl l2 k : Nat) : Int) == ((k : Nat) : Int)) = false := by simp; omega
                              have HF := Lib.hid (HST.out b ⟨fun h j hj => by
                                rcases Nat.lt_or_eq_of_le (Nat.le_of_lt_succ hj) with h1 | rfl
                                · exact hb.out.1 h j h1
                                · exact fun he => absurd he hc, fun h => hb.out.2 fun j hj => h j (by omega)⟩)
                              clear hc
                              generalize cl l2 k = ck at hd ⊢
                              go_wp2_with fail
                              go_roundw
                              case rel => exact ⟨k + 1, b, by omega, by simp, rfl, HF, p2, rfl⟩
                              case measure => simp [intOf]; omega
                          · have hbv : b = vf := by
                              have h1 := hb.out
                              have h2 := HVF.out
                              rw [show k = 64 by omega] at h1
                              exact Bool.eq_iff_iff.2 (h1.trans h2.symm)
                            subst hbv
                            have hqb : (b == b) = true := by simp
                            have hbb := Past.below p Bw10.out
                            go_wp2_with fail
                            go_ret
                            exact ⟨rfl, hbb⟩
end Go.Proofs.YtmdpiikffnfnbaaGreatDoor.LRul
