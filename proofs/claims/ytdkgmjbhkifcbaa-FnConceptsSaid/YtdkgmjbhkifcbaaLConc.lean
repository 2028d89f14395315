/-
  The law of concepts: walk.
-/
import Derived.Test.YtdkgmjbhkifcbaaDraw5
import Derived.Test.YtdkgmjbhkifcbaaConcQ
import Derived.Test.YtdkgmjbhkifcbaaConc4
import Derived.Test.YtdkgmjbhkifcbaaSameC
import Derived.Test.YtdkgmjbhkifcbaaComp
import Derived.Test.YtdkgmjbhkifcbaaPast2
import Derived.Test.YtdkgmjbhkifcbaaLBig
import Derived.Deep.RegionHeld3
import Derived.Deep.DeepCutAuto
namespace Go.Proofs.Ytdkgmjbhkifcbaa.LConc
open Go Go.RowKit Mem Sets Ctx Draw Tab
set_option maxRecDepth 100000

theorem readsP {W : World} {B : Nat} {v : Value} {l : List PInt} (h : ReadsP W B v l) (hB : B ≤ W.heap.size) (p : Past W) : ReadsP p.w B v l := h.below p.h hB
theorem next_ask {a : Int} {rs : List Int} {s : Int} {n : Nat} {k : Bool} (h1 : (nextClosed a rs s).getD 0 = n) (h2 : (nextClosed a rs s).isSome = k) (hk : k = true) : before s (n : Int) = true ∧ closed a rs (n : Int) = true := by
  subst hk
  cases ho : nextClosed a rs s with
  | none => rw [ho] at h2; cases h2
  | some m => rw [ho] at h1; simp only [Option.getD_some] at h1; subst h1; exact next_good ho
theorem concepts_none {a : Int} {rs : List Int} (h : isCtx a rs = false) : concepts a rs = [] := by simp [concepts, h]
set_option maxHeartbeats 16000000 in
theorem walk (v : Value) (xs : List Int) (w : World) (hr : Reads w w.heap.size v (u8s xs)) (hx : ∀ j, j < xs.length → 0 ≤ xs.getD j 0 ∧ xs.getD j 0 ≤ 255) :
    Calls Try.prog 4 #[v] w fun e w' => e = .returned (.bool true) ∧ Below w.heap.size w w' := by
  have e0 : (u8s xs).length = xs.length := by simp [u8s]
  have HB := Lib.hid (LBig.isBig v (u8s xs) _ w hr)
  by_cases hlen : 1048576 < xs.length
  · have hd : decide (1048576 < (u8s xs).length) = true := by rw [e0]; simp; omega
    clear hr hx
    go_enter Try.func4, Try.ntmps4
    go_wp2_with fail
    refine HB.out.mono ?_
    rintro e w' ⟨rfl, hw⟩
    subst w'
    go_wp2_with fail
    go_ret
    exact ⟨rfl, Below.refl _ _⟩
  · have hd : decide (1048576 < (u8s xs).length) = false := by rw [e0]; simp; omega
    have HX := Lib.hid hx
    have R0_0 := Lib.hid hr
    have hR0_0 : w.heap.size ≤ w.heap.size := Nat.le_refl _
    have Bw0 := Lib.hid (Below.refl w.heap.size w)
    clear hr hx e0
    go_enter Try.func4, Try.ntmps4
    go_wp2_with fail
    refine HB.out.mono ?_
    rintro e w' ⟨rfl, hw⟩
    subst w'
    clear HB hd
    go_wp2_with fail
    refine (DrawConcepts v xs w.heap.size (Past.start w).w (Past.reads R0_0.out hR0_0 (Past.start w)) (Past.len hR0_0 (Past.start w)) HX.out (by omega)).mono ?_
    rintro e w1 ⟨a1, u1, r1, rfl, -, o1, b1⟩
    obtain ⟨p1, q1, rfl⟩ := own_form o1
    have hA1 := (Below.refl w1.heap.size w1).alloc (Nat.le_refl _) (.cells #[.int .i64 a1, .slice p1 r1.length q1] 26)
    go_upto_region 4 with fail
    have hs1 : w1.heap.size < (w1.alloc (.cells #[.int .i64 a1, .slice p1 r1.length q1] 26)).heap.size := by simp
    have G1 := BoxAt.new w1 26 #[.int .i64 a1, .slice p1 r1.length q1]
    have bb1 := (Past.start w).h.trans ((b1.trans (hA1.mono b1.size)).mono (Past.start w).h.size)
    have sz1 := bb1.size
    have R1_0 := Lib.hid (R0_0.out.below bb1 hR0_0)
    have hR1_0 : w.heap.size ≤ (w1.alloc (.cells #[.int .i64 a1, .slice p1 r1.length q1] 26)).heap.size := Nat.le_trans hR0_0 sz1
    have Bw1 := Lib.hid (Bw0.out.trans (bb1.mono Bw0.out.size))
    have c1_0 : (w1.alloc (.cells #[.int .i64 a1, .slice p1 r1.length q1] 26)).cell? ⟨w1.heap.size, 0, none⟩ = some (.int .i64 a1) := G1.cell 0
    have hc1_0 : w1.heap.size < (w1.alloc (.cells #[.int .i64 a1, .slice p1 r1.length q1] 26)).heap.size := hs1
    have c1_1 : (w1.alloc (.cells #[.int .i64 a1, .slice p1 r1.length q1] 26)).cell? ⟨w1.heap.size, 1, none⟩ = some (.slice p1 r1.length q1) := G1.cell 1
    have hc1_1 : w1.heap.size < (w1.alloc (.cells #[.int .i64 a1, .slice p1 r1.length q1] 26)).heap.size := hs1
    have R1_1 := Lib.hid (o1.reads.below hA1 (Nat.le_refl _))
    have hR1_1 : w1.heap.size ≤ (w1.alloc (.cells #[.int .i64 a1, .slice p1 r1.length q1] 26)).heap.size := Nat.le_of_lt hs1
    generalize w1.alloc (.cells #[.int .i64 a1, .slice p1 r1.length q1] 26) = W1 at bb1 sz1 R1_0 hR1_0 Bw1 c1_0 hc1_0 c1_1 hc1_1 R1_1 hR1_1 ⊢
    clear bb1 sz1
    clear R0_0 hR0_0 Bw0 G1 o1 b1 hA1 hs1
    generalize w1.heap.size = g1 at *
    have k1_0 := fun p : Past W1 => Past.cell (W := W1) c1_0 hc1_0 p
    have k1_1 := fun p : Past W1 => Past.cell (W := W1) c1_1 hc1_1 p
    obtain ⟨L, hL⟩ : ∃ L, concepts a1 r1 = L := ⟨_, rfl⟩
    have EL := Lib.hid hL
    have hl64 : L.length ≤ 64 := by rw [← hL]; exact concepts_64 _ _
    have HL := Lib.hid fun p : Past W1 => p.ofPairs (impl_concepts a1 _ r1 g1 p.w (Past.reads R1_1.out hR1_1 p) (Past.len hR1_1 p))
    rw [hL] at HL
    clear hL
    go_wp2_with fail
    refine (HL.out (Past.start W1)).mono ?_
    rintro e _ ⟨pL, qL, rfl, z2, rfl, hrL⟩
    have bb2 := z2.h
    have sz2 := bb2.size
    have c2_0 : (z2.w).cell? ⟨g1, 0, none⟩ = some (.int .i64 a1) := (bb2.cell (p := ⟨g1, 0, none⟩) hc1_0).trans c1_0
    have hc2_0 : g1 < (z2.w).heap.size := Nat.lt_of_lt_of_le hc1_0 sz2
    have c2_1 : (z2.w).cell? ⟨g1, 1, none⟩ = some (.slice p1 r1.length q1) := (bb2.cell (p := ⟨g1, 1, none⟩) hc1_1).trans c1_1
    have hc2_1 : g1 < (z2.w).heap.size := Nat.lt_of_lt_of_le hc1_1 sz2
    have R2_0 := Lib.hid (R1_0.out.below bb2 hR1_0)
    have hR2_0 : w.heap.size ≤ (z2.w).heap.size := Nat.le_trans hR1_0 sz2
    have R2_1 := Lib.hid (R1_1.out.below bb2 hR1_1)
    have hR2_1 : g1 ≤ (z2.w).heap.size := Nat.le_trans hR1_1 sz2
    have Bw2 := Lib.hid (Bw1.out.trans (bb2.mono Bw1.out.size))
    have R2_2 := Lib.hid (hrL)
    have hR2_2 : z2.w.heap.size ≤ (z2.w).heap.size := Nat.le_refl _
    generalize z2.w = W2 at bb2 sz2 c2_0 hc2_0 c2_1 hc2_1 R2_0 hR2_0 R2_1 hR2_1 Bw2 R2_2 hR2_2 hrL ⊢
    clear bb2 sz2
    clear c1_0 c1_1 hc1_0 hc1_1 R1_0 R1_1 hR1_0 hR1_1 k1_0 k1_1 Bw1 hrL HL z2
    have k2_0 := fun p : Past W2 => Past.cell (W := W2) c2_0 hc2_0 p
    have k2_1 := fun p : Past W2 => Past.cell (W := W2) c2_1 hc2_1 p
    go_wp2_with fail
    refine (DrawIsConcept v xs w.heap.size (Past.start W2).w (Past.reads R2_0.out hR2_0 (Past.start W2)) (Past.len hR2_0 (Past.start W2)) HX.out (by omega)).mono ?_
    rintro e w3 ⟨a3, x3, y3, u3, r3, rfl, -, o3, b3⟩
    obtain ⟨p3, q3, rfl⟩ := own_form o3
    have hA3 := ((Below.refl w3.heap.size w3).alloc (Nat.le_refl _) (.cells #[.int .i64 a3, .slice p3 r3.length q3] 26)).alloc (by simp) (.cells #[.int .i64 x3, .int .i64 y3] 38)
    go_upto_region 6 with fail
    have hs3 : w3.heap.size < ((w3.alloc (.cells #[.int .i64 a3, .slice p3 r3.length q3] 26)).alloc (.cells #[.int .i64 x3, .int .i64 y3] 38)).heap.size := by simp; omega
    have ht3 : w3.heap.size + 1 < ((w3.alloc (.cells #[.int .i64 a3, .slice p3 r3.length q3] 26)).alloc (.cells #[.int .i64 x3, .int .i64 y3] 38)).heap.size := by simp
    have G3 := (BoxAt.new w3 26 #[.int .i64 a3, .slice p3 r3.length q3]).alloc (.cells #[.int .i64 x3, .int .i64 y3] 38)
    have H3 : BoxAt ((w3.alloc (.cells #[.int .i64 a3, .slice p3 r3.length q3] 26)).alloc (.cells #[.int .i64 x3, .int .i64 y3] 38)) (w3.heap.size + 1) 38 #[.int .i64 x3, .int .i64 y3] := by have := BoxAt.new (w3.alloc (.cells #[.int .i64 a3, .slice p3 r3.length q3] 26)) 38 #[.int .i64 x3, .int .i64 y3]; simpa using this
    have bb3 := (Past.start W2).h.trans ((b3.trans (hA3.mono b3.size)).mono (Past.start W2).h.size)
    have sz3 := bb3.size
    have c3_0 : ((w3.alloc (.cells #[.int .i64 a3, .slice p3 r3.length q3] 26)).alloc (.cells #[.int .i64 x3, .int .i64 y3] 38)).cell? ⟨g1, 0, none⟩ = some (.int .i64 a1) := (bb3.cell (p := ⟨g1, 0, none⟩) hc2_0).trans c2_0
    have hc3_0 : g1 < ((w3.alloc (.cells #[.int .i64 a3, .slice p3 r3.length q3] 26)).alloc (.cells #[.int .i64 x3, .int .i64 y3] 38)).heap.size := Nat.lt_of_lt_of_le hc2_0 sz3
    have c3_1 : ((w3.alloc (.cells #[.int .i64 a3, .slice p3 r3.length q3] 26)).alloc (.cells #[.int .i64 x3, .int .i64 y3] 38)).cell? ⟨g1, 1, none⟩ = some (.slice p1 r1.length q1) := (bb3.cell (p := ⟨g1, 1, none⟩) hc2_1).trans c2_1
    have hc3_1 : g1 < ((w3.alloc (.cells #[.int .i64 a3, .slice p3 r3.length q3] 26)).alloc (.cells #[.int .i64 x3, .int .i64 y3] 38)).heap.size := Nat.lt_of_lt_of_le hc2_1 sz3
    have R3_0 := Lib.hid (R2_0.out.below bb3 hR2_0)
    have hR3_0 : w.heap.size ≤ ((w3.alloc (.cells #[.int .i64 a3, .slice p3 r3.length q3] 26)).alloc (.cells #[.int .i64 x3, .int .i64 y3] 38)).heap.size := Nat.le_trans hR2_0 sz3
    have R3_1 := Lib.hid (R2_1.out.below bb3 hR2_1)
    have hR3_1 : g1 ≤ ((w3.alloc (.cells #[.int .i64 a3, .slice p3 r3.length q3] 26)).alloc (.cells #[.int .i64 x3, .int .i64 y3] 38)).heap.size := Nat.le_trans hR2_1 sz3
    have R3_2 := Lib.hid (R2_2.out.below bb3 hR2_2)
    have hR3_2 : W2.heap.size ≤ ((w3.alloc (.cells #[.int .i64 a3, .slice p3 r3.length q3] 26)).alloc (.cells #[.int .i64 x3, .int .i64 y3] 38)).heap.size := Nat.le_trans hR2_2 sz3
    have Bw3 := Lib.hid (Bw2.out.trans (bb3.mono Bw2.out.size))
    have c3_2 : ((w3.alloc (.cells #[.int .i64 a3, .slice p3 r3.length q3] 26)).alloc (.cells #[.int .i64 x3, .int .i64 y3] 38)).cell? ⟨w3.heap.size, 0, none⟩ = some (.int .i64 a3) := G3.cell 0
    have hc3_2 : w3.heap.size < ((w3.alloc (.cells #[.int .i64 a3, .slice p3 r3.length q3] 26)).alloc (.cells #[.int .i64 x3, .int .i64 y3] 38)).heap.size := hs3
    have c3_3 : ((w3.alloc (.cells #[.int .i64 a3, .slice p3 r3.length q3] 26)).alloc (.cells #[.int .i64 x3, .int .i64 y3] 38)).cell? ⟨w3.heap.size, 1, none⟩ = some (.slice p3 r3.length q3) := G3.cell 1
    have hc3_3 : w3.heap.size < ((w3.alloc (.cells #[.int .i64 a3, .slice p3 r3.length q3] 26)).alloc (.cells #[.int .i64 x3, .int .i64 y3] 38)).heap.size := hs3
    have c3_4 : ((w3.alloc (.cells #[.int .i64 a3, .slice p3 r3.length q3] 26)).alloc (.cells #[.int .i64 x3, .int .i64 y3] 38)).cell? ⟨w3.heap.size + 1, 0, none⟩ = some (.int .i64 x3) := H3.cell 0
    have hc3_4 : w3.heap.size + 1 < ((w3.alloc (.cells #[.int .i64 a3, .slice p3 r3.length q3] 26)).alloc (.cells #[.int .i64 x3, .int .i64 y3] 38)).heap.size := ht3
    have c3_5 : ((w3.alloc (.cells #[.int .i64 a3, .slice p3 r3.length q3] 26)).alloc (.cells #[.int .i64 x3, .int .i64 y3] 38)).cell? ⟨w3.heap.size + 1, 1, none⟩ = some (.int .i64 y3) := H3.cell 1
    have hc3_5 : w3.heap.size + 1 < ((w3.alloc (.cells #[.int .i64 a3, .slice p3 r3.length q3] 26)).alloc (.cells #[.int .i64 x3, .int .i64 y3] 38)).heap.size := ht3
    have R3_3 := Lib.hid (o3.reads.below hA3 (Nat.le_refl _))
    have hR3_3 : w3.heap.size ≤ ((w3.alloc (.cells #[.int .i64 a3, .slice p3 r3.length q3] 26)).alloc (.cells #[.int .i64 x3, .int .i64 y3] 38)).heap.size := Nat.le_of_lt hs3
    generalize (w3.alloc (.cells #[.int .i64 a3, .slice p3 r3.length q3] 26)).alloc (.cells #[.int .i64 x3, .int .i64 y3] 38) = W3 at bb3 sz3 c3_0 hc3_0 c3_1 hc3_1 R3_0 hR3_0 R3_1 hR3_1 R3_2 hR3_2 Bw3 c3_2 hc3_2 c3_3 hc3_3 c3_4 hc3_4 c3_5 hc3_5 R3_3 hR3_3 ⊢
    clear bb3 sz3
    clear c2_0 c2_1 hc2_0 hc2_1 R2_0 R2_1 R2_2 hR2_0 hR2_1 hR2_2 k2_0 k2_1 Bw2 G3 H3 o3 b3 hA3 hs3 ht3
    generalize w3.heap.size = g3 at *
    have k3_0 := fun p : Past W3 => Past.cell (W := W3) c3_0 hc3_0 p
    have k3_1 := fun p : Past W3 => Past.cell (W := W3) c3_1 hc3_1 p
    have k3_2 := fun p : Past W3 => Past.cell (W := W3) c3_2 hc3_2 p
    have k3_3 := fun p : Past W3 => Past.cell (W := W3) c3_3 hc3_3 p
    have k3_4 := fun p : Past W3 => Past.cell (W := W3) c3_4 hc3_4 p
    have k3_5 := fun p : Past W3 => Past.cell (W := W3) c3_5 hc3_5 p
    go_wp2_with fail
    refine (DrawNextClosed v xs w.heap.size (Past.start W3).w (Past.reads R3_0.out hR3_0 (Past.start W3)) (Past.len hR3_0 (Past.start W3)) HX.out (by omega)).mono ?_
    rintro e w4 ⟨a4, x4, u4, r4, rfl, -, o4, b4⟩
    obtain ⟨p4, q4, rfl⟩ := own_form o4
    have hA4 := (Below.refl w4.heap.size w4).alloc (Nat.le_refl _) (.cells #[.int .i64 a4, .slice p4 r4.length q4] 26)
    go_upto_region 7 with fail
    have hs4 : w4.heap.size < (w4.alloc (.cells #[.int .i64 a4, .slice p4 r4.length q4] 26)).heap.size := by simp
    have G4 := BoxAt.new w4 26 #[.int .i64 a4, .slice p4 r4.length q4]
    have bb4 := (Past.start W3).h.trans ((b4.trans (hA4.mono b4.size)).mono (Past.start W3).h.size)
    have sz4 := bb4.size
    have c4_0 : (w4.alloc (.cells #[.int .i64 a4, .slice p4 r4.length q4] 26)).cell? ⟨g1, 0, none⟩ = some (.int .i64 a1) := (bb4.cell (p := ⟨g1, 0, none⟩) hc3_0).trans c3_0
    have hc4_0 : g1 < (w4.alloc (.cells #[.int .i64 a4, .slice p4 r4.length q4] 26)).heap.size := Nat.lt_of_lt_of_le hc3_0 sz4
    have c4_1 : (w4.alloc (.cells #[.int .i64 a4, .slice p4 r4.length q4] 26)).cell? ⟨g1, 1, none⟩ = some (.slice p1 r1.length q1) := (bb4.cell (p := ⟨g1, 1, none⟩) hc3_1).trans c3_1
    have hc4_1 : g1 < (w4.alloc (.cells #[.int .i64 a4, .slice p4 r4.length q4] 26)).heap.size := Nat.lt_of_lt_of_le hc3_1 sz4
    have c4_2 : (w4.alloc (.cells #[.int .i64 a4, .slice p4 r4.length q4] 26)).cell? ⟨g3, 0, none⟩ = some (.int .i64 a3) := (bb4.cell (p := ⟨g3, 0, none⟩) hc3_2).trans c3_2
    have hc4_2 : g3 < (w4.alloc (.cells #[.int .i64 a4, .slice p4 r4.length q4] 26)).heap.size := Nat.lt_of_lt_of_le hc3_2 sz4
    have c4_3 : (w4.alloc (.cells #[.int .i64 a4, .slice p4 r4.length q4] 26)).cell? ⟨g3, 1, none⟩ = some (.slice p3 r3.length q3) := (bb4.cell (p := ⟨g3, 1, none⟩) hc3_3).trans c3_3
    have hc4_3 : g3 < (w4.alloc (.cells #[.int .i64 a4, .slice p4 r4.length q4] 26)).heap.size := Nat.lt_of_lt_of_le hc3_3 sz4
    have c4_4 : (w4.alloc (.cells #[.int .i64 a4, .slice p4 r4.length q4] 26)).cell? ⟨g3 + 1, 0, none⟩ = some (.int .i64 x3) := (bb4.cell (p := ⟨g3 + 1, 0, none⟩) hc3_4).trans c3_4
    have hc4_4 : g3 + 1 < (w4.alloc (.cells #[.int .i64 a4, .slice p4 r4.length q4] 26)).heap.size := Nat.lt_of_lt_of_le hc3_4 sz4
    have c4_5 : (w4.alloc (.cells #[.int .i64 a4, .slice p4 r4.length q4] 26)).cell? ⟨g3 + 1, 1, none⟩ = some (.int .i64 y3) := (bb4.cell (p := ⟨g3 + 1, 1, none⟩) hc3_5).trans c3_5
    have hc4_5 : g3 + 1 < (w4.alloc (.cells #[.int .i64 a4, .slice p4 r4.length q4] 26)).heap.size := Nat.lt_of_lt_of_le hc3_5 sz4
    have R4_0 := Lib.hid (R3_0.out.below bb4 hR3_0)
    have hR4_0 : w.heap.size ≤ (w4.alloc (.cells #[.int .i64 a4, .slice p4 r4.length q4] 26)).heap.size := Nat.le_trans hR3_0 sz4
    have R4_1 := Lib.hid (R3_1.out.below bb4 hR3_1)
    have hR4_1 : g1 ≤ (w4.alloc (.cells #[.int .i64 a4, .slice p4 r4.length q4] 26)).heap.size := Nat.le_trans hR3_1 sz4
    have R4_2 := Lib.hid (R3_2.out.below bb4 hR3_2)
    have hR4_2 : W2.heap.size ≤ (w4.alloc (.cells #[.int .i64 a4, .slice p4 r4.length q4] 26)).heap.size := Nat.le_trans hR3_2 sz4
    have R4_3 := Lib.hid (R3_3.out.below bb4 hR3_3)
    have hR4_3 : g3 ≤ (w4.alloc (.cells #[.int .i64 a4, .slice p4 r4.length q4] 26)).heap.size := Nat.le_trans hR3_3 sz4
    have Bw4 := Lib.hid (Bw3.out.trans (bb4.mono Bw3.out.size))
    have c4_6 : (w4.alloc (.cells #[.int .i64 a4, .slice p4 r4.length q4] 26)).cell? ⟨w4.heap.size, 0, none⟩ = some (.int .i64 a4) := G4.cell 0
    have hc4_6 : w4.heap.size < (w4.alloc (.cells #[.int .i64 a4, .slice p4 r4.length q4] 26)).heap.size := hs4
    have c4_7 : (w4.alloc (.cells #[.int .i64 a4, .slice p4 r4.length q4] 26)).cell? ⟨w4.heap.size, 1, none⟩ = some (.slice p4 r4.length q4) := G4.cell 1
    have hc4_7 : w4.heap.size < (w4.alloc (.cells #[.int .i64 a4, .slice p4 r4.length q4] 26)).heap.size := hs4
    have R4_4 := Lib.hid (o4.reads.below hA4 (Nat.le_refl _))
    have hR4_4 : w4.heap.size ≤ (w4.alloc (.cells #[.int .i64 a4, .slice p4 r4.length q4] 26)).heap.size := Nat.le_of_lt hs4
    generalize w4.alloc (.cells #[.int .i64 a4, .slice p4 r4.length q4] 26) = W4 at bb4 sz4 c4_0 hc4_0 c4_1 hc4_1 c4_2 hc4_2 c4_3 hc4_3 c4_4 hc4_4 c4_5 hc4_5 R4_0 hR4_0 R4_1 hR4_1 R4_2 hR4_2 R4_3 hR4_3 Bw4 c4_6 hc4_6 c4_7 hc4_7 R4_4 hR4_4 ⊢
    clear bb4 sz4
    clear c3_0 c3_1 c3_2 c3_3 c3_4 c3_5 hc3_0 hc3_1 hc3_2 hc3_3 hc3_4 hc3_5 R3_0 R3_1 R3_2 R3_3 hR3_0 hR3_1 hR3_2 hR3_3 k3_0 k3_1 k3_2 k3_3 k3_4 k3_5 Bw3 G4 o4 b4 hA4 hs4
    generalize w4.heap.size = g4 at *
    have k4_0 := fun p : Past W4 => Past.cell (W := W4) c4_0 hc4_0 p
    have k4_1 := fun p : Past W4 => Past.cell (W := W4) c4_1 hc4_1 p
    have k4_2 := fun p : Past W4 => Past.cell (W := W4) c4_2 hc4_2 p
    have k4_3 := fun p : Past W4 => Past.cell (W := W4) c4_3 hc4_3 p
    have k4_4 := fun p : Past W4 => Past.cell (W := W4) c4_4 hc4_4 p
    have k4_5 := fun p : Past W4 => Past.cell (W := W4) c4_5 hc4_5 p
    have k4_6 := fun p : Past W4 => Past.cell (W := W4) c4_6 hc4_6 p
    have k4_7 := fun p : Past W4 => Past.cell (W := W4) c4_7 hc4_7 p
    obtain ⟨n5, hn5⟩ : ∃ n, (nextClosed a4 r4 x4).getD 0 = n := ⟨_, rfl⟩
    obtain ⟨k5, hk5⟩ : ∃ n, (nextClosed a4 r4 x4).isSome = n := ⟨_, rfl⟩
    have hT5 : optV (nextClosed a4 r4 x4) = .tuple #[.int .i64 (n5 : Nat), .bool k5] := by rw [optV, hn5, hk5]
    have EN5 := Lib.hid hn5
    have EK5 := Lib.hid hk5
    have ET5 := Lib.hid hT5
    clear hn5 hk5 hT5
    go_wp2_with fail
    have HC5 := impl_next a4 _ r4 x4 g4 (Past.start W4).w (Past.reads R4_4.out hR4_4 (Past.start W4)) (Past.len hR4_4 (Past.start W4))
    rw [ET5.out] at HC5
    refine HC5.mono ?_
    clear HC5
    rintro e w5 ⟨rfl, b5⟩
    have bb5 := (Past.start W4).h.trans (b5.mono (Past.start W4).h.size)
    have sz5 := bb5.size
    have c5_0 : (w5).cell? ⟨g1, 0, none⟩ = some (.int .i64 a1) := (bb5.cell (p := ⟨g1, 0, none⟩) hc4_0).trans c4_0
    have hc5_0 : g1 < (w5).heap.size := Nat.lt_of_lt_of_le hc4_0 sz5
    have c5_1 : (w5).cell? ⟨g1, 1, none⟩ = some (.slice p1 r1.length q1) := (bb5.cell (p := ⟨g1, 1, none⟩) hc4_1).trans c4_1
    have hc5_1 : g1 < (w5).heap.size := Nat.lt_of_lt_of_le hc4_1 sz5
    have c5_2 : (w5).cell? ⟨g3, 0, none⟩ = some (.int .i64 a3) := (bb5.cell (p := ⟨g3, 0, none⟩) hc4_2).trans c4_2
    have hc5_2 : g3 < (w5).heap.size := Nat.lt_of_lt_of_le hc4_2 sz5
    have c5_3 : (w5).cell? ⟨g3, 1, none⟩ = some (.slice p3 r3.length q3) := (bb5.cell (p := ⟨g3, 1, none⟩) hc4_3).trans c4_3
    have hc5_3 : g3 < (w5).heap.size := Nat.lt_of_lt_of_le hc4_3 sz5
    have c5_4 : (w5).cell? ⟨g3 + 1, 0, none⟩ = some (.int .i64 x3) := (bb5.cell (p := ⟨g3 + 1, 0, none⟩) hc4_4).trans c4_4
    have hc5_4 : g3 + 1 < (w5).heap.size := Nat.lt_of_lt_of_le hc4_4 sz5
    have c5_5 : (w5).cell? ⟨g3 + 1, 1, none⟩ = some (.int .i64 y3) := (bb5.cell (p := ⟨g3 + 1, 1, none⟩) hc4_5).trans c4_5
    have hc5_5 : g3 + 1 < (w5).heap.size := Nat.lt_of_lt_of_le hc4_5 sz5
    have c5_6 : (w5).cell? ⟨g4, 0, none⟩ = some (.int .i64 a4) := (bb5.cell (p := ⟨g4, 0, none⟩) hc4_6).trans c4_6
    have hc5_6 : g4 < (w5).heap.size := Nat.lt_of_lt_of_le hc4_6 sz5
    have c5_7 : (w5).cell? ⟨g4, 1, none⟩ = some (.slice p4 r4.length q4) := (bb5.cell (p := ⟨g4, 1, none⟩) hc4_7).trans c4_7
    have hc5_7 : g4 < (w5).heap.size := Nat.lt_of_lt_of_le hc4_7 sz5
    have R5_0 := Lib.hid (R4_0.out.below bb5 hR4_0)
    have hR5_0 : w.heap.size ≤ (w5).heap.size := Nat.le_trans hR4_0 sz5
    have R5_1 := Lib.hid (R4_1.out.below bb5 hR4_1)
    have hR5_1 : g1 ≤ (w5).heap.size := Nat.le_trans hR4_1 sz5
    have R5_2 := Lib.hid (R4_2.out.below bb5 hR4_2)
    have hR5_2 : W2.heap.size ≤ (w5).heap.size := Nat.le_trans hR4_2 sz5
    have R5_3 := Lib.hid (R4_3.out.below bb5 hR4_3)
    have hR5_3 : g3 ≤ (w5).heap.size := Nat.le_trans hR4_3 sz5
    have R5_4 := Lib.hid (R4_4.out.below bb5 hR4_4)
    have hR5_4 : g4 ≤ (w5).heap.size := Nat.le_trans hR4_4 sz5
    have Bw5 := Lib.hid (Bw4.out.trans (bb5.mono Bw4.out.size))
    generalize w5 = W5 at bb5 sz5 c5_0 hc5_0 c5_1 hc5_1 c5_2 hc5_2 c5_3 hc5_3 c5_4 hc5_4 c5_5 hc5_5 c5_6 hc5_6 c5_7 hc5_7 R5_0 hR5_0 R5_1 hR5_1 R5_2 hR5_2 R5_3 hR5_3 R5_4 hR5_4 Bw5 ⊢
    clear bb5 sz5
    clear c4_0 c4_1 c4_2 c4_3 c4_4 c4_5 c4_6 c4_7 hc4_0 hc4_1 hc4_2 hc4_3 hc4_4 hc4_5 hc4_6 hc4_7 R4_0 R4_1 R4_2 R4_3 R4_4 hR4_0 hR4_1 hR4_2 hR4_3 hR4_4 k4_0 k4_1 k4_2 k4_3 k4_4 k4_5 k4_6 k4_7 Bw4 b5
    have k5_0 := fun p : Past W5 => Past.cell (W := W5) c5_0 hc5_0 p
    have k5_1 := fun p : Past W5 => Past.cell (W := W5) c5_1 hc5_1 p
    have k5_2 := fun p : Past W5 => Past.cell (W := W5) c5_2 hc5_2 p
    have k5_3 := fun p : Past W5 => Past.cell (W := W5) c5_3 hc5_3 p
    have k5_4 := fun p : Past W5 => Past.cell (W := W5) c5_4 hc5_4 p
    have k5_5 := fun p : Past W5 => Past.cell (W := W5) c5_5 hc5_5 p
    have k5_6 := fun p : Past W5 => Past.cell (W := W5) c5_6 hc5_6 p
    have k5_7 := fun p : Past W5 => Past.cell (W := W5) c5_7 hc5_7 p
    go_wp2_with fail
    have HC6 := spec_next a4 _ r4 x4 g4 (Past.start W5).w (Past.reads R5_4.out hR5_4 (Past.start W5)) (Past.len hR5_4 (Past.start W5))
    rw [ET5.out] at HC6
    refine HC6.mono ?_
    clear HC6
    rintro e w6 ⟨rfl, b6⟩
    have bb6 := (Past.start W5).h.trans (b6.mono (Past.start W5).h.size)
    have sz6 := bb6.size
    have c6_0 : (w6).cell? ⟨g1, 0, none⟩ = some (.int .i64 a1) := (bb6.cell (p := ⟨g1, 0, none⟩) hc5_0).trans c5_0
    have hc6_0 : g1 < (w6).heap.size := Nat.lt_of_lt_of_le hc5_0 sz6
    have c6_1 : (w6).cell? ⟨g1, 1, none⟩ = some (.slice p1 r1.length q1) := (bb6.cell (p := ⟨g1, 1, none⟩) hc5_1).trans c5_1
    have hc6_1 : g1 < (w6).heap.size := Nat.lt_of_lt_of_le hc5_1 sz6
    have c6_2 : (w6).cell? ⟨g3, 0, none⟩ = some (.int .i64 a3) := (bb6.cell (p := ⟨g3, 0, none⟩) hc5_2).trans c5_2
    have hc6_2 : g3 < (w6).heap.size := Nat.lt_of_lt_of_le hc5_2 sz6
    have c6_3 : (w6).cell? ⟨g3, 1, none⟩ = some (.slice p3 r3.length q3) := (bb6.cell (p := ⟨g3, 1, none⟩) hc5_3).trans c5_3
    have hc6_3 : g3 < (w6).heap.size := Nat.lt_of_lt_of_le hc5_3 sz6
    have c6_4 : (w6).cell? ⟨g3 + 1, 0, none⟩ = some (.int .i64 x3) := (bb6.cell (p := ⟨g3 + 1, 0, none⟩) hc5_4).trans c5_4
    have hc6_4 : g3 + 1 < (w6).heap.size := Nat.lt_of_lt_of_le hc5_4 sz6
    have c6_5 : (w6).cell? ⟨g3 + 1, 1, none⟩ = some (.int .i64 y3) := (bb6.cell (p := ⟨g3 + 1, 1, none⟩) hc5_5).trans c5_5
    have hc6_5 : g3 + 1 < (w6).heap.size := Nat.lt_of_lt_of_le hc5_5 sz6
    have c6_6 : (w6).cell? ⟨g4, 0, none⟩ = some (.int .i64 a4) := (bb6.cell (p := ⟨g4, 0, none⟩) hc5_6).trans c5_6
    have hc6_6 : g4 < (w6).heap.size := Nat.lt_of_lt_of_le hc5_6 sz6
    have c6_7 : (w6).cell? ⟨g4, 1, none⟩ = some (.slice p4 r4.length q4) := (bb6.cell (p := ⟨g4, 1, none⟩) hc5_7).trans c5_7
    have hc6_7 : g4 < (w6).heap.size := Nat.lt_of_lt_of_le hc5_7 sz6
    have R6_0 := Lib.hid (R5_0.out.below bb6 hR5_0)
    have hR6_0 : w.heap.size ≤ (w6).heap.size := Nat.le_trans hR5_0 sz6
    have R6_1 := Lib.hid (R5_1.out.below bb6 hR5_1)
    have hR6_1 : g1 ≤ (w6).heap.size := Nat.le_trans hR5_1 sz6
    have R6_2 := Lib.hid (R5_2.out.below bb6 hR5_2)
    have hR6_2 : W2.heap.size ≤ (w6).heap.size := Nat.le_trans hR5_2 sz6
    have R6_3 := Lib.hid (R5_3.out.below bb6 hR5_3)
    have hR6_3 : g3 ≤ (w6).heap.size := Nat.le_trans hR5_3 sz6
    have R6_4 := Lib.hid (R5_4.out.below bb6 hR5_4)
    have hR6_4 : g4 ≤ (w6).heap.size := Nat.le_trans hR5_4 sz6
    have Bw6 := Lib.hid (Bw5.out.trans (bb6.mono Bw5.out.size))
    generalize w6 = W6 at bb6 sz6 c6_0 hc6_0 c6_1 hc6_1 c6_2 hc6_2 c6_3 hc6_3 c6_4 hc6_4 c6_5 hc6_5 c6_6 hc6_6 c6_7 hc6_7 R6_0 hR6_0 R6_1 hR6_1 R6_2 hR6_2 R6_3 hR6_3 R6_4 hR6_4 Bw6 ⊢
    clear bb6 sz6
    clear c5_0 c5_1 c5_2 c5_3 c5_4 c5_5 c5_6 c5_7 hc5_0 hc5_1 hc5_2 hc5_3 hc5_4 hc5_5 hc5_6 hc5_7 R5_0 R5_1 R5_2 R5_3 R5_4 hR5_0 hR5_1 hR5_2 hR5_3 hR5_4 k5_0 k5_1 k5_2 k5_3 k5_4 k5_5 k5_6 k5_7 Bw5 b6
    have k6_0 := fun p : Past W6 => Past.cell (W := W6) c6_0 hc6_0 p
    have k6_1 := fun p : Past W6 => Past.cell (W := W6) c6_1 hc6_1 p
    have k6_2 := fun p : Past W6 => Past.cell (W := W6) c6_2 hc6_2 p
    have k6_3 := fun p : Past W6 => Past.cell (W := W6) c6_3 hc6_3 p
    have k6_4 := fun p : Past W6 => Past.cell (W := W6) c6_4 hc6_4 p
    have k6_5 := fun p : Past W6 => Past.cell (W := W6) c6_5 hc6_5 p
    have k6_6 := fun p : Past W6 => Past.cell (W := W6) c6_6 hc6_6 p
    have k6_7 := fun p : Past W6 => Past.cell (W := W6) c6_7 hc6_7 p
    go_wp2_with fail
    refine (DrawConceptAt v xs w.heap.size (Past.start W6).w (Past.reads R6_0.out hR6_0 (Past.start W6)) (Past.len hR6_0 (Past.start W6)) HX.out (by omega)).mono ?_
    rintro e w7 ⟨a7, x7, u7, r7, rfl, -, o7, b7⟩
    obtain ⟨p7, q7, rfl⟩ := own_form o7
    have hA7 := (Below.refl w7.heap.size w7).alloc (Nat.le_refl _) (.cells #[.int .i64 a7, .slice p7 r7.length q7] 26)
    go_upto_region 10 with fail
    have hs7 : w7.heap.size < (w7.alloc (.cells #[.int .i64 a7, .slice p7 r7.length q7] 26)).heap.size := by simp
    have G7 := BoxAt.new w7 26 #[.int .i64 a7, .slice p7 r7.length q7]
    have bb7 := (Past.start W6).h.trans ((b7.trans (hA7.mono b7.size)).mono (Past.start W6).h.size)
    have sz7 := bb7.size
    have c7_0 : (w7.alloc (.cells #[.int .i64 a7, .slice p7 r7.length q7] 26)).cell? ⟨g1, 0, none⟩ = some (.int .i64 a1) := (bb7.cell (p := ⟨g1, 0, none⟩) hc6_0).trans c6_0
    have hc7_0 : g1 < (w7.alloc (.cells #[.int .i64 a7, .slice p7 r7.length q7] 26)).heap.size := Nat.lt_of_lt_of_le hc6_0 sz7
    have c7_1 : (w7.alloc (.cells #[.int .i64 a7, .slice p7 r7.length q7] 26)).cell? ⟨g1, 1, none⟩ = some (.slice p1 r1.length q1) := (bb7.cell (p := ⟨g1, 1, none⟩) hc6_1).trans c6_1
    have hc7_1 : g1 < (w7.alloc (.cells #[.int .i64 a7, .slice p7 r7.length q7] 26)).heap.size := Nat.lt_of_lt_of_le hc6_1 sz7
    have c7_2 : (w7.alloc (.cells #[.int .i64 a7, .slice p7 r7.length q7] 26)).cell? ⟨g3, 0, none⟩ = some (.int .i64 a3) := (bb7.cell (p := ⟨g3, 0, none⟩) hc6_2).trans c6_2
    have hc7_2 : g3 < (w7.alloc (.cells #[.int .i64 a7, .slice p7 r7.length q7] 26)).heap.size := Nat.lt_of_lt_of_le hc6_2 sz7
    have c7_3 : (w7.alloc (.cells #[.int .i64 a7, .slice p7 r7.length q7] 26)).cell? ⟨g3, 1, none⟩ = some (.slice p3 r3.length q3) := (bb7.cell (p := ⟨g3, 1, none⟩) hc6_3).trans c6_3
    have hc7_3 : g3 < (w7.alloc (.cells #[.int .i64 a7, .slice p7 r7.length q7] 26)).heap.size := Nat.lt_of_lt_of_le hc6_3 sz7
    have c7_4 : (w7.alloc (.cells #[.int .i64 a7, .slice p7 r7.length q7] 26)).cell? ⟨g3 + 1, 0, none⟩ = some (.int .i64 x3) := (bb7.cell (p := ⟨g3 + 1, 0, none⟩) hc6_4).trans c6_4
    have hc7_4 : g3 + 1 < (w7.alloc (.cells #[.int .i64 a7, .slice p7 r7.length q7] 26)).heap.size := Nat.lt_of_lt_of_le hc6_4 sz7
    have c7_5 : (w7.alloc (.cells #[.int .i64 a7, .slice p7 r7.length q7] 26)).cell? ⟨g3 + 1, 1, none⟩ = some (.int .i64 y3) := (bb7.cell (p := ⟨g3 + 1, 1, none⟩) hc6_5).trans c6_5
    have hc7_5 : g3 + 1 < (w7.alloc (.cells #[.int .i64 a7, .slice p7 r7.length q7] 26)).heap.size := Nat.lt_of_lt_of_le hc6_5 sz7
    have c7_6 : (w7.alloc (.cells #[.int .i64 a7, .slice p7 r7.length q7] 26)).cell? ⟨g4, 0, none⟩ = some (.int .i64 a4) := (bb7.cell (p := ⟨g4, 0, none⟩) hc6_6).trans c6_6
    have hc7_6 : g4 < (w7.alloc (.cells #[.int .i64 a7, .slice p7 r7.length q7] 26)).heap.size := Nat.lt_of_lt_of_le hc6_6 sz7
    have c7_7 : (w7.alloc (.cells #[.int .i64 a7, .slice p7 r7.length q7] 26)).cell? ⟨g4, 1, none⟩ = some (.slice p4 r4.length q4) := (bb7.cell (p := ⟨g4, 1, none⟩) hc6_7).trans c6_7
    have hc7_7 : g4 < (w7.alloc (.cells #[.int .i64 a7, .slice p7 r7.length q7] 26)).heap.size := Nat.lt_of_lt_of_le hc6_7 sz7
    have R7_0 := Lib.hid (R6_0.out.below bb7 hR6_0)
    have hR7_0 : w.heap.size ≤ (w7.alloc (.cells #[.int .i64 a7, .slice p7 r7.length q7] 26)).heap.size := Nat.le_trans hR6_0 sz7
    have R7_1 := Lib.hid (R6_1.out.below bb7 hR6_1)
    have hR7_1 : g1 ≤ (w7.alloc (.cells #[.int .i64 a7, .slice p7 r7.length q7] 26)).heap.size := Nat.le_trans hR6_1 sz7
    have R7_2 := Lib.hid (R6_2.out.below bb7 hR6_2)
    have hR7_2 : W2.heap.size ≤ (w7.alloc (.cells #[.int .i64 a7, .slice p7 r7.length q7] 26)).heap.size := Nat.le_trans hR6_2 sz7
    have R7_3 := Lib.hid (R6_3.out.below bb7 hR6_3)
    have hR7_3 : g3 ≤ (w7.alloc (.cells #[.int .i64 a7, .slice p7 r7.length q7] 26)).heap.size := Nat.le_trans hR6_3 sz7
    have R7_4 := Lib.hid (R6_4.out.below bb7 hR6_4)
    have hR7_4 : g4 ≤ (w7.alloc (.cells #[.int .i64 a7, .slice p7 r7.length q7] 26)).heap.size := Nat.le_trans hR6_4 sz7
    have Bw7 := Lib.hid (Bw6.out.trans (bb7.mono Bw6.out.size))
    have c7_8 : (w7.alloc (.cells #[.int .i64 a7, .slice p7 r7.length q7] 26)).cell? ⟨w7.heap.size, 0, none⟩ = some (.int .i64 a7) := G7.cell 0
    have hc7_8 : w7.heap.size < (w7.alloc (.cells #[.int .i64 a7, .slice p7 r7.length q7] 26)).heap.size := hs7
    have c7_9 : (w7.alloc (.cells #[.int .i64 a7, .slice p7 r7.length q7] 26)).cell? ⟨w7.heap.size, 1, none⟩ = some (.slice p7 r7.length q7) := G7.cell 1
    have hc7_9 : w7.heap.size < (w7.alloc (.cells #[.int .i64 a7, .slice p7 r7.length q7] 26)).heap.size := hs7
    have R7_5 := Lib.hid (o7.reads.below hA7 (Nat.le_refl _))
    have hR7_5 : w7.heap.size ≤ (w7.alloc (.cells #[.int .i64 a7, .slice p7 r7.length q7] 26)).heap.size := Nat.le_of_lt hs7
    generalize w7.alloc (.cells #[.int .i64 a7, .slice p7 r7.length q7] 26) = W7 at bb7 sz7 c7_0 hc7_0 c7_1 hc7_1 c7_2 hc7_2 c7_3 hc7_3 c7_4 hc7_4 c7_5 hc7_5 c7_6 hc7_6 c7_7 hc7_7 R7_0 hR7_0 R7_1 hR7_1 R7_2 hR7_2 R7_3 hR7_3 R7_4 hR7_4 Bw7 c7_8 hc7_8 c7_9 hc7_9 R7_5 hR7_5 ⊢
    clear bb7 sz7
    clear c6_0 c6_1 c6_2 c6_3 c6_4 c6_5 c6_6 c6_7 hc6_0 hc6_1 hc6_2 hc6_3 hc6_4 hc6_5 hc6_6 hc6_7 R6_0 R6_1 R6_2 R6_3 R6_4 hR6_0 hR6_1 hR6_2 hR6_3 hR6_4 k6_0 k6_1 k6_2 k6_3 k6_4 k6_5 k6_6 k6_7 Bw6 G7 o7 b7 hA7 hs7
    generalize w7.heap.size = g7 at *
    have k7_0 := fun p : Past W7 => Past.cell (W := W7) c7_0 hc7_0 p
    have k7_1 := fun p : Past W7 => Past.cell (W := W7) c7_1 hc7_1 p
    have k7_2 := fun p : Past W7 => Past.cell (W := W7) c7_2 hc7_2 p
    have k7_3 := fun p : Past W7 => Past.cell (W := W7) c7_3 hc7_3 p
    have k7_4 := fun p : Past W7 => Past.cell (W := W7) c7_4 hc7_4 p
    have k7_5 := fun p : Past W7 => Past.cell (W := W7) c7_5 hc7_5 p
    have k7_6 := fun p : Past W7 => Past.cell (W := W7) c7_6 hc7_6 p
    have k7_7 := fun p : Past W7 => Past.cell (W := W7) c7_7 hc7_7 p
    have k7_8 := fun p : Past W7 => Past.cell (W := W7) c7_8 hc7_8 p
    have k7_9 := fun p : Past W7 => Past.cell (W := W7) c7_9 hc7_9 p
    obtain ⟨x8, hx8⟩ : ∃ n, ((conceptAt a7 r7 x7).getD (0, 0)).1 = n := ⟨_, rfl⟩
    obtain ⟨y8, hy8⟩ : ∃ n, ((conceptAt a7 r7 x7).getD (0, 0)).2 = n := ⟨_, rfl⟩
    obtain ⟨k8, hk8⟩ : ∃ n, (conceptAt a7 r7 x7).isSome = n := ⟨_, rfl⟩
    have hT8 : optC (conceptAt a7 r7 x7) = .tuple #[.agg #[.int .i64 x8, .int .i64 y8], .bool k8] := by rw [optC, hk8, ← hx8, ← hy8]
    have ET8 := Lib.hid hT8
    clear hx8 hy8 hk8 hT8
    go_wp2_with fail
    have HC8 := impl_conceptAt a7 _ r7 x7 g7 (Past.start W7).w (Past.reads R7_5.out hR7_5 (Past.start W7)) (Past.len hR7_5 (Past.start W7))
    rw [ET8.out] at HC8
    refine HC8.mono ?_
    clear HC8
    rintro e w8 ⟨rfl, b8⟩
    have hA8 := (Below.refl w8.heap.size w8).alloc (Nat.le_refl _) (.cells #[.int .i64 x8, .int .i64 y8] 38)
    go_upto_region 11 with fail
    have hs8 : w8.heap.size < (w8.alloc (.cells #[.int .i64 x8, .int .i64 y8] 38)).heap.size := by simp
    have G8 := BoxAt.new w8 38 #[.int .i64 x8, .int .i64 y8]
    have bb8 := (Past.start W7).h.trans ((b8.trans (hA8.mono b8.size)).mono (Past.start W7).h.size)
    have sz8 := bb8.size
    have c8_0 : (w8.alloc (.cells #[.int .i64 x8, .int .i64 y8] 38)).cell? ⟨g1, 0, none⟩ = some (.int .i64 a1) := (bb8.cell (p := ⟨g1, 0, none⟩) hc7_0).trans c7_0
    have hc8_0 : g1 < (w8.alloc (.cells #[.int .i64 x8, .int .i64 y8] 38)).heap.size := Nat.lt_of_lt_of_le hc7_0 sz8
    have c8_1 : (w8.alloc (.cells #[.int .i64 x8, .int .i64 y8] 38)).cell? ⟨g1, 1, none⟩ = some (.slice p1 r1.length q1) := (bb8.cell (p := ⟨g1, 1, none⟩) hc7_1).trans c7_1
    have hc8_1 : g1 < (w8.alloc (.cells #[.int .i64 x8, .int .i64 y8] 38)).heap.size := Nat.lt_of_lt_of_le hc7_1 sz8
    have c8_2 : (w8.alloc (.cells #[.int .i64 x8, .int .i64 y8] 38)).cell? ⟨g3, 0, none⟩ = some (.int .i64 a3) := (bb8.cell (p := ⟨g3, 0, none⟩) hc7_2).trans c7_2
    have hc8_2 : g3 < (w8.alloc (.cells #[.int .i64 x8, .int .i64 y8] 38)).heap.size := Nat.lt_of_lt_of_le hc7_2 sz8
    have c8_3 : (w8.alloc (.cells #[.int .i64 x8, .int .i64 y8] 38)).cell? ⟨g3, 1, none⟩ = some (.slice p3 r3.length q3) := (bb8.cell (p := ⟨g3, 1, none⟩) hc7_3).trans c7_3
    have hc8_3 : g3 < (w8.alloc (.cells #[.int .i64 x8, .int .i64 y8] 38)).heap.size := Nat.lt_of_lt_of_le hc7_3 sz8
    have c8_4 : (w8.alloc (.cells #[.int .i64 x8, .int .i64 y8] 38)).cell? ⟨g3 + 1, 0, none⟩ = some (.int .i64 x3) := (bb8.cell (p := ⟨g3 + 1, 0, none⟩) hc7_4).trans c7_4
    have hc8_4 : g3 + 1 < (w8.alloc (.cells #[.int .i64 x8, .int .i64 y8] 38)).heap.size := Nat.lt_of_lt_of_le hc7_4 sz8
    have c8_5 : (w8.alloc (.cells #[.int .i64 x8, .int .i64 y8] 38)).cell? ⟨g3 + 1, 1, none⟩ = some (.int .i64 y3) := (bb8.cell (p := ⟨g3 + 1, 1, none⟩) hc7_5).trans c7_5
    have hc8_5 : g3 + 1 < (w8.alloc (.cells #[.int .i64 x8, .int .i64 y8] 38)).heap.size := Nat.lt_of_lt_of_le hc7_5 sz8
    have c8_6 : (w8.alloc (.cells #[.int .i64 x8, .int .i64 y8] 38)).cell? ⟨g4, 0, none⟩ = some (.int .i64 a4) := (bb8.cell (p := ⟨g4, 0, none⟩) hc7_6).trans c7_6
    have hc8_6 : g4 < (w8.alloc (.cells #[.int .i64 x8, .int .i64 y8] 38)).heap.size := Nat.lt_of_lt_of_le hc7_6 sz8
    have c8_7 : (w8.alloc (.cells #[.int .i64 x8, .int .i64 y8] 38)).cell? ⟨g4, 1, none⟩ = some (.slice p4 r4.length q4) := (bb8.cell (p := ⟨g4, 1, none⟩) hc7_7).trans c7_7
    have hc8_7 : g4 < (w8.alloc (.cells #[.int .i64 x8, .int .i64 y8] 38)).heap.size := Nat.lt_of_lt_of_le hc7_7 sz8
    have c8_8 : (w8.alloc (.cells #[.int .i64 x8, .int .i64 y8] 38)).cell? ⟨g7, 0, none⟩ = some (.int .i64 a7) := (bb8.cell (p := ⟨g7, 0, none⟩) hc7_8).trans c7_8
    have hc8_8 : g7 < (w8.alloc (.cells #[.int .i64 x8, .int .i64 y8] 38)).heap.size := Nat.lt_of_lt_of_le hc7_8 sz8
    have c8_9 : (w8.alloc (.cells #[.int .i64 x8, .int .i64 y8] 38)).cell? ⟨g7, 1, none⟩ = some (.slice p7 r7.length q7) := (bb8.cell (p := ⟨g7, 1, none⟩) hc7_9).trans c7_9
    have hc8_9 : g7 < (w8.alloc (.cells #[.int .i64 x8, .int .i64 y8] 38)).heap.size := Nat.lt_of_lt_of_le hc7_9 sz8
    have R8_0 := Lib.hid (R7_0.out.below bb8 hR7_0)
    have hR8_0 : w.heap.size ≤ (w8.alloc (.cells #[.int .i64 x8, .int .i64 y8] 38)).heap.size := Nat.le_trans hR7_0 sz8
    have R8_1 := Lib.hid (R7_1.out.below bb8 hR7_1)
    have hR8_1 : g1 ≤ (w8.alloc (.cells #[.int .i64 x8, .int .i64 y8] 38)).heap.size := Nat.le_trans hR7_1 sz8
    have R8_2 := Lib.hid (R7_2.out.below bb8 hR7_2)
    have hR8_2 : W2.heap.size ≤ (w8.alloc (.cells #[.int .i64 x8, .int .i64 y8] 38)).heap.size := Nat.le_trans hR7_2 sz8
    have R8_3 := Lib.hid (R7_3.out.below bb8 hR7_3)
    have hR8_3 : g3 ≤ (w8.alloc (.cells #[.int .i64 x8, .int .i64 y8] 38)).heap.size := Nat.le_trans hR7_3 sz8
    have R8_4 := Lib.hid (R7_4.out.below bb8 hR7_4)
    have hR8_4 : g4 ≤ (w8.alloc (.cells #[.int .i64 x8, .int .i64 y8] 38)).heap.size := Nat.le_trans hR7_4 sz8
    have R8_5 := Lib.hid (R7_5.out.below bb8 hR7_5)
    have hR8_5 : g7 ≤ (w8.alloc (.cells #[.int .i64 x8, .int .i64 y8] 38)).heap.size := Nat.le_trans hR7_5 sz8
    have Bw8 := Lib.hid (Bw7.out.trans (bb8.mono Bw7.out.size))
    have c8_10 : (w8.alloc (.cells #[.int .i64 x8, .int .i64 y8] 38)).cell? ⟨w8.heap.size, 0, none⟩ = some (.int .i64 x8) := G8.cell 0
    have hc8_10 : w8.heap.size < (w8.alloc (.cells #[.int .i64 x8, .int .i64 y8] 38)).heap.size := hs8
    have c8_11 : (w8.alloc (.cells #[.int .i64 x8, .int .i64 y8] 38)).cell? ⟨w8.heap.size, 1, none⟩ = some (.int .i64 y8) := G8.cell 1
    have hc8_11 : w8.heap.size < (w8.alloc (.cells #[.int .i64 x8, .int .i64 y8] 38)).heap.size := hs8
    generalize w8.alloc (.cells #[.int .i64 x8, .int .i64 y8] 38) = W8 at bb8 sz8 c8_0 hc8_0 c8_1 hc8_1 c8_2 hc8_2 c8_3 hc8_3 c8_4 hc8_4 c8_5 hc8_5 c8_6 hc8_6 c8_7 hc8_7 c8_8 hc8_8 c8_9 hc8_9 R8_0 hR8_0 R8_1 hR8_1 R8_2 hR8_2 R8_3 hR8_3 R8_4 hR8_4 R8_5 hR8_5 Bw8 c8_10 hc8_10 c8_11 hc8_11 ⊢
    clear bb8 sz8
    clear c7_0 c7_1 c7_2 c7_3 c7_4 c7_5 c7_6 c7_7 c7_8 c7_9 hc7_0 hc7_1 hc7_2 hc7_3 hc7_4 hc7_5 hc7_6 hc7_7 hc7_8 hc7_9 R7_0 R7_1 R7_2 R7_3 R7_4 R7_5 hR7_0 hR7_1 hR7_2 hR7_3 hR7_4 hR7_5 k7_0 k7_1 k7_2 k7_3 k7_4 k7_5 k7_6 k7_7 k7_8 k7_9 Bw7 G8 b8 hA8 hs8
    generalize w8.heap.size = g8 at *
    have k8_0 := fun p : Past W8 => Past.cell (W := W8) c8_0 hc8_0 p
    have k8_1 := fun p : Past W8 => Past.cell (W := W8) c8_1 hc8_1 p
    have k8_2 := fun p : Past W8 => Past.cell (W := W8) c8_2 hc8_2 p
    have k8_3 := fun p : Past W8 => Past.cell (W := W8) c8_3 hc8_3 p
    have k8_4 := fun p : Past W8 => Past.cell (W := W8) c8_4 hc8_4 p
    have k8_5 := fun p : Past W8 => Past.cell (W := W8) c8_5 hc8_5 p
    have k8_6 := fun p : Past W8 => Past.cell (W := W8) c8_6 hc8_6 p
    have k8_7 := fun p : Past W8 => Past.cell (W := W8) c8_7 hc8_7 p
    have k8_8 := fun p : Past W8 => Past.cell (W := W8) c8_8 hc8_8 p
    have k8_9 := fun p : Past W8 => Past.cell (W := W8) c8_9 hc8_9 p
    have k8_10 := fun p : Past W8 => Past.cell (W := W8) c8_10 hc8_10 p
    have k8_11 := fun p : Past W8 => Past.cell (W := W8) c8_11 hc8_11 p
    go_wp2_with fail
    have HC9 := spec_conceptAt a7 _ r7 x7 g7 (Past.start W8).w (Past.reads R8_5.out hR8_5 (Past.start W8)) (Past.len hR8_5 (Past.start W8))
    rw [ET8.out] at HC9
    refine HC9.mono ?_
    clear HC9
    rintro e w9 ⟨rfl, b9⟩
    have hA9 := (Below.refl w9.heap.size w9).alloc (Nat.le_refl _) (.cells #[.int .i64 x8, .int .i64 y8] 38)
    go_upto_region 12 with fail
    have hs9 : w9.heap.size < (w9.alloc (.cells #[.int .i64 x8, .int .i64 y8] 38)).heap.size := by simp
    have G9 := BoxAt.new w9 38 #[.int .i64 x8, .int .i64 y8]
    have bb9 := (Past.start W8).h.trans ((b9.trans (hA9.mono b9.size)).mono (Past.start W8).h.size)
    have sz9 := bb9.size
    have c9_0 : (w9.alloc (.cells #[.int .i64 x8, .int .i64 y8] 38)).cell? ⟨g1, 0, none⟩ = some (.int .i64 a1) := (bb9.cell (p := ⟨g1, 0, none⟩) hc8_0).trans c8_0
    have hc9_0 : g1 < (w9.alloc (.cells #[.int .i64 x8, .int .i64 y8] 38)).heap.size := Nat.lt_of_lt_of_le hc8_0 sz9
    have c9_1 : (w9.alloc (.cells #[.int .i64 x8, .int .i64 y8] 38)).cell? ⟨g1, 1, none⟩ = some (.slice p1 r1.length q1) := (bb9.cell (p := ⟨g1, 1, none⟩) hc8_1).trans c8_1
    have hc9_1 : g1 < (w9.alloc (.cells #[.int .i64 x8, .int .i64 y8] 38)).heap.size := Nat.lt_of_lt_of_le hc8_1 sz9
    have c9_2 : (w9.alloc (.cells #[.int .i64 x8, .int .i64 y8] 38)).cell? ⟨g3, 0, none⟩ = some (.int .i64 a3) := (bb9.cell (p := ⟨g3, 0, none⟩) hc8_2).trans c8_2
    have hc9_2 : g3 < (w9.alloc (.cells #[.int .i64 x8, .int .i64 y8] 38)).heap.size := Nat.lt_of_lt_of_le hc8_2 sz9
    have c9_3 : (w9.alloc (.cells #[.int .i64 x8, .int .i64 y8] 38)).cell? ⟨g3, 1, none⟩ = some (.slice p3 r3.length q3) := (bb9.cell (p := ⟨g3, 1, none⟩) hc8_3).trans c8_3
    have hc9_3 : g3 < (w9.alloc (.cells #[.int .i64 x8, .int .i64 y8] 38)).heap.size := Nat.lt_of_lt_of_le hc8_3 sz9
    have c9_4 : (w9.alloc (.cells #[.int .i64 x8, .int .i64 y8] 38)).cell? ⟨g3 + 1, 0, none⟩ = some (.int .i64 x3) := (bb9.cell (p := ⟨g3 + 1, 0, none⟩) hc8_4).trans c8_4
    have hc9_4 : g3 + 1 < (w9.alloc (.cells #[.int .i64 x8, .int .i64 y8] 38)).heap.size := Nat.lt_of_lt_of_le hc8_4 sz9
    have c9_5 : (w9.alloc (.cells #[.int .i64 x8, .int .i64 y8] 38)).cell? ⟨g3 + 1, 1, none⟩ = some (.int .i64 y3) := (bb9.cell (p := ⟨g3 + 1, 1, none⟩) hc8_5).trans c8_5
    have hc9_5 : g3 + 1 < (w9.alloc (.cells #[.int .i64 x8, .int .i64 y8] 38)).heap.size := Nat.lt_of_lt_of_le hc8_5 sz9
    have c9_6 : (w9.alloc (.cells #[.int .i64 x8, .int .i64 y8] 38)).cell? ⟨g4, 0, none⟩ = some (.int .i64 a4) := (bb9.cell (p := ⟨g4, 0, none⟩) hc8_6).trans c8_6
    have hc9_6 : g4 < (w9.alloc (.cells #[.int .i64 x8, .int .i64 y8] 38)).heap.size := Nat.lt_of_lt_of_le hc8_6 sz9
    have c9_7 : (w9.alloc (.cells #[.int .i64 x8, .int .i64 y8] 38)).cell? ⟨g4, 1, none⟩ = some (.slice p4 r4.length q4) := (bb9.cell (p := ⟨g4, 1, none⟩) hc8_7).trans c8_7
    have hc9_7 : g4 < (w9.alloc (.cells #[.int .i64 x8, .int .i64 y8] 38)).heap.size := Nat.lt_of_lt_of_le hc8_7 sz9
    have c9_8 : (w9.alloc (.cells #[.int .i64 x8, .int .i64 y8] 38)).cell? ⟨g7, 0, none⟩ = some (.int .i64 a7) := (bb9.cell (p := ⟨g7, 0, none⟩) hc8_8).trans c8_8
    have hc9_8 : g7 < (w9.alloc (.cells #[.int .i64 x8, .int .i64 y8] 38)).heap.size := Nat.lt_of_lt_of_le hc8_8 sz9
    have c9_9 : (w9.alloc (.cells #[.int .i64 x8, .int .i64 y8] 38)).cell? ⟨g7, 1, none⟩ = some (.slice p7 r7.length q7) := (bb9.cell (p := ⟨g7, 1, none⟩) hc8_9).trans c8_9
    have hc9_9 : g7 < (w9.alloc (.cells #[.int .i64 x8, .int .i64 y8] 38)).heap.size := Nat.lt_of_lt_of_le hc8_9 sz9
    have c9_10 : (w9.alloc (.cells #[.int .i64 x8, .int .i64 y8] 38)).cell? ⟨g8, 0, none⟩ = some (.int .i64 x8) := (bb9.cell (p := ⟨g8, 0, none⟩) hc8_10).trans c8_10
    have hc9_10 : g8 < (w9.alloc (.cells #[.int .i64 x8, .int .i64 y8] 38)).heap.size := Nat.lt_of_lt_of_le hc8_10 sz9
    have c9_11 : (w9.alloc (.cells #[.int .i64 x8, .int .i64 y8] 38)).cell? ⟨g8, 1, none⟩ = some (.int .i64 y8) := (bb9.cell (p := ⟨g8, 1, none⟩) hc8_11).trans c8_11
    have hc9_11 : g8 < (w9.alloc (.cells #[.int .i64 x8, .int .i64 y8] 38)).heap.size := Nat.lt_of_lt_of_le hc8_11 sz9
    have R9_0 := Lib.hid (R8_0.out.below bb9 hR8_0)
    have hR9_0 : w.heap.size ≤ (w9.alloc (.cells #[.int .i64 x8, .int .i64 y8] 38)).heap.size := Nat.le_trans hR8_0 sz9
    have R9_1 := Lib.hid (R8_1.out.below bb9 hR8_1)
    have hR9_1 : g1 ≤ (w9.alloc (.cells #[.int .i64 x8, .int .i64 y8] 38)).heap.size := Nat.le_trans hR8_1 sz9
    have R9_2 := Lib.hid (R8_2.out.below bb9 hR8_2)
    have hR9_2 : W2.heap.size ≤ (w9.alloc (.cells #[.int .i64 x8, .int .i64 y8] 38)).heap.size := Nat.le_trans hR8_2 sz9
    have R9_3 := Lib.hid (R8_3.out.below bb9 hR8_3)
    have hR9_3 : g3 ≤ (w9.alloc (.cells #[.int .i64 x8, .int .i64 y8] 38)).heap.size := Nat.le_trans hR8_3 sz9
    have R9_4 := Lib.hid (R8_4.out.below bb9 hR8_4)
    have hR9_4 : g4 ≤ (w9.alloc (.cells #[.int .i64 x8, .int .i64 y8] 38)).heap.size := Nat.le_trans hR8_4 sz9
    have R9_5 := Lib.hid (R8_5.out.below bb9 hR8_5)
    have hR9_5 : g7 ≤ (w9.alloc (.cells #[.int .i64 x8, .int .i64 y8] 38)).heap.size := Nat.le_trans hR8_5 sz9
    have Bw9 := Lib.hid (Bw8.out.trans (bb9.mono Bw8.out.size))
    have c9_12 : (w9.alloc (.cells #[.int .i64 x8, .int .i64 y8] 38)).cell? ⟨w9.heap.size, 0, none⟩ = some (.int .i64 x8) := G9.cell 0
    have hc9_12 : w9.heap.size < (w9.alloc (.cells #[.int .i64 x8, .int .i64 y8] 38)).heap.size := hs9
    have c9_13 : (w9.alloc (.cells #[.int .i64 x8, .int .i64 y8] 38)).cell? ⟨w9.heap.size, 1, none⟩ = some (.int .i64 y8) := G9.cell 1
    have hc9_13 : w9.heap.size < (w9.alloc (.cells #[.int .i64 x8, .int .i64 y8] 38)).heap.size := hs9
    generalize w9.alloc (.cells #[.int .i64 x8, .int .i64 y8] 38) = W9 at bb9 sz9 c9_0 hc9_0 c9_1 hc9_1 c9_2 hc9_2 c9_3 hc9_3 c9_4 hc9_4 c9_5 hc9_5 c9_6 hc9_6 c9_7 hc9_7 c9_8 hc9_8 c9_9 hc9_9 c9_10 hc9_10 c9_11 hc9_11 R9_0 hR9_0 R9_1 hR9_1 R9_2 hR9_2 R9_3 hR9_3 R9_4 hR9_4 R9_5 hR9_5 Bw9 c9_12 hc9_12 c9_13 hc9_13 ⊢
    clear bb9 sz9
    clear c8_0 c8_1 c8_2 c8_3 c8_4 c8_5 c8_6 c8_7 c8_8 c8_9 c8_10 c8_11 hc8_0 hc8_1 hc8_2 hc8_3 hc8_4 hc8_5 hc8_6 hc8_7 hc8_8 hc8_9 hc8_10 hc8_11 R8_0 R8_1 R8_2 R8_3 R8_4 R8_5 hR8_0 hR8_1 hR8_2 hR8_3 hR8_4 hR8_5 k8_0 k8_1 k8_2 k8_3 k8_4 k8_5 k8_6 k8_7 k8_8 k8_9 k8_10 k8_11 Bw8 G9 b9 hA9 hs9
    generalize w9.heap.size = g9 at *
    have k9_0 := fun p : Past W9 => Past.cell (W := W9) c9_0 hc9_0 p
    have k9_1 := fun p : Past W9 => Past.cell (W := W9) c9_1 hc9_1 p
    have k9_2 := fun p : Past W9 => Past.cell (W := W9) c9_2 hc9_2 p
    have k9_3 := fun p : Past W9 => Past.cell (W := W9) c9_3 hc9_3 p
    have k9_4 := fun p : Past W9 => Past.cell (W := W9) c9_4 hc9_4 p
    have k9_5 := fun p : Past W9 => Past.cell (W := W9) c9_5 hc9_5 p
    have k9_6 := fun p : Past W9 => Past.cell (W := W9) c9_6 hc9_6 p
    have k9_7 := fun p : Past W9 => Past.cell (W := W9) c9_7 hc9_7 p
    have k9_8 := fun p : Past W9 => Past.cell (W := W9) c9_8 hc9_8 p
    have k9_9 := fun p : Past W9 => Past.cell (W := W9) c9_9 hc9_9 p
    have k9_10 := fun p : Past W9 => Past.cell (W := W9) c9_10 hc9_10 p
    have k9_11 := fun p : Past W9 => Past.cell (W := W9) c9_11 hc9_11 p
    have k9_12 := fun p : Past W9 => Past.cell (W := W9) c9_12 hc9_12 p
    have k9_13 := fun p : Past W9 => Past.cell (W := W9) c9_13 hc9_13 p
    go_wp2_with fail
    refine (DrawObjectConcept v xs w.heap.size (Past.start W9).w (Past.reads R9_0.out hR9_0 (Past.start W9)) (Past.len hR9_0 (Past.start W9)) HX.out (by omega)).mono ?_
    rintro e w10 ⟨a10, x10, u10, r10, rfl, -, o10, b10⟩
    obtain ⟨p10, q10, rfl⟩ := own_form o10
    have hA10 := (Below.refl w10.heap.size w10).alloc (Nat.le_refl _) (.cells #[.int .i64 a10, .slice p10 r10.length q10] 26)
    go_upto_region 13 with fail
    have hs10 : w10.heap.size < (w10.alloc (.cells #[.int .i64 a10, .slice p10 r10.length q10] 26)).heap.size := by simp
    have G10 := BoxAt.new w10 26 #[.int .i64 a10, .slice p10 r10.length q10]
    have bb10 := (Past.start W9).h.trans ((b10.trans (hA10.mono b10.size)).mono (Past.start W9).h.size)
    have sz10 := bb10.size
    have c10_0 : (w10.alloc (.cells #[.int .i64 a10, .slice p10 r10.length q10] 26)).cell? ⟨g1, 0, none⟩ = some (.int .i64 a1) := (bb10.cell (p := ⟨g1, 0, none⟩) hc9_0).trans c9_0
    have hc10_0 : g1 < (w10.alloc (.cells #[.int .i64 a10, .slice p10 r10.length q10] 26)).heap.size := Nat.lt_of_lt_of_le hc9_0 sz10
    have c10_1 : (w10.alloc (.cells #[.int .i64 a10, .slice p10 r10.length q10] 26)).cell? ⟨g1, 1, none⟩ = some (.slice p1 r1.length q1) := (bb10.cell (p := ⟨g1, 1, none⟩) hc9_1).trans c9_1
    have hc10_1 : g1 < (w10.alloc (.cells #[.int .i64 a10, .slice p10 r10.length q10] 26)).heap.size := Nat.lt_of_lt_of_le hc9_1 sz10
    have c10_2 : (w10.alloc (.cells #[.int .i64 a10, .slice p10 r10.length q10] 26)).cell? ⟨g3, 0, none⟩ = some (.int .i64 a3) := (bb10.cell (p := ⟨g3, 0, none⟩) hc9_2).trans c9_2
    have hc10_2 : g3 < (w10.alloc (.cells #[.int .i64 a10, .slice p10 r10.length q10] 26)).heap.size := Nat.lt_of_lt_of_le hc9_2 sz10
    have c10_3 : (w10.alloc (.cells #[.int .i64 a10, .slice p10 r10.length q10] 26)).cell? ⟨g3, 1, none⟩ = some (.slice p3 r3.length q3) := (bb10.cell (p := ⟨g3, 1, none⟩) hc9_3).trans c9_3
    have hc10_3 : g3 < (w10.alloc (.cells #[.int .i64 a10, .slice p10 r10.length q10] 26)).heap.size := Nat.lt_of_lt_of_le hc9_3 sz10
    have c10_4 : (w10.alloc (.cells #[.int .i64 a10, .slice p10 r10.length q10] 26)).cell? ⟨g3 + 1, 0, none⟩ = some (.int .i64 x3) := (bb10.cell (p := ⟨g3 + 1, 0, none⟩) hc9_4).trans c9_4
    have hc10_4 : g3 + 1 < (w10.alloc (.cells #[.int .i64 a10, .slice p10 r10.length q10] 26)).heap.size := Nat.lt_of_lt_of_le hc9_4 sz10
    have c10_5 : (w10.alloc (.cells #[.int .i64 a10, .slice p10 r10.length q10] 26)).cell? ⟨g3 + 1, 1, none⟩ = some (.int .i64 y3) := (bb10.cell (p := ⟨g3 + 1, 1, none⟩) hc9_5).trans c9_5
    have hc10_5 : g3 + 1 < (w10.alloc (.cells #[.int .i64 a10, .slice p10 r10.length q10] 26)).heap.size := Nat.lt_of_lt_of_le hc9_5 sz10
    have c10_6 : (w10.alloc (.cells #[.int .i64 a10, .slice p10 r10.length q10] 26)).cell? ⟨g4, 0, none⟩ = some (.int .i64 a4) := (bb10.cell (p := ⟨g4, 0, none⟩) hc9_6).trans c9_6
    have hc10_6 : g4 < (w10.alloc (.cells #[.int .i64 a10, .slice p10 r10.length q10] 26)).heap.size := Nat.lt_of_lt_of_le hc9_6 sz10
    have c10_7 : (w10.alloc (.cells #[.int .i64 a10, .slice p10 r10.length q10] 26)).cell? ⟨g4, 1, none⟩ = some (.slice p4 r4.length q4) := (bb10.cell (p := ⟨g4, 1, none⟩) hc9_7).trans c9_7
    have hc10_7 : g4 < (w10.alloc (.cells #[.int .i64 a10, .slice p10 r10.length q10] 26)).heap.size := Nat.lt_of_lt_of_le hc9_7 sz10
    have c10_8 : (w10.alloc (.cells #[.int .i64 a10, .slice p10 r10.length q10] 26)).cell? ⟨g7, 0, none⟩ = some (.int .i64 a7) := (bb10.cell (p := ⟨g7, 0, none⟩) hc9_8).trans c9_8
    have hc10_8 : g7 < (w10.alloc (.cells #[.int .i64 a10, .slice p10 r10.length q10] 26)).heap.size := Nat.lt_of_lt_of_le hc9_8 sz10
    have c10_9 : (w10.alloc (.cells #[.int .i64 a10, .slice p10 r10.length q10] 26)).cell? ⟨g7, 1, none⟩ = some (.slice p7 r7.length q7) := (bb10.cell (p := ⟨g7, 1, none⟩) hc9_9).trans c9_9
    have hc10_9 : g7 < (w10.alloc (.cells #[.int .i64 a10, .slice p10 r10.length q10] 26)).heap.size := Nat.lt_of_lt_of_le hc9_9 sz10
    have c10_10 : (w10.alloc (.cells #[.int .i64 a10, .slice p10 r10.length q10] 26)).cell? ⟨g8, 0, none⟩ = some (.int .i64 x8) := (bb10.cell (p := ⟨g8, 0, none⟩) hc9_10).trans c9_10
    have hc10_10 : g8 < (w10.alloc (.cells #[.int .i64 a10, .slice p10 r10.length q10] 26)).heap.size := Nat.lt_of_lt_of_le hc9_10 sz10
    have c10_11 : (w10.alloc (.cells #[.int .i64 a10, .slice p10 r10.length q10] 26)).cell? ⟨g8, 1, none⟩ = some (.int .i64 y8) := (bb10.cell (p := ⟨g8, 1, none⟩) hc9_11).trans c9_11
    have hc10_11 : g8 < (w10.alloc (.cells #[.int .i64 a10, .slice p10 r10.length q10] 26)).heap.size := Nat.lt_of_lt_of_le hc9_11 sz10
    have c10_12 : (w10.alloc (.cells #[.int .i64 a10, .slice p10 r10.length q10] 26)).cell? ⟨g9, 0, none⟩ = some (.int .i64 x8) := (bb10.cell (p := ⟨g9, 0, none⟩) hc9_12).trans c9_12
    have hc10_12 : g9 < (w10.alloc (.cells #[.int .i64 a10, .slice p10 r10.length q10] 26)).heap.size := Nat.lt_of_lt_of_le hc9_12 sz10
    have c10_13 : (w10.alloc (.cells #[.int .i64 a10, .slice p10 r10.length q10] 26)).cell? ⟨g9, 1, none⟩ = some (.int .i64 y8) := (bb10.cell (p := ⟨g9, 1, none⟩) hc9_13).trans c9_13
    have hc10_13 : g9 < (w10.alloc (.cells #[.int .i64 a10, .slice p10 r10.length q10] 26)).heap.size := Nat.lt_of_lt_of_le hc9_13 sz10
    have R10_0 := Lib.hid (R9_0.out.below bb10 hR9_0)
    have hR10_0 : w.heap.size ≤ (w10.alloc (.cells #[.int .i64 a10, .slice p10 r10.length q10] 26)).heap.size := Nat.le_trans hR9_0 sz10
    have R10_1 := Lib.hid (R9_1.out.below bb10 hR9_1)
    have hR10_1 : g1 ≤ (w10.alloc (.cells #[.int .i64 a10, .slice p10 r10.length q10] 26)).heap.size := Nat.le_trans hR9_1 sz10
    have R10_2 := Lib.hid (R9_2.out.below bb10 hR9_2)
    have hR10_2 : W2.heap.size ≤ (w10.alloc (.cells #[.int .i64 a10, .slice p10 r10.length q10] 26)).heap.size := Nat.le_trans hR9_2 sz10
    have R10_3 := Lib.hid (R9_3.out.below bb10 hR9_3)
    have hR10_3 : g3 ≤ (w10.alloc (.cells #[.int .i64 a10, .slice p10 r10.length q10] 26)).heap.size := Nat.le_trans hR9_3 sz10
    have R10_4 := Lib.hid (R9_4.out.below bb10 hR9_4)
    have hR10_4 : g4 ≤ (w10.alloc (.cells #[.int .i64 a10, .slice p10 r10.length q10] 26)).heap.size := Nat.le_trans hR9_4 sz10
    have R10_5 := Lib.hid (R9_5.out.below bb10 hR9_5)
    have hR10_5 : g7 ≤ (w10.alloc (.cells #[.int .i64 a10, .slice p10 r10.length q10] 26)).heap.size := Nat.le_trans hR9_5 sz10
    have Bw10 := Lib.hid (Bw9.out.trans (bb10.mono Bw9.out.size))
    have c10_14 : (w10.alloc (.cells #[.int .i64 a10, .slice p10 r10.length q10] 26)).cell? ⟨w10.heap.size, 0, none⟩ = some (.int .i64 a10) := G10.cell 0
    have hc10_14 : w10.heap.size < (w10.alloc (.cells #[.int .i64 a10, .slice p10 r10.length q10] 26)).heap.size := hs10
    have c10_15 : (w10.alloc (.cells #[.int .i64 a10, .slice p10 r10.length q10] 26)).cell? ⟨w10.heap.size, 1, none⟩ = some (.slice p10 r10.length q10) := G10.cell 1
    have hc10_15 : w10.heap.size < (w10.alloc (.cells #[.int .i64 a10, .slice p10 r10.length q10] 26)).heap.size := hs10
    have R10_6 := Lib.hid (o10.reads.below hA10 (Nat.le_refl _))
    have hR10_6 : w10.heap.size ≤ (w10.alloc (.cells #[.int .i64 a10, .slice p10 r10.length q10] 26)).heap.size := Nat.le_of_lt hs10
    generalize w10.alloc (.cells #[.int .i64 a10, .slice p10 r10.length q10] 26) = W10 at bb10 sz10 c10_0 hc10_0 c10_1 hc10_1 c10_2 hc10_2 c10_3 hc10_3 c10_4 hc10_4 c10_5 hc10_5 c10_6 hc10_6 c10_7 hc10_7 c10_8 hc10_8 c10_9 hc10_9 c10_10 hc10_10 c10_11 hc10_11 c10_12 hc10_12 c10_13 hc10_13 R10_0 hR10_0 R10_1 hR10_1 R10_2 hR10_2 R10_3 hR10_3 R10_4 hR10_4 R10_5 hR10_5 Bw10 c10_14 hc10_14 c10_15 hc10_15 R10_6 hR10_6 ⊢
    clear bb10 sz10
    clear c9_0 c9_1 c9_2 c9_3 c9_4 c9_5 c9_6 c9_7 c9_8 c9_9 c9_10 c9_11 c9_12 c9_13 hc9_0 hc9_1 hc9_2 hc9_3 hc9_4 hc9_5 hc9_6 hc9_7 hc9_8 hc9_9 hc9_10 hc9_11 hc9_12 hc9_13 R9_0 R9_1 R9_2 R9_3 R9_4 R9_5 hR9_0 hR9_1 hR9_2 hR9_3 hR9_4 hR9_5 k9_0 k9_1 k9_2 k9_3 k9_4 k9_5 k9_6 k9_7 k9_8 k9_9 k9_10 k9_11 k9_12 k9_13 Bw9 G10 o10 b10 hA10 hs10
    generalize w10.heap.size = g10 at *
    have k10_0 := fun p : Past W10 => Past.cell (W := W10) c10_0 hc10_0 p
    have k10_1 := fun p : Past W10 => Past.cell (W := W10) c10_1 hc10_1 p
    have k10_2 := fun p : Past W10 => Past.cell (W := W10) c10_2 hc10_2 p
    have k10_3 := fun p : Past W10 => Past.cell (W := W10) c10_3 hc10_3 p
    have k10_4 := fun p : Past W10 => Past.cell (W := W10) c10_4 hc10_4 p
    have k10_5 := fun p : Past W10 => Past.cell (W := W10) c10_5 hc10_5 p
    have k10_6 := fun p : Past W10 => Past.cell (W := W10) c10_6 hc10_6 p
    have k10_7 := fun p : Past W10 => Past.cell (W := W10) c10_7 hc10_7 p
    have k10_8 := fun p : Past W10 => Past.cell (W := W10) c10_8 hc10_8 p
    have k10_9 := fun p : Past W10 => Past.cell (W := W10) c10_9 hc10_9 p
    have k10_10 := fun p : Past W10 => Past.cell (W := W10) c10_10 hc10_10 p
    have k10_11 := fun p : Past W10 => Past.cell (W := W10) c10_11 hc10_11 p
    have k10_12 := fun p : Past W10 => Past.cell (W := W10) c10_12 hc10_12 p
    have k10_13 := fun p : Past W10 => Past.cell (W := W10) c10_13 hc10_13 p
    have k10_14 := fun p : Past W10 => Past.cell (W := W10) c10_14 hc10_14 p
    have k10_15 := fun p : Past W10 => Past.cell (W := W10) c10_15 hc10_15 p
    obtain ⟨x11, hx11⟩ : ∃ n, ((objConcept a10 r10 x10).getD (0, 0)).1 = n := ⟨_, rfl⟩
    obtain ⟨y11, hy11⟩ : ∃ n, ((objConcept a10 r10 x10).getD (0, 0)).2 = n := ⟨_, rfl⟩
    obtain ⟨k11, hk11⟩ : ∃ n, (objConcept a10 r10 x10).isSome = n := ⟨_, rfl⟩
    have hT11 : optC (objConcept a10 r10 x10) = .tuple #[.agg #[.int .i64 x11, .int .i64 y11], .bool k11] := by rw [optC, hk11, ← hx11, ← hy11]
    have ET11 := Lib.hid hT11
    clear hx11 hy11 hk11 hT11
    go_wp2_with fail
    have HC11 := impl_objConcept a10 _ r10 x10 g10 (Past.start W10).w (Past.reads R10_6.out hR10_6 (Past.start W10)) (Past.len hR10_6 (Past.start W10))
    rw [ET11.out] at HC11
    refine HC11.mono ?_
    clear HC11
    rintro e w11 ⟨rfl, b11⟩
    have hA11 := (Below.refl w11.heap.size w11).alloc (Nat.le_refl _) (.cells #[.int .i64 x11, .int .i64 y11] 38)
    go_upto_region 14 with fail
    have hs11 : w11.heap.size < (w11.alloc (.cells #[.int .i64 x11, .int .i64 y11] 38)).heap.size := by simp
    have G11 := BoxAt.new w11 38 #[.int .i64 x11, .int .i64 y11]
    have bb11 := (Past.start W10).h.trans ((b11.trans (hA11.mono b11.size)).mono (Past.start W10).h.size)
    have sz11 := bb11.size
    have c11_0 : (w11.alloc (.cells #[.int .i64 x11, .int .i64 y11] 38)).cell? ⟨g1, 0, none⟩ = some (.int .i64 a1) := (bb11.cell (p := ⟨g1, 0, none⟩) hc10_0).trans c10_0
    have hc11_0 : g1 < (w11.alloc (.cells #[.int .i64 x11, .int .i64 y11] 38)).heap.size := Nat.lt_of_lt_of_le hc10_0 sz11
    have c11_1 : (w11.alloc (.cells #[.int .i64 x11, .int .i64 y11] 38)).cell? ⟨g1, 1, none⟩ = some (.slice p1 r1.length q1) := (bb11.cell (p := ⟨g1, 1, none⟩) hc10_1).trans c10_1
    have hc11_1 : g1 < (w11.alloc (.cells #[.int .i64 x11, .int .i64 y11] 38)).heap.size := Nat.lt_of_lt_of_le hc10_1 sz11
    have c11_2 : (w11.alloc (.cells #[.int .i64 x11, .int .i64 y11] 38)).cell? ⟨g3, 0, none⟩ = some (.int .i64 a3) := (bb11.cell (p := ⟨g3, 0, none⟩) hc10_2).trans c10_2
    have hc11_2 : g3 < (w11.alloc (.cells #[.int .i64 x11, .int .i64 y11] 38)).heap.size := Nat.lt_of_lt_of_le hc10_2 sz11
    have c11_3 : (w11.alloc (.cells #[.int .i64 x11, .int .i64 y11] 38)).cell? ⟨g3, 1, none⟩ = some (.slice p3 r3.length q3) := (bb11.cell (p := ⟨g3, 1, none⟩) hc10_3).trans c10_3
    have hc11_3 : g3 < (w11.alloc (.cells #[.int .i64 x11, .int .i64 y11] 38)).heap.size := Nat.lt_of_lt_of_le hc10_3 sz11
    have c11_4 : (w11.alloc (.cells #[.int .i64 x11, .int .i64 y11] 38)).cell? ⟨g3 + 1, 0, none⟩ = some (.int .i64 x3) := (bb11.cell (p := ⟨g3 + 1, 0, none⟩) hc10_4).trans c10_4
    have hc11_4 : g3 + 1 < (w11.alloc (.cells #[.int .i64 x11, .int .i64 y11] 38)).heap.size := Nat.lt_of_lt_of_le hc10_4 sz11
    have c11_5 : (w11.alloc (.cells #[.int .i64 x11, .int .i64 y11] 38)).cell? ⟨g3 + 1, 1, none⟩ = some (.int .i64 y3) := (bb11.cell (p := ⟨g3 + 1, 1, none⟩) hc10_5).trans c10_5
    have hc11_5 : g3 + 1 < (w11.alloc (.cells #[.int .i64 x11, .int .i64 y11] 38)).heap.size := Nat.lt_of_lt_of_le hc10_5 sz11
    have c11_6 : (w11.alloc (.cells #[.int .i64 x11, .int .i64 y11] 38)).cell? ⟨g4, 0, none⟩ = some (.int .i64 a4) := (bb11.cell (p := ⟨g4, 0, none⟩) hc10_6).trans c10_6
    have hc11_6 : g4 < (w11.alloc (.cells #[.int .i64 x11, .int .i64 y11] 38)).heap.size := Nat.lt_of_lt_of_le hc10_6 sz11
    have c11_7 : (w11.alloc (.cells #[.int .i64 x11, .int .i64 y11] 38)).cell? ⟨g4, 1, none⟩ = some (.slice p4 r4.length q4) := (bb11.cell (p := ⟨g4, 1, none⟩) hc10_7).trans c10_7
    have hc11_7 : g4 < (w11.alloc (.cells #[.int .i64 x11, .int .i64 y11] 38)).heap.size := Nat.lt_of_lt_of_le hc10_7 sz11
    have c11_8 : (w11.alloc (.cells #[.int .i64 x11, .int .i64 y11] 38)).cell? ⟨g7, 0, none⟩ = some (.int .i64 a7) := (bb11.cell (p := ⟨g7, 0, none⟩) hc10_8).trans c10_8
    have hc11_8 : g7 < (w11.alloc (.cells #[.int .i64 x11, .int .i64 y11] 38)).heap.size := Nat.lt_of_lt_of_le hc10_8 sz11
    have c11_9 : (w11.alloc (.cells #[.int .i64 x11, .int .i64 y11] 38)).cell? ⟨g7, 1, none⟩ = some (.slice p7 r7.length q7) := (bb11.cell (p := ⟨g7, 1, none⟩) hc10_9).trans c10_9
    have hc11_9 : g7 < (w11.alloc (.cells #[.int .i64 x11, .int .i64 y11] 38)).heap.size := Nat.lt_of_lt_of_le hc10_9 sz11
    have c11_10 : (w11.alloc (.cells #[.int .i64 x11, .int .i64 y11] 38)).cell? ⟨g8, 0, none⟩ = some (.int .i64 x8) := (bb11.cell (p := ⟨g8, 0, none⟩) hc10_10).trans c10_10
    have hc11_10 : g8 < (w11.alloc (.cells #[.int .i64 x11, .int .i64 y11] 38)).heap.size := Nat.lt_of_lt_of_le hc10_10 sz11
    have c11_11 : (w11.alloc (.cells #[.int .i64 x11, .int .i64 y11] 38)).cell? ⟨g8, 1, none⟩ = some (.int .i64 y8) := (bb11.cell (p := ⟨g8, 1, none⟩) hc10_11).trans c10_11
    have hc11_11 : g8 < (w11.alloc (.cells #[.int .i64 x11, .int .i64 y11] 38)).heap.size := Nat.lt_of_lt_of_le hc10_11 sz11
    have c11_12 : (w11.alloc (.cells #[.int .i64 x11, .int .i64 y11] 38)).cell? ⟨g9, 0, none⟩ = some (.int .i64 x8) := (bb11.cell (p := ⟨g9, 0, none⟩) hc10_12).trans c10_12
    have hc11_12 : g9 < (w11.alloc (.cells #[.int .i64 x11, .int .i64 y11] 38)).heap.size := Nat.lt_of_lt_of_le hc10_12 sz11
    have c11_13 : (w11.alloc (.cells #[.int .i64 x11, .int .i64 y11] 38)).cell? ⟨g9, 1, none⟩ = some (.int .i64 y8) := (bb11.cell (p := ⟨g9, 1, none⟩) hc10_13).trans c10_13
    have hc11_13 : g9 < (w11.alloc (.cells #[.int .i64 x11, .int .i64 y11] 38)).heap.size := Nat.lt_of_lt_of_le hc10_13 sz11
    have c11_14 : (w11.alloc (.cells #[.int .i64 x11, .int .i64 y11] 38)).cell? ⟨g10, 0, none⟩ = some (.int .i64 a10) := (bb11.cell (p := ⟨g10, 0, none⟩) hc10_14).trans c10_14
    have hc11_14 : g10 < (w11.alloc (.cells #[.int .i64 x11, .int .i64 y11] 38)).heap.size := Nat.lt_of_lt_of_le hc10_14 sz11
    have c11_15 : (w11.alloc (.cells #[.int .i64 x11, .int .i64 y11] 38)).cell? ⟨g10, 1, none⟩ = some (.slice p10 r10.length q10) := (bb11.cell (p := ⟨g10, 1, none⟩) hc10_15).trans c10_15
    have hc11_15 : g10 < (w11.alloc (.cells #[.int .i64 x11, .int .i64 y11] 38)).heap.size := Nat.lt_of_lt_of_le hc10_15 sz11
    have R11_0 := Lib.hid (R10_0.out.below bb11 hR10_0)
    have hR11_0 : w.heap.size ≤ (w11.alloc (.cells #[.int .i64 x11, .int .i64 y11] 38)).heap.size := Nat.le_trans hR10_0 sz11
    have R11_1 := Lib.hid (R10_1.out.below bb11 hR10_1)
    have hR11_1 : g1 ≤ (w11.alloc (.cells #[.int .i64 x11, .int .i64 y11] 38)).heap.size := Nat.le_trans hR10_1 sz11
    have R11_2 := Lib.hid (R10_2.out.below bb11 hR10_2)
    have hR11_2 : W2.heap.size ≤ (w11.alloc (.cells #[.int .i64 x11, .int .i64 y11] 38)).heap.size := Nat.le_trans hR10_2 sz11
    have R11_3 := Lib.hid (R10_3.out.below bb11 hR10_3)
    have hR11_3 : g3 ≤ (w11.alloc (.cells #[.int .i64 x11, .int .i64 y11] 38)).heap.size := Nat.le_trans hR10_3 sz11
    have R11_4 := Lib.hid (R10_4.out.below bb11 hR10_4)
    have hR11_4 : g4 ≤ (w11.alloc (.cells #[.int .i64 x11, .int .i64 y11] 38)).heap.size := Nat.le_trans hR10_4 sz11
    have R11_5 := Lib.hid (R10_5.out.below bb11 hR10_5)
    have hR11_5 : g7 ≤ (w11.alloc (.cells #[.int .i64 x11, .int .i64 y11] 38)).heap.size := Nat.le_trans hR10_5 sz11
    have R11_6 := Lib.hid (R10_6.out.below bb11 hR10_6)
    have hR11_6 : g10 ≤ (w11.alloc (.cells #[.int .i64 x11, .int .i64 y11] 38)).heap.size := Nat.le_trans hR10_6 sz11
    have Bw11 := Lib.hid (Bw10.out.trans (bb11.mono Bw10.out.size))
    have c11_16 : (w11.alloc (.cells #[.int .i64 x11, .int .i64 y11] 38)).cell? ⟨w11.heap.size, 0, none⟩ = some (.int .i64 x11) := G11.cell 0
    have hc11_16 : w11.heap.size < (w11.alloc (.cells #[.int .i64 x11, .int .i64 y11] 38)).heap.size := hs11
    have c11_17 : (w11.alloc (.cells #[.int .i64 x11, .int .i64 y11] 38)).cell? ⟨w11.heap.size, 1, none⟩ = some (.int .i64 y11) := G11.cell 1
    have hc11_17 : w11.heap.size < (w11.alloc (.cells #[.int .i64 x11, .int .i64 y11] 38)).heap.size := hs11
    generalize w11.alloc (.cells #[.int .i64 x11, .int .i64 y11] 38) = W11 at bb11 sz11 c11_0 hc11_0 c11_1 hc11_1 c11_2 hc11_2 c11_3 hc11_3 c11_4 hc11_4 c11_5 hc11_5 c11_6 hc11_6 c11_7 hc11_7 c11_8 hc11_8 c11_9 hc11_9 c11_10 hc11_10 c11_11 hc11_11 c11_12 hc11_12 c11_13 hc11_13 c11_14 hc11_14 c11_15 hc11_15 R11_0 hR11_0 R11_1 hR11_1 R11_2 hR11_2 R11_3 hR11_3 R11_4 hR11_4 R11_5 hR11_5 R11_6 hR11_6 Bw11 c11_16 hc11_16 c11_17 hc11_17 ⊢
    clear bb11 sz11
    clear c10_0 c10_1 c10_2 c10_3 c10_4 c10_5 c10_6 c10_7 c10_8 c10_9 c10_10 c10_11 c10_12 c10_13 c10_14 c10_15 hc10_0 hc10_1 hc10_2 hc10_3 hc10_4 hc10_5 hc10_6 hc10_7 hc10_8 hc10_9 hc10_10 hc10_11 hc10_12 hc10_13 hc10_14 hc10_15 R10_0 R10_1 R10_2 R10_3 R10_4 R10_5 R10_6 hR10_0 hR10_1 hR10_2 hR10_3 hR10_4 hR10_5 hR10_6 k10_0 k10_1 k10_2 k10_3 k10_4 k10_5 k10_6 k10_7 k10_8 k10_9 k10_10 k10_11 k10_12 k10_13 k10_14 k10_15 Bw10 G11 b11 hA11 hs11
    generalize w11.heap.size = g11 at *
    have k11_0 := fun p : Past W11 => Past.cell (W := W11) c11_0 hc11_0 p
    have k11_1 := fun p : Past W11 => Past.cell (W := W11) c11_1 hc11_1 p
    have k11_2 := fun p : Past W11 => Past.cell (W := W11) c11_2 hc11_2 p
    have k11_3 := fun p : Past W11 => Past.cell (W := W11) c11_3 hc11_3 p
    have k11_4 := fun p : Past W11 => Past.cell (W := W11) c11_4 hc11_4 p
    have k11_5 := fun p : Past W11 => Past.cell (W := W11) c11_5 hc11_5 p
    have k11_6 := fun p : Past W11 => Past.cell (W := W11) c11_6 hc11_6 p
    have k11_7 := fun p : Past W11 => Past.cell (W := W11) c11_7 hc11_7 p
    have k11_8 := fun p : Past W11 => Past.cell (W := W11) c11_8 hc11_8 p
    have k11_9 := fun p : Past W11 => Past.cell (W := W11) c11_9 hc11_9 p
    have k11_10 := fun p : Past W11 => Past.cell (W := W11) c11_10 hc11_10 p
    have k11_11 := fun p : Past W11 => Past.cell (W := W11) c11_11 hc11_11 p
    have k11_12 := fun p : Past W11 => Past.cell (W := W11) c11_12 hc11_12 p
    have k11_13 := fun p : Past W11 => Past.cell (W := W11) c11_13 hc11_13 p
    have k11_14 := fun p : Past W11 => Past.cell (W := W11) c11_14 hc11_14 p
    have k11_15 := fun p : Past W11 => Past.cell (W := W11) c11_15 hc11_15 p
    have k11_16 := fun p : Past W11 => Past.cell (W := W11) c11_16 hc11_16 p
    have k11_17 := fun p : Past W11 => Past.cell (W := W11) c11_17 hc11_17 p
    go_wp2_with fail
    have HC12 := spec_objConcept a10 _ r10 x10 g10 (Past.start W11).w (Past.reads R11_6.out hR11_6 (Past.start W11)) (Past.len hR11_6 (Past.start W11))
    rw [ET11.out] at HC12
    refine HC12.mono ?_
    clear HC12
    rintro e w12 ⟨rfl, b12⟩
    have hA12 := (Below.refl w12.heap.size w12).alloc (Nat.le_refl _) (.cells #[.int .i64 x11, .int .i64 y11] 38)
    go_upto_region 15 with fail
    have hs12 : w12.heap.size < (w12.alloc (.cells #[.int .i64 x11, .int .i64 y11] 38)).heap.size := by simp
    have G12 := BoxAt.new w12 38 #[.int .i64 x11, .int .i64 y11]
    have bb12 := (Past.start W11).h.trans ((b12.trans (hA12.mono b12.size)).mono (Past.start W11).h.size)
    have sz12 := bb12.size
    have c12_0 : (w12.alloc (.cells #[.int .i64 x11, .int .i64 y11] 38)).cell? ⟨g1, 0, none⟩ = some (.int .i64 a1) := (bb12.cell (p := ⟨g1, 0, none⟩) hc11_0).trans c11_0
    have hc12_0 : g1 < (w12.alloc (.cells #[.int .i64 x11, .int .i64 y11] 38)).heap.size := Nat.lt_of_lt_of_le hc11_0 sz12
    have c12_1 : (w12.alloc (.cells #[.int .i64 x11, .int .i64 y11] 38)).cell? ⟨g1, 1, none⟩ = some (.slice p1 r1.length q1) := (bb12.cell (p := ⟨g1, 1, none⟩) hc11_1).trans c11_1
    have hc12_1 : g1 < (w12.alloc (.cells #[.int .i64 x11, .int .i64 y11] 38)).heap.size := Nat.lt_of_lt_of_le hc11_1 sz12
    have c12_2 : (w12.alloc (.cells #[.int .i64 x11, .int .i64 y11] 38)).cell? ⟨g3, 0, none⟩ = some (.int .i64 a3) := (bb12.cell (p := ⟨g3, 0, none⟩) hc11_2).trans c11_2
    have hc12_2 : g3 < (w12.alloc (.cells #[.int .i64 x11, .int .i64 y11] 38)).heap.size := Nat.lt_of_lt_of_le hc11_2 sz12
    have c12_3 : (w12.alloc (.cells #[.int .i64 x11, .int .i64 y11] 38)).cell? ⟨g3, 1, none⟩ = some (.slice p3 r3.length q3) := (bb12.cell (p := ⟨g3, 1, none⟩) hc11_3).trans c11_3
    have hc12_3 : g3 < (w12.alloc (.cells #[.int .i64 x11, .int .i64 y11] 38)).heap.size := Nat.lt_of_lt_of_le hc11_3 sz12
    have c12_4 : (w12.alloc (.cells #[.int .i64 x11, .int .i64 y11] 38)).cell? ⟨g3 + 1, 0, none⟩ = some (.int .i64 x3) := (bb12.cell (p := ⟨g3 + 1, 0, none⟩) hc11_4).trans c11_4
    have hc12_4 : g3 + 1 < (w12.alloc (.cells #[.int .i64 x11, .int .i64 y11] 38)).heap.size := Nat.lt_of_lt_of_le hc11_4 sz12
    have c12_5 : (w12.alloc (.cells #[.int .i64 x11, .int .i64 y11] 38)).cell? ⟨g3 + 1, 1, none⟩ = some (.int .i64 y3) := (bb12.cell (p := ⟨g3 + 1, 1, none⟩) hc11_5).trans c11_5
    have hc12_5 : g3 + 1 < (w12.alloc (.cells #[.int .i64 x11, .int .i64 y11] 38)).heap.size := Nat.lt_of_lt_of_le hc11_5 sz12
    have c12_6 : (w12.alloc (.cells #[.int .i64 x11, .int .i64 y11] 38)).cell? ⟨g4, 0, none⟩ = some (.int .i64 a4) := (bb12.cell (p := ⟨g4, 0, none⟩) hc11_6).trans c11_6
    have hc12_6 : g4 < (w12.alloc (.cells #[.int .i64 x11, .int .i64 y11] 38)).heap.size := Nat.lt_of_lt_of_le hc11_6 sz12
    have c12_7 : (w12.alloc (.cells #[.int .i64 x11, .int .i64 y11] 38)).cell? ⟨g4, 1, none⟩ = some (.slice p4 r4.length q4) := (bb12.cell (p := ⟨g4, 1, none⟩) hc11_7).trans c11_7
    have hc12_7 : g4 < (w12.alloc (.cells #[.int .i64 x11, .int .i64 y11] 38)).heap.size := Nat.lt_of_lt_of_le hc11_7 sz12
    have c12_8 : (w12.alloc (.cells #[.int .i64 x11, .int .i64 y11] 38)).cell? ⟨g7, 0, none⟩ = some (.int .i64 a7) := (bb12.cell (p := ⟨g7, 0, none⟩) hc11_8).trans c11_8
    have hc12_8 : g7 < (w12.alloc (.cells #[.int .i64 x11, .int .i64 y11] 38)).heap.size := Nat.lt_of_lt_of_le hc11_8 sz12
    have c12_9 : (w12.alloc (.cells #[.int .i64 x11, .int .i64 y11] 38)).cell? ⟨g7, 1, none⟩ = some (.slice p7 r7.length q7) := (bb12.cell (p := ⟨g7, 1, none⟩) hc11_9).trans c11_9
    have hc12_9 : g7 < (w12.alloc (.cells #[.int .i64 x11, .int .i64 y11] 38)).heap.size := Nat.lt_of_lt_of_le hc11_9 sz12
    have c12_10 : (w12.alloc (.cells #[.int .i64 x11, .int .i64 y11] 38)).cell? ⟨g8, 0, none⟩ = some (.int .i64 x8) := (bb12.cell (p := ⟨g8, 0, none⟩) hc11_10).trans c11_10
    have hc12_10 : g8 < (w12.alloc (.cells #[.int .i64 x11, .int .i64 y11] 38)).heap.size := Nat.lt_of_lt_of_le hc11_10 sz12
    have c12_11 : (w12.alloc (.cells #[.int .i64 x11, .int .i64 y11] 38)).cell? ⟨g8, 1, none⟩ = some (.int .i64 y8) := (bb12.cell (p := ⟨g8, 1, none⟩) hc11_11).trans c11_11
    have hc12_11 : g8 < (w12.alloc (.cells #[.int .i64 x11, .int .i64 y11] 38)).heap.size := Nat.lt_of_lt_of_le hc11_11 sz12
    have c12_12 : (w12.alloc (.cells #[.int .i64 x11, .int .i64 y11] 38)).cell? ⟨g9, 0, none⟩ = some (.int .i64 x8) := (bb12.cell (p := ⟨g9, 0, none⟩) hc11_12).trans c11_12
    have hc12_12 : g9 < (w12.alloc (.cells #[.int .i64 x11, .int .i64 y11] 38)).heap.size := Nat.lt_of_lt_of_le hc11_12 sz12
    have c12_13 : (w12.alloc (.cells #[.int .i64 x11, .int .i64 y11] 38)).cell? ⟨g9, 1, none⟩ = some (.int .i64 y8) := (bb12.cell (p := ⟨g9, 1, none⟩) hc11_13).trans c11_13
    have hc12_13 : g9 < (w12.alloc (.cells #[.int .i64 x11, .int .i64 y11] 38)).heap.size := Nat.lt_of_lt_of_le hc11_13 sz12
    have c12_14 : (w12.alloc (.cells #[.int .i64 x11, .int .i64 y11] 38)).cell? ⟨g10, 0, none⟩ = some (.int .i64 a10) := (bb12.cell (p := ⟨g10, 0, none⟩) hc11_14).trans c11_14
    have hc12_14 : g10 < (w12.alloc (.cells #[.int .i64 x11, .int .i64 y11] 38)).heap.size := Nat.lt_of_lt_of_le hc11_14 sz12
    have c12_15 : (w12.alloc (.cells #[.int .i64 x11, .int .i64 y11] 38)).cell? ⟨g10, 1, none⟩ = some (.slice p10 r10.length q10) := (bb12.cell (p := ⟨g10, 1, none⟩) hc11_15).trans c11_15
    have hc12_15 : g10 < (w12.alloc (.cells #[.int .i64 x11, .int .i64 y11] 38)).heap.size := Nat.lt_of_lt_of_le hc11_15 sz12
    have c12_16 : (w12.alloc (.cells #[.int .i64 x11, .int .i64 y11] 38)).cell? ⟨g11, 0, none⟩ = some (.int .i64 x11) := (bb12.cell (p := ⟨g11, 0, none⟩) hc11_16).trans c11_16
    have hc12_16 : g11 < (w12.alloc (.cells #[.int .i64 x11, .int .i64 y11] 38)).heap.size := Nat.lt_of_lt_of_le hc11_16 sz12
    have c12_17 : (w12.alloc (.cells #[.int .i64 x11, .int .i64 y11] 38)).cell? ⟨g11, 1, none⟩ = some (.int .i64 y11) := (bb12.cell (p := ⟨g11, 1, none⟩) hc11_17).trans c11_17
    have hc12_17 : g11 < (w12.alloc (.cells #[.int .i64 x11, .int .i64 y11] 38)).heap.size := Nat.lt_of_lt_of_le hc11_17 sz12
    have R12_0 := Lib.hid (R11_0.out.below bb12 hR11_0)
    have hR12_0 : w.heap.size ≤ (w12.alloc (.cells #[.int .i64 x11, .int .i64 y11] 38)).heap.size := Nat.le_trans hR11_0 sz12
    have R12_1 := Lib.hid (R11_1.out.below bb12 hR11_1)
    have hR12_1 : g1 ≤ (w12.alloc (.cells #[.int .i64 x11, .int .i64 y11] 38)).heap.size := Nat.le_trans hR11_1 sz12
    have R12_2 := Lib.hid (R11_2.out.below bb12 hR11_2)
    have hR12_2 : W2.heap.size ≤ (w12.alloc (.cells #[.int .i64 x11, .int .i64 y11] 38)).heap.size := Nat.le_trans hR11_2 sz12
    have R12_3 := Lib.hid (R11_3.out.below bb12 hR11_3)
    have hR12_3 : g3 ≤ (w12.alloc (.cells #[.int .i64 x11, .int .i64 y11] 38)).heap.size := Nat.le_trans hR11_3 sz12
    have R12_4 := Lib.hid (R11_4.out.below bb12 hR11_4)
    have hR12_4 : g4 ≤ (w12.alloc (.cells #[.int .i64 x11, .int .i64 y11] 38)).heap.size := Nat.le_trans hR11_4 sz12
    have R12_5 := Lib.hid (R11_5.out.below bb12 hR11_5)
    have hR12_5 : g7 ≤ (w12.alloc (.cells #[.int .i64 x11, .int .i64 y11] 38)).heap.size := Nat.le_trans hR11_5 sz12
    have R12_6 := Lib.hid (R11_6.out.below bb12 hR11_6)
    have hR12_6 : g10 ≤ (w12.alloc (.cells #[.int .i64 x11, .int .i64 y11] 38)).heap.size := Nat.le_trans hR11_6 sz12
    have Bw12 := Lib.hid (Bw11.out.trans (bb12.mono Bw11.out.size))
    have c12_18 : (w12.alloc (.cells #[.int .i64 x11, .int .i64 y11] 38)).cell? ⟨w12.heap.size, 0, none⟩ = some (.int .i64 x11) := G12.cell 0
    have hc12_18 : w12.heap.size < (w12.alloc (.cells #[.int .i64 x11, .int .i64 y11] 38)).heap.size := hs12
    have c12_19 : (w12.alloc (.cells #[.int .i64 x11, .int .i64 y11] 38)).cell? ⟨w12.heap.size, 1, none⟩ = some (.int .i64 y11) := G12.cell 1
    have hc12_19 : w12.heap.size < (w12.alloc (.cells #[.int .i64 x11, .int .i64 y11] 38)).heap.size := hs12
    generalize w12.alloc (.cells #[.int .i64 x11, .int .i64 y11] 38) = W12 at bb12 sz12 c12_0 hc12_0 c12_1 hc12_1 c12_2 hc12_2 c12_3 hc12_3 c12_4 hc12_4 c12_5 hc12_5 c12_6 hc12_6 c12_7 hc12_7 c12_8 hc12_8 c12_9 hc12_9 c12_10 hc12_10 c12_11 hc12_11 c12_12 hc12_12 c12_13 hc12_13 c12_14 hc12_14 c12_15 hc12_15 c12_16 hc12_16 c12_17 hc12_17 R12_0 hR12_0 R12_1 hR12_1 R12_2 hR12_2 R12_3 hR12_3 R12_4 hR12_4 R12_5 hR12_5 R12_6 hR12_6 Bw12 c12_18 hc12_18 c12_19 hc12_19 ⊢
    clear bb12 sz12
    clear c11_0 c11_1 c11_2 c11_3 c11_4 c11_5 c11_6 c11_7 c11_8 c11_9 c11_10 c11_11 c11_12 c11_13 c11_14 c11_15 c11_16 c11_17 hc11_0 hc11_1 hc11_2 hc11_3 hc11_4 hc11_5 hc11_6 hc11_7 hc11_8 hc11_9 hc11_10 hc11_11 hc11_12 hc11_13 hc11_14 hc11_15 hc11_16 hc11_17 R11_0 R11_1 R11_2 R11_3 R11_4 R11_5 R11_6 hR11_0 hR11_1 hR11_2 hR11_3 hR11_4 hR11_5 hR11_6 k11_0 k11_1 k11_2 k11_3 k11_4 k11_5 k11_6 k11_7 k11_8 k11_9 k11_10 k11_11 k11_12 k11_13 k11_14 k11_15 k11_16 k11_17 Bw11 G12 b12 hA12 hs12
    generalize w12.heap.size = g12 at *
    have k12_0 := fun p : Past W12 => Past.cell (W := W12) c12_0 hc12_0 p
    have k12_1 := fun p : Past W12 => Past.cell (W := W12) c12_1 hc12_1 p
    have k12_2 := fun p : Past W12 => Past.cell (W := W12) c12_2 hc12_2 p
    have k12_3 := fun p : Past W12 => Past.cell (W := W12) c12_3 hc12_3 p
    have k12_4 := fun p : Past W12 => Past.cell (W := W12) c12_4 hc12_4 p
    have k12_5 := fun p : Past W12 => Past.cell (W := W12) c12_5 hc12_5 p
    have k12_6 := fun p : Past W12 => Past.cell (W := W12) c12_6 hc12_6 p
    have k12_7 := fun p : Past W12 => Past.cell (W := W12) c12_7 hc12_7 p
    have k12_8 := fun p : Past W12 => Past.cell (W := W12) c12_8 hc12_8 p
    have k12_9 := fun p : Past W12 => Past.cell (W := W12) c12_9 hc12_9 p
    have k12_10 := fun p : Past W12 => Past.cell (W := W12) c12_10 hc12_10 p
    have k12_11 := fun p : Past W12 => Past.cell (W := W12) c12_11 hc12_11 p
    have k12_12 := fun p : Past W12 => Past.cell (W := W12) c12_12 hc12_12 p
    have k12_13 := fun p : Past W12 => Past.cell (W := W12) c12_13 hc12_13 p
    have k12_14 := fun p : Past W12 => Past.cell (W := W12) c12_14 hc12_14 p
    have k12_15 := fun p : Past W12 => Past.cell (W := W12) c12_15 hc12_15 p
    have k12_16 := fun p : Past W12 => Past.cell (W := W12) c12_16 hc12_16 p
    have k12_17 := fun p : Past W12 => Past.cell (W := W12) c12_17 hc12_17 p
    have k12_18 := fun p : Past W12 => Past.cell (W := W12) c12_18 hc12_18 p
    have k12_19 := fun p : Past W12 => Past.cell (W := W12) c12_19 hc12_19 p
    obtain ⟨x13, hx13⟩ : ∃ n, ((attrConcept a10 r10 x10).getD (0, 0)).1 = n := ⟨_, rfl⟩
    obtain ⟨y13, hy13⟩ : ∃ n, ((attrConcept a10 r10 x10).getD (0, 0)).2 = n := ⟨_, rfl⟩
    obtain ⟨k13, hk13⟩ : ∃ n, (attrConcept a10 r10 x10).isSome = n := ⟨_, rfl⟩
    have hT13 : optC (attrConcept a10 r10 x10) = .tuple #[.agg #[.int .i64 x13, .int .i64 y13], .bool k13] := by rw [optC, hk13, ← hx13, ← hy13]
    have ET13 := Lib.hid hT13
    clear hx13 hy13 hk13 hT13
    go_wp2_with fail
    have HC13 := impl_attrConcept a10 _ r10 x10 g10 (Past.start W12).w (Past.reads R12_6.out hR12_6 (Past.start W12)) (Past.len hR12_6 (Past.start W12))
    rw [ET13.out] at HC13
    refine HC13.mono ?_
    clear HC13
    rintro e w13 ⟨rfl, b13⟩
    have hA13 := (Below.refl w13.heap.size w13).alloc (Nat.le_refl _) (.cells #[.int .i64 x13, .int .i64 y13] 38)
    go_upto_region 16 with fail
    have hs13 : w13.heap.size < (w13.alloc (.cells #[.int .i64 x13, .int .i64 y13] 38)).heap.size := by simp
    have G13 := BoxAt.new w13 38 #[.int .i64 x13, .int .i64 y13]
    have bb13 := (Past.start W12).h.trans ((b13.trans (hA13.mono b13.size)).mono (Past.start W12).h.size)
    have sz13 := bb13.size
    have c13_0 : (w13.alloc (.cells #[.int .i64 x13, .int .i64 y13] 38)).cell? ⟨g1, 0, none⟩ = some (.int .i64 a1) := (bb13.cell (p := ⟨g1, 0, none⟩) hc12_0).trans c12_0
    have hc13_0 : g1 < (w13.alloc (.cells #[.int .i64 x13, .int .i64 y13] 38)).heap.size := Nat.lt_of_lt_of_le hc12_0 sz13
    have c13_1 : (w13.alloc (.cells #[.int .i64 x13, .int .i64 y13] 38)).cell? ⟨g1, 1, none⟩ = some (.slice p1 r1.length q1) := (bb13.cell (p := ⟨g1, 1, none⟩) hc12_1).trans c12_1
    have hc13_1 : g1 < (w13.alloc (.cells #[.int .i64 x13, .int .i64 y13] 38)).heap.size := Nat.lt_of_lt_of_le hc12_1 sz13
    have c13_2 : (w13.alloc (.cells #[.int .i64 x13, .int .i64 y13] 38)).cell? ⟨g3, 0, none⟩ = some (.int .i64 a3) := (bb13.cell (p := ⟨g3, 0, none⟩) hc12_2).trans c12_2
    have hc13_2 : g3 < (w13.alloc (.cells #[.int .i64 x13, .int .i64 y13] 38)).heap.size := Nat.lt_of_lt_of_le hc12_2 sz13
    have c13_3 : (w13.alloc (.cells #[.int .i64 x13, .int .i64 y13] 38)).cell? ⟨g3, 1, none⟩ = some (.slice p3 r3.length q3) := (bb13.cell (p := ⟨g3, 1, none⟩) hc12_3).trans c12_3
    have hc13_3 : g3 < (w13.alloc (.cells #[.int .i64 x13, .int .i64 y13] 38)).heap.size := Nat.lt_of_lt_of_le hc12_3 sz13
    have c13_4 : (w13.alloc (.cells #[.int .i64 x13, .int .i64 y13] 38)).cell? ⟨g3 + 1, 0, none⟩ = some (.int .i64 x3) := (bb13.cell (p := ⟨g3 + 1, 0, none⟩) hc12_4).trans c12_4
    have hc13_4 : g3 + 1 < (w13.alloc (.cells #[.int .i64 x13, .int .i64 y13] 38)).heap.size := Nat.lt_of_lt_of_le hc12_4 sz13
    have c13_5 : (w13.alloc (.cells #[.int .i64 x13, .int .i64 y13] 38)).cell? ⟨g3 + 1, 1, none⟩ = some (.int .i64 y3) := (bb13.cell (p := ⟨g3 + 1, 1, none⟩) hc12_5).trans c12_5
    have hc13_5 : g3 + 1 < (w13.alloc (.cells #[.int .i64 x13, .int .i64 y13] 38)).heap.size := Nat.lt_of_lt_of_le hc12_5 sz13
    have c13_6 : (w13.alloc (.cells #[.int .i64 x13, .int .i64 y13] 38)).cell? ⟨g4, 0, none⟩ = some (.int .i64 a4) := (bb13.cell (p := ⟨g4, 0, none⟩) hc12_6).trans c12_6
    have hc13_6 : g4 < (w13.alloc (.cells #[.int .i64 x13, .int .i64 y13] 38)).heap.size := Nat.lt_of_lt_of_le hc12_6 sz13
    have c13_7 : (w13.alloc (.cells #[.int .i64 x13, .int .i64 y13] 38)).cell? ⟨g4, 1, none⟩ = some (.slice p4 r4.length q4) := (bb13.cell (p := ⟨g4, 1, none⟩) hc12_7).trans c12_7
    have hc13_7 : g4 < (w13.alloc (.cells #[.int .i64 x13, .int .i64 y13] 38)).heap.size := Nat.lt_of_lt_of_le hc12_7 sz13
    have c13_8 : (w13.alloc (.cells #[.int .i64 x13, .int .i64 y13] 38)).cell? ⟨g7, 0, none⟩ = some (.int .i64 a7) := (bb13.cell (p := ⟨g7, 0, none⟩) hc12_8).trans c12_8
    have hc13_8 : g7 < (w13.alloc (.cells #[.int .i64 x13, .int .i64 y13] 38)).heap.size := Nat.lt_of_lt_of_le hc12_8 sz13
    have c13_9 : (w13.alloc (.cells #[.int .i64 x13, .int .i64 y13] 38)).cell? ⟨g7, 1, none⟩ = some (.slice p7 r7.length q7) := (bb13.cell (p := ⟨g7, 1, none⟩) hc12_9).trans c12_9
    have hc13_9 : g7 < (w13.alloc (.cells #[.int .i64 x13, .int .i64 y13] 38)).heap.size := Nat.lt_of_lt_of_le hc12_9 sz13
    have c13_10 : (w13.alloc (.cells #[.int .i64 x13, .int .i64 y13] 38)).cell? ⟨g8, 0, none⟩ = some (.int .i64 x8) := (bb13.cell (p := ⟨g8, 0, none⟩) hc12_10).trans c12_10
    have hc13_10 : g8 < (w13.alloc (.cells #[.int .i64 x13, .int .i64 y13] 38)).heap.size := Nat.lt_of_lt_of_le hc12_10 sz13
    have c13_11 : (w13.alloc (.cells #[.int .i64 x13, .int .i64 y13] 38)).cell? ⟨g8, 1, none⟩ = some (.int .i64 y8) := (bb13.cell (p := ⟨g8, 1, none⟩) hc12_11).trans c12_11
    have hc13_11 : g8 < (w13.alloc (.cells #[.int .i64 x13, .int .i64 y13] 38)).heap.size := Nat.lt_of_lt_of_le hc12_11 sz13
    have c13_12 : (w13.alloc (.cells #[.int .i64 x13, .int .i64 y13] 38)).cell? ⟨g9, 0, none⟩ = some (.int .i64 x8) := (bb13.cell (p := ⟨g9, 0, none⟩) hc12_12).trans c12_12
    have hc13_12 : g9 < (w13.alloc (.cells #[.int .i64 x13, .int .i64 y13] 38)).heap.size := Nat.lt_of_lt_of_le hc12_12 sz13
    have c13_13 : (w13.alloc (.cells #[.int .i64 x13, .int .i64 y13] 38)).cell? ⟨g9, 1, none⟩ = some (.int .i64 y8) := (bb13.cell (p := ⟨g9, 1, none⟩) hc12_13).trans c12_13
    have hc13_13 : g9 < (w13.alloc (.cells #[.int .i64 x13, .int .i64 y13] 38)).heap.size := Nat.lt_of_lt_of_le hc12_13 sz13
    have c13_14 : (w13.alloc (.cells #[.int .i64 x13, .int .i64 y13] 38)).cell? ⟨g10, 0, none⟩ = some (.int .i64 a10) := (bb13.cell (p := ⟨g10, 0, none⟩) hc12_14).trans c12_14
    have hc13_14 : g10 < (w13.alloc (.cells #[.int .i64 x13, .int .i64 y13] 38)).heap.size := Nat.lt_of_lt_of_le hc12_14 sz13
    have c13_15 : (w13.alloc (.cells #[.int .i64 x13, .int .i64 y13] 38)).cell? ⟨g10, 1, none⟩ = some (.slice p10 r10.length q10) := (bb13.cell (p := ⟨g10, 1, none⟩) hc12_15).trans c12_15
    have hc13_15 : g10 < (w13.alloc (.cells #[.int .i64 x13, .int .i64 y13] 38)).heap.size := Nat.lt_of_lt_of_le hc12_15 sz13
    have c13_16 : (w13.alloc (.cells #[.int .i64 x13, .int .i64 y13] 38)).cell? ⟨g11, 0, none⟩ = some (.int .i64 x11) := (bb13.cell (p := ⟨g11, 0, none⟩) hc12_16).trans c12_16
    have hc13_16 : g11 < (w13.alloc (.cells #[.int .i64 x13, .int .i64 y13] 38)).heap.size := Nat.lt_of_lt_of_le hc12_16 sz13
    have c13_17 : (w13.alloc (.cells #[.int .i64 x13, .int .i64 y13] 38)).cell? ⟨g11, 1, none⟩ = some (.int .i64 y11) := (bb13.cell (p := ⟨g11, 1, none⟩) hc12_17).trans c12_17
    have hc13_17 : g11 < (w13.alloc (.cells #[.int .i64 x13, .int .i64 y13] 38)).heap.size := Nat.lt_of_lt_of_le hc12_17 sz13
    have c13_18 : (w13.alloc (.cells #[.int .i64 x13, .int .i64 y13] 38)).cell? ⟨g12, 0, none⟩ = some (.int .i64 x11) := (bb13.cell (p := ⟨g12, 0, none⟩) hc12_18).trans c12_18
    have hc13_18 : g12 < (w13.alloc (.cells #[.int .i64 x13, .int .i64 y13] 38)).heap.size := Nat.lt_of_lt_of_le hc12_18 sz13
    have c13_19 : (w13.alloc (.cells #[.int .i64 x13, .int .i64 y13] 38)).cell? ⟨g12, 1, none⟩ = some (.int .i64 y11) := (bb13.cell (p := ⟨g12, 1, none⟩) hc12_19).trans c12_19
    have hc13_19 : g12 < (w13.alloc (.cells #[.int .i64 x13, .int .i64 y13] 38)).heap.size := Nat.lt_of_lt_of_le hc12_19 sz13
    have R13_0 := Lib.hid (R12_0.out.below bb13 hR12_0)
    have hR13_0 : w.heap.size ≤ (w13.alloc (.cells #[.int .i64 x13, .int .i64 y13] 38)).heap.size := Nat.le_trans hR12_0 sz13
    have R13_1 := Lib.hid (R12_1.out.below bb13 hR12_1)
    have hR13_1 : g1 ≤ (w13.alloc (.cells #[.int .i64 x13, .int .i64 y13] 38)).heap.size := Nat.le_trans hR12_1 sz13
    have R13_2 := Lib.hid (R12_2.out.below bb13 hR12_2)
    have hR13_2 : W2.heap.size ≤ (w13.alloc (.cells #[.int .i64 x13, .int .i64 y13] 38)).heap.size := Nat.le_trans hR12_2 sz13
    have R13_3 := Lib.hid (R12_3.out.below bb13 hR12_3)
    have hR13_3 : g3 ≤ (w13.alloc (.cells #[.int .i64 x13, .int .i64 y13] 38)).heap.size := Nat.le_trans hR12_3 sz13
    have R13_4 := Lib.hid (R12_4.out.below bb13 hR12_4)
    have hR13_4 : g4 ≤ (w13.alloc (.cells #[.int .i64 x13, .int .i64 y13] 38)).heap.size := Nat.le_trans hR12_4 sz13
    have R13_5 := Lib.hid (R12_5.out.below bb13 hR12_5)
    have hR13_5 : g7 ≤ (w13.alloc (.cells #[.int .i64 x13, .int .i64 y13] 38)).heap.size := Nat.le_trans hR12_5 sz13
    have R13_6 := Lib.hid (R12_6.out.below bb13 hR12_6)
    have hR13_6 : g10 ≤ (w13.alloc (.cells #[.int .i64 x13, .int .i64 y13] 38)).heap.size := Nat.le_trans hR12_6 sz13
    have Bw13 := Lib.hid (Bw12.out.trans (bb13.mono Bw12.out.size))
    have c13_20 : (w13.alloc (.cells #[.int .i64 x13, .int .i64 y13] 38)).cell? ⟨w13.heap.size, 0, none⟩ = some (.int .i64 x13) := G13.cell 0
    have hc13_20 : w13.heap.size < (w13.alloc (.cells #[.int .i64 x13, .int .i64 y13] 38)).heap.size := hs13
    have c13_21 : (w13.alloc (.cells #[.int .i64 x13, .int .i64 y13] 38)).cell? ⟨w13.heap.size, 1, none⟩ = some (.int .i64 y13) := G13.cell 1
    have hc13_21 : w13.heap.size < (w13.alloc (.cells #[.int .i64 x13, .int .i64 y13] 38)).heap.size := hs13
    generalize w13.alloc (.cells #[.int .i64 x13, .int .i64 y13] 38) = W13 at bb13 sz13 c13_0 hc13_0 c13_1 hc13_1 c13_2 hc13_2 c13_3 hc13_3 c13_4 hc13_4 c13_5 hc13_5 c13_6 hc13_6 c13_7 hc13_7 c13_8 hc13_8 c13_9 hc13_9 c13_10 hc13_10 c13_11 hc13_11 c13_12 hc13_12 c13_13 hc13_13 c13_14 hc13_14 c13_15 hc13_15 c13_16 hc13_16 c13_17 hc13_17 c13_18 hc13_18 c13_19 hc13_19 R13_0 hR13_0 R13_1 hR13_1 R13_2 hR13_2 R13_3 hR13_3 R13_4 hR13_4 R13_5 hR13_5 R13_6 hR13_6 Bw13 c13_20 hc13_20 c13_21 hc13_21 ⊢
    clear bb13 sz13
    clear c12_0 c12_1 c12_2 c12_3 c12_4 c12_5 c12_6 c12_7 c12_8 c12_9 c12_10 c12_11 c12_12 c12_13 c12_14 c12_15 c12_16 c12_17 c12_18 c12_19 hc12_0 hc12_1 hc12_2 hc12_3 hc12_4 hc12_5 hc12_6 hc12_7 hc12_8 hc12_9 hc12_10 hc12_11 hc12_12 hc12_13 hc12_14 hc12_15 hc12_16 hc12_17 hc12_18 hc12_19 R12_0 R12_1 R12_2 R12_3 R12_4 R12_5 R12_6 hR12_0 hR12_1 hR12_2 hR12_3 hR12_4 hR12_5 hR12_6 k12_0 k12_1 k12_2 k12_3 k12_4 k12_5 k12_6 k12_7 k12_8 k12_9 k12_10 k12_11 k12_12 k12_13 k12_14 k12_15 k12_16 k12_17 k12_18 k12_19 Bw12 G13 b13 hA13 hs13
    generalize w13.heap.size = g13 at *
    have k13_0 := fun p : Past W13 => Past.cell (W := W13) c13_0 hc13_0 p
    have k13_1 := fun p : Past W13 => Past.cell (W := W13) c13_1 hc13_1 p
    have k13_2 := fun p : Past W13 => Past.cell (W := W13) c13_2 hc13_2 p
    have k13_3 := fun p : Past W13 => Past.cell (W := W13) c13_3 hc13_3 p
    have k13_4 := fun p : Past W13 => Past.cell (W := W13) c13_4 hc13_4 p
    have k13_5 := fun p : Past W13 => Past.cell (W := W13) c13_5 hc13_5 p
    have k13_6 := fun p : Past W13 => Past.cell (W := W13) c13_6 hc13_6 p
    have k13_7 := fun p : Past W13 => Past.cell (W := W13) c13_7 hc13_7 p
    have k13_8 := fun p : Past W13 => Past.cell (W := W13) c13_8 hc13_8 p
    have k13_9 := fun p : Past W13 => Past.cell (W := W13) c13_9 hc13_9 p
    have k13_10 := fun p : Past W13 => Past.cell (W := W13) c13_10 hc13_10 p
    have k13_11 := fun p : Past W13 => Past.cell (W := W13) c13_11 hc13_11 p
    have k13_12 := fun p : Past W13 => Past.cell (W := W13) c13_12 hc13_12 p
    have k13_13 := fun p : Past W13 => Past.cell (W := W13) c13_13 hc13_13 p
    have k13_14 := fun p : Past W13 => Past.cell (W := W13) c13_14 hc13_14 p
    have k13_15 := fun p : Past W13 => Past.cell (W := W13) c13_15 hc13_15 p
    have k13_16 := fun p : Past W13 => Past.cell (W := W13) c13_16 hc13_16 p
    have k13_17 := fun p : Past W13 => Past.cell (W := W13) c13_17 hc13_17 p
    have k13_18 := fun p : Past W13 => Past.cell (W := W13) c13_18 hc13_18 p
    have k13_19 := fun p : Past W13 => Past.cell (W := W13) c13_19 hc13_19 p
    have k13_20 := fun p : Past W13 => Past.cell (W := W13) c13_20 hc13_20 p
    have k13_21 := fun p : Past W13 => Past.cell (W := W13) c13_21 hc13_21 p
    go_wp2_with fail
    have HC14 := spec_attrConcept a10 _ r10 x10 g10 (Past.start W13).w (Past.reads R13_6.out hR13_6 (Past.start W13)) (Past.len hR13_6 (Past.start W13))
    rw [ET13.out] at HC14
    refine HC14.mono ?_
    clear HC14
    rintro e w14 ⟨rfl, b14⟩
    have hA14 := (Below.refl w14.heap.size w14).alloc (Nat.le_refl _) (.cells #[.int .i64 x13, .int .i64 y13] 38)
    go_upto_region 17 with fail
    have hs14 : w14.heap.size < (w14.alloc (.cells #[.int .i64 x13, .int .i64 y13] 38)).heap.size := by simp
    have G14 := BoxAt.new w14 38 #[.int .i64 x13, .int .i64 y13]
    have bb14 := (Past.start W13).h.trans ((b14.trans (hA14.mono b14.size)).mono (Past.start W13).h.size)
    have sz14 := bb14.size
    have c14_0 : (w14.alloc (.cells #[.int .i64 x13, .int .i64 y13] 38)).cell? ⟨g1, 0, none⟩ = some (.int .i64 a1) := (bb14.cell (p := ⟨g1, 0, none⟩) hc13_0).trans c13_0
    have hc14_0 : g1 < (w14.alloc (.cells #[.int .i64 x13, .int .i64 y13] 38)).heap.size := Nat.lt_of_lt_of_le hc13_0 sz14
    have c14_1 : (w14.alloc (.cells #[.int .i64 x13, .int .i64 y13] 38)).cell? ⟨g1, 1, none⟩ = some (.slice p1 r1.length q1) := (bb14.cell (p := ⟨g1, 1, none⟩) hc13_1).trans c13_1
    have hc14_1 : g1 < (w14.alloc (.cells #[.int .i64 x13, .int .i64 y13] 38)).heap.size := Nat.lt_of_lt_of_le hc13_1 sz14
    have c14_2 : (w14.alloc (.cells #[.int .i64 x13, .int .i64 y13] 38)).cell? ⟨g3, 0, none⟩ = some (.int .i64 a3) := (bb14.cell (p := ⟨g3, 0, none⟩) hc13_2).trans c13_2
    have hc14_2 : g3 < (w14.alloc (.cells #[.int .i64 x13, .int .i64 y13] 38)).heap.size := Nat.lt_of_lt_of_le hc13_2 sz14
    have c14_3 : (w14.alloc (.cells #[.int .i64 x13, .int .i64 y13] 38)).cell? ⟨g3, 1, none⟩ = some (.slice p3 r3.length q3) := (bb14.cell (p := ⟨g3, 1, none⟩) hc13_3).trans c13_3
    have hc14_3 : g3 < (w14.alloc (.cells #[.int .i64 x13, .int .i64 y13] 38)).heap.size := Nat.lt_of_lt_of_le hc13_3 sz14
    have c14_4 : (w14.alloc (.cells #[.int .i64 x13, .int .i64 y13] 38)).cell? ⟨g3 + 1, 0, none⟩ = some (.int .i64 x3) := (bb14.cell (p := ⟨g3 + 1, 0, none⟩) hc13_4).trans c13_4
    have hc14_4 : g3 + 1 < (w14.alloc (.cells #[.int .i64 x13, .int .i64 y13] 38)).heap.size := Nat.lt_of_lt_of_le hc13_4 sz14
    have c14_5 : (w14.alloc (.cells #[.int .i64 x13, .int .i64 y13] 38)).cell? ⟨g3 + 1, 1, none⟩ = some (.int .i64 y3) := (bb14.cell (p := ⟨g3 + 1, 1, none⟩) hc13_5).trans c13_5
    have hc14_5 : g3 + 1 < (w14.alloc (.cells #[.int .i64 x13, .int .i64 y13] 38)).heap.size := Nat.lt_of_lt_of_le hc13_5 sz14
    have c14_6 : (w14.alloc (.cells #[.int .i64 x13, .int .i64 y13] 38)).cell? ⟨g4, 0, none⟩ = some (.int .i64 a4) := (bb14.cell (p := ⟨g4, 0, none⟩) hc13_6).trans c13_6
    have hc14_6 : g4 < (w14.alloc (.cells #[.int .i64 x13, .int .i64 y13] 38)).heap.size := Nat.lt_of_lt_of_le hc13_6 sz14
    have c14_7 : (w14.alloc (.cells #[.int .i64 x13, .int .i64 y13] 38)).cell? ⟨g4, 1, none⟩ = some (.slice p4 r4.length q4) := (bb14.cell (p := ⟨g4, 1, none⟩) hc13_7).trans c13_7
    have hc14_7 : g4 < (w14.alloc (.cells #[.int .i64 x13, .int .i64 y13] 38)).heap.size := Nat.lt_of_lt_of_le hc13_7 sz14
    have c14_8 : (w14.alloc (.cells #[.int .i64 x13, .int .i64 y13] 38)).cell? ⟨g7, 0, none⟩ = some (.int .i64 a7) := (bb14.cell (p := ⟨g7, 0, none⟩) hc13_8).trans c13_8
    have hc14_8 : g7 < (w14.alloc (.cells #[.int .i64 x13, .int .i64 y13] 38)).heap.size := Nat.lt_of_lt_of_le hc13_8 sz14
    have c14_9 : (w14.alloc (.cells #[.int .i64 x13, .int .i64 y13] 38)).cell? ⟨g7, 1, none⟩ = some (.slice p7 r7.length q7) := (bb14.cell (p := ⟨g7, 1, none⟩) hc13_9).trans c13_9
    have hc14_9 : g7 < (w14.alloc (.cells #[.int .i64 x13, .int .i64 y13] 38)).heap.size := Nat.lt_of_lt_of_le hc13_9 sz14
    have c14_10 : (w14.alloc (.cells #[.int .i64 x13, .int .i64 y13] 38)).cell? ⟨g8, 0, none⟩ = some (.int .i64 x8) := (bb14.cell (p := ⟨g8, 0, none⟩) hc13_10).trans c13_10
    have hc14_10 : g8 < (w14.alloc (.cells #[.int .i64 x13, .int .i64 y13] 38)).heap.size := Nat.lt_of_lt_of_le hc13_10 sz14
    have c14_11 : (w14.alloc (.cells #[.int .i64 x13, .int .i64 y13] 38)).cell? ⟨g8, 1, none⟩ = some (.int .i64 y8) := (bb14.cell (p := ⟨g8, 1, none⟩) hc13_11).trans c13_11
    have hc14_11 : g8 < (w14.alloc (.cells #[.int .i64 x13, .int .i64 y13] 38)).heap.size := Nat.lt_of_lt_of_le hc13_11 sz14
    have c14_12 : (w14.alloc (.cells #[.int .i64 x13, .int .i64 y13] 38)).cell? ⟨g9, 0, none⟩ = some (.int .i64 x8) := (bb14.cell (p := ⟨g9, 0, none⟩) hc13_12).trans c13_12
    have hc14_12 : g9 < (w14.alloc (.cells #[.int .i64 x13, .int .i64 y13] 38)).heap.size := Nat.lt_of_lt_of_le hc13_12 sz14
    have c14_13 : (w14.alloc (.cells #[.int .i64 x13, .int .i64 y13] 38)).cell? ⟨g9, 1, none⟩ = some (.int .i64 y8) := (bb14.cell (p := ⟨g9, 1, none⟩) hc13_13).trans c13_13
    have hc14_13 : g9 < (w14.alloc (.cells #[.int .i64 x13, .int .i64 y13] 38)).heap.size := Nat.lt_of_lt_of_le hc13_13 sz14
    have c14_14 : (w14.alloc (.cells #[.int .i64 x13, .int .i64 y13] 38)).cell? ⟨g10, 0, none⟩ = some (.int .i64 a10) := (bb14.cell (p := ⟨g10, 0, none⟩) hc13_14).trans c13_14
    have hc14_14 : g10 < (w14.alloc (.cells #[.int .i64 x13, .int .i64 y13] 38)).heap.size := Nat.lt_of_lt_of_le hc13_14 sz14
    have c14_15 : (w14.alloc (.cells #[.int .i64 x13, .int .i64 y13] 38)).cell? ⟨g10, 1, none⟩ = some (.slice p10 r10.length q10) := (bb14.cell (p := ⟨g10, 1, none⟩) hc13_15).trans c13_15
    have hc14_15 : g10 < (w14.alloc (.cells #[.int .i64 x13, .int .i64 y13] 38)).heap.size := Nat.lt_of_lt_of_le hc13_15 sz14
    have c14_16 : (w14.alloc (.cells #[.int .i64 x13, .int .i64 y13] 38)).cell? ⟨g11, 0, none⟩ = some (.int .i64 x11) := (bb14.cell (p := ⟨g11, 0, none⟩) hc13_16).trans c13_16
    have hc14_16 : g11 < (w14.alloc (.cells #[.int .i64 x13, .int .i64 y13] 38)).heap.size := Nat.lt_of_lt_of_le hc13_16 sz14
    have c14_17 : (w14.alloc (.cells #[.int .i64 x13, .int .i64 y13] 38)).cell? ⟨g11, 1, none⟩ = some (.int .i64 y11) := (bb14.cell (p := ⟨g11, 1, none⟩) hc13_17).trans c13_17
    have hc14_17 : g11 < (w14.alloc (.cells #[.int .i64 x13, .int .i64 y13] 38)).heap.size := Nat.lt_of_lt_of_le hc13_17 sz14
    have c14_18 : (w14.alloc (.cells #[.int .i64 x13, .int .i64 y13] 38)).cell? ⟨g12, 0, none⟩ = some (.int .i64 x11) := (bb14.cell (p := ⟨g12, 0, none⟩) hc13_18).trans c13_18
    have hc14_18 : g12 < (w14.alloc (.cells #[.int .i64 x13, .int .i64 y13] 38)).heap.size := Nat.lt_of_lt_of_le hc13_18 sz14
    have c14_19 : (w14.alloc (.cells #[.int .i64 x13, .int .i64 y13] 38)).cell? ⟨g12, 1, none⟩ = some (.int .i64 y11) := (bb14.cell (p := ⟨g12, 1, none⟩) hc13_19).trans c13_19
    have hc14_19 : g12 < (w14.alloc (.cells #[.int .i64 x13, .int .i64 y13] 38)).heap.size := Nat.lt_of_lt_of_le hc13_19 sz14
    have c14_20 : (w14.alloc (.cells #[.int .i64 x13, .int .i64 y13] 38)).cell? ⟨g13, 0, none⟩ = some (.int .i64 x13) := (bb14.cell (p := ⟨g13, 0, none⟩) hc13_20).trans c13_20
    have hc14_20 : g13 < (w14.alloc (.cells #[.int .i64 x13, .int .i64 y13] 38)).heap.size := Nat.lt_of_lt_of_le hc13_20 sz14
    have c14_21 : (w14.alloc (.cells #[.int .i64 x13, .int .i64 y13] 38)).cell? ⟨g13, 1, none⟩ = some (.int .i64 y13) := (bb14.cell (p := ⟨g13, 1, none⟩) hc13_21).trans c13_21
    have hc14_21 : g13 < (w14.alloc (.cells #[.int .i64 x13, .int .i64 y13] 38)).heap.size := Nat.lt_of_lt_of_le hc13_21 sz14
    have R14_0 := Lib.hid (R13_0.out.below bb14 hR13_0)
    have hR14_0 : w.heap.size ≤ (w14.alloc (.cells #[.int .i64 x13, .int .i64 y13] 38)).heap.size := Nat.le_trans hR13_0 sz14
    have R14_1 := Lib.hid (R13_1.out.below bb14 hR13_1)
    have hR14_1 : g1 ≤ (w14.alloc (.cells #[.int .i64 x13, .int .i64 y13] 38)).heap.size := Nat.le_trans hR13_1 sz14
    have R14_2 := Lib.hid (R13_2.out.below bb14 hR13_2)
    have hR14_2 : W2.heap.size ≤ (w14.alloc (.cells #[.int .i64 x13, .int .i64 y13] 38)).heap.size := Nat.le_trans hR13_2 sz14
    have R14_3 := Lib.hid (R13_3.out.below bb14 hR13_3)
    have hR14_3 : g3 ≤ (w14.alloc (.cells #[.int .i64 x13, .int .i64 y13] 38)).heap.size := Nat.le_trans hR13_3 sz14
    have R14_4 := Lib.hid (R13_4.out.below bb14 hR13_4)
    have hR14_4 : g4 ≤ (w14.alloc (.cells #[.int .i64 x13, .int .i64 y13] 38)).heap.size := Nat.le_trans hR13_4 sz14
    have R14_5 := Lib.hid (R13_5.out.below bb14 hR13_5)
    have hR14_5 : g7 ≤ (w14.alloc (.cells #[.int .i64 x13, .int .i64 y13] 38)).heap.size := Nat.le_trans hR13_5 sz14
    have R14_6 := Lib.hid (R13_6.out.below bb14 hR13_6)
    have hR14_6 : g10 ≤ (w14.alloc (.cells #[.int .i64 x13, .int .i64 y13] 38)).heap.size := Nat.le_trans hR13_6 sz14
    have Bw14 := Lib.hid (Bw13.out.trans (bb14.mono Bw13.out.size))
    have c14_22 : (w14.alloc (.cells #[.int .i64 x13, .int .i64 y13] 38)).cell? ⟨w14.heap.size, 0, none⟩ = some (.int .i64 x13) := G14.cell 0
    have hc14_22 : w14.heap.size < (w14.alloc (.cells #[.int .i64 x13, .int .i64 y13] 38)).heap.size := hs14
    have c14_23 : (w14.alloc (.cells #[.int .i64 x13, .int .i64 y13] 38)).cell? ⟨w14.heap.size, 1, none⟩ = some (.int .i64 y13) := G14.cell 1
    have hc14_23 : w14.heap.size < (w14.alloc (.cells #[.int .i64 x13, .int .i64 y13] 38)).heap.size := hs14
    generalize w14.alloc (.cells #[.int .i64 x13, .int .i64 y13] 38) = W14 at bb14 sz14 c14_0 hc14_0 c14_1 hc14_1 c14_2 hc14_2 c14_3 hc14_3 c14_4 hc14_4 c14_5 hc14_5 c14_6 hc14_6 c14_7 hc14_7 c14_8 hc14_8 c14_9 hc14_9 c14_10 hc14_10 c14_11 hc14_11 c14_12 hc14_12 c14_13 hc14_13 c14_14 hc14_14 c14_15 hc14_15 c14_16 hc14_16 c14_17 hc14_17 c14_18 hc14_18 c14_19 hc14_19 c14_20 hc14_20 c14_21 hc14_21 R14_0 hR14_0 R14_1 hR14_1 R14_2 hR14_2 R14_3 hR14_3 R14_4 hR14_4 R14_5 hR14_5 R14_6 hR14_6 Bw14 c14_22 hc14_22 c14_23 hc14_23 ⊢
    clear bb14 sz14
    clear c13_0 c13_1 c13_2 c13_3 c13_4 c13_5 c13_6 c13_7 c13_8 c13_9 c13_10 c13_11 c13_12 c13_13 c13_14 c13_15 c13_16 c13_17 c13_18 c13_19 c13_20 c13_21 hc13_0 hc13_1 hc13_2 hc13_3 hc13_4 hc13_5 hc13_6 hc13_7 hc13_8 hc13_9 hc13_10 hc13_11 hc13_12 hc13_13 hc13_14 hc13_15 hc13_16 hc13_17 hc13_18 hc13_19 hc13_20 hc13_21 R13_0 R13_1 R13_2 R13_3 R13_4 R13_5 R13_6 hR13_0 hR13_1 hR13_2 hR13_3 hR13_4 hR13_5 hR13_6 k13_0 k13_1 k13_2 k13_3 k13_4 k13_5 k13_6 k13_7 k13_8 k13_9 k13_10 k13_11 k13_12 k13_13 k13_14 k13_15 k13_16 k13_17 k13_18 k13_19 k13_20 k13_21 Bw13 G14 b14 hA14 hs14
    generalize w14.heap.size = g14 at *
    have k14_0 := fun p : Past W14 => Past.cell (W := W14) c14_0 hc14_0 p
    have k14_1 := fun p : Past W14 => Past.cell (W := W14) c14_1 hc14_1 p
    have k14_2 := fun p : Past W14 => Past.cell (W := W14) c14_2 hc14_2 p
    have k14_3 := fun p : Past W14 => Past.cell (W := W14) c14_3 hc14_3 p
    have k14_4 := fun p : Past W14 => Past.cell (W := W14) c14_4 hc14_4 p
    have k14_5 := fun p : Past W14 => Past.cell (W := W14) c14_5 hc14_5 p
    have k14_6 := fun p : Past W14 => Past.cell (W := W14) c14_6 hc14_6 p
    have k14_7 := fun p : Past W14 => Past.cell (W := W14) c14_7 hc14_7 p
    have k14_8 := fun p : Past W14 => Past.cell (W := W14) c14_8 hc14_8 p
    have k14_9 := fun p : Past W14 => Past.cell (W := W14) c14_9 hc14_9 p
    have k14_10 := fun p : Past W14 => Past.cell (W := W14) c14_10 hc14_10 p
    have k14_11 := fun p : Past W14 => Past.cell (W := W14) c14_11 hc14_11 p
    have k14_12 := fun p : Past W14 => Past.cell (W := W14) c14_12 hc14_12 p
    have k14_13 := fun p : Past W14 => Past.cell (W := W14) c14_13 hc14_13 p
    have k14_14 := fun p : Past W14 => Past.cell (W := W14) c14_14 hc14_14 p
    have k14_15 := fun p : Past W14 => Past.cell (W := W14) c14_15 hc14_15 p
    have k14_16 := fun p : Past W14 => Past.cell (W := W14) c14_16 hc14_16 p
    have k14_17 := fun p : Past W14 => Past.cell (W := W14) c14_17 hc14_17 p
    have k14_18 := fun p : Past W14 => Past.cell (W := W14) c14_18 hc14_18 p
    have k14_19 := fun p : Past W14 => Past.cell (W := W14) c14_19 hc14_19 p
    have k14_20 := fun p : Past W14 => Past.cell (W := W14) c14_20 hc14_20 p
    have k14_21 := fun p : Past W14 => Past.cell (W := W14) c14_21 hc14_21 p
    have k14_22 := fun p : Past W14 => Past.cell (W := W14) c14_22 hc14_22 p
    have k14_23 := fun p : Past W14 => Past.cell (W := W14) c14_23 hc14_23 p
    go_wp2_with fail
    refine (DrawConceptText v xs w.heap.size (Past.start W14).w (Past.reads R14_0.out hR14_0 (Past.start W14)) (Past.len hR14_0 (Past.start W14)) HX.out (by omega)).mono ?_
    rintro e w15 ⟨x15, y15, rfl, b15⟩
    have hA15 := (Below.refl w15.heap.size w15).alloc (Nat.le_refl _) (.cells #[.int .i64 x15, .int .i64 y15] 38)
    go_upto_region 18 with fail
    have hs15 : w15.heap.size < (w15.alloc (.cells #[.int .i64 x15, .int .i64 y15] 38)).heap.size := by simp
    have G15 := BoxAt.new w15 38 #[.int .i64 x15, .int .i64 y15]
    have bb15 := (Past.start W14).h.trans ((b15.trans (hA15.mono b15.size)).mono (Past.start W14).h.size)
    have sz15 := bb15.size
    have c15_0 : (w15.alloc (.cells #[.int .i64 x15, .int .i64 y15] 38)).cell? ⟨g1, 0, none⟩ = some (.int .i64 a1) := (bb15.cell (p := ⟨g1, 0, none⟩) hc14_0).trans c14_0
    have hc15_0 : g1 < (w15.alloc (.cells #[.int .i64 x15, .int .i64 y15] 38)).heap.size := Nat.lt_of_lt_of_le hc14_0 sz15
    have c15_1 : (w15.alloc (.cells #[.int .i64 x15, .int .i64 y15] 38)).cell? ⟨g1, 1, none⟩ = some (.slice p1 r1.length q1) := (bb15.cell (p := ⟨g1, 1, none⟩) hc14_1).trans c14_1
    have hc15_1 : g1 < (w15.alloc (.cells #[.int .i64 x15, .int .i64 y15] 38)).heap.size := Nat.lt_of_lt_of_le hc14_1 sz15
    have c15_2 : (w15.alloc (.cells #[.int .i64 x15, .int .i64 y15] 38)).cell? ⟨g3, 0, none⟩ = some (.int .i64 a3) := (bb15.cell (p := ⟨g3, 0, none⟩) hc14_2).trans c14_2
    have hc15_2 : g3 < (w15.alloc (.cells #[.int .i64 x15, .int .i64 y15] 38)).heap.size := Nat.lt_of_lt_of_le hc14_2 sz15
    have c15_3 : (w15.alloc (.cells #[.int .i64 x15, .int .i64 y15] 38)).cell? ⟨g3, 1, none⟩ = some (.slice p3 r3.length q3) := (bb15.cell (p := ⟨g3, 1, none⟩) hc14_3).trans c14_3
    have hc15_3 : g3 < (w15.alloc (.cells #[.int .i64 x15, .int .i64 y15] 38)).heap.size := Nat.lt_of_lt_of_le hc14_3 sz15
    have c15_4 : (w15.alloc (.cells #[.int .i64 x15, .int .i64 y15] 38)).cell? ⟨g3 + 1, 0, none⟩ = some (.int .i64 x3) := (bb15.cell (p := ⟨g3 + 1, 0, none⟩) hc14_4).trans c14_4
    have hc15_4 : g3 + 1 < (w15.alloc (.cells #[.int .i64 x15, .int .i64 y15] 38)).heap.size := Nat.lt_of_lt_of_le hc14_4 sz15
    have c15_5 : (w15.alloc (.cells #[.int .i64 x15, .int .i64 y15] 38)).cell? ⟨g3 + 1, 1, none⟩ = some (.int .i64 y3) := (bb15.cell (p := ⟨g3 + 1, 1, none⟩) hc14_5).trans c14_5
    have hc15_5 : g3 + 1 < (w15.alloc (.cells #[.int .i64 x15, .int .i64 y15] 38)).heap.size := Nat.lt_of_lt_of_le hc14_5 sz15
    have c15_6 : (w15.alloc (.cells #[.int .i64 x15, .int .i64 y15] 38)).cell? ⟨g4, 0, none⟩ = some (.int .i64 a4) := (bb15.cell (p := ⟨g4, 0, none⟩) hc14_6).trans c14_6
    have hc15_6 : g4 < (w15.alloc (.cells #[.int .i64 x15, .int .i64 y15] 38)).heap.size := Nat.lt_of_lt_of_le hc14_6 sz15
    have c15_7 : (w15.alloc (.cells #[.int .i64 x15, .int .i64 y15] 38)).cell? ⟨g4, 1, none⟩ = some (.slice p4 r4.length q4) := (bb15.cell (p := ⟨g4, 1, none⟩) hc14_7).trans c14_7
    have hc15_7 : g4 < (w15.alloc (.cells #[.int .i64 x15, .int .i64 y15] 38)).heap.size := Nat.lt_of_lt_of_le hc14_7 sz15
    have c15_8 : (w15.alloc (.cells #[.int .i64 x15, .int .i64 y15] 38)).cell? ⟨g7, 0, none⟩ = some (.int .i64 a7) := (bb15.cell (p := ⟨g7, 0, none⟩) hc14_8).trans c14_8
    have hc15_8 : g7 < (w15.alloc (.cells #[.int .i64 x15, .int .i64 y15] 38)).heap.size := Nat.lt_of_lt_of_le hc14_8 sz15
    have c15_9 : (w15.alloc (.cells #[.int .i64 x15, .int .i64 y15] 38)).cell? ⟨g7, 1, none⟩ = some (.slice p7 r7.length q7) := (bb15.cell (p := ⟨g7, 1, none⟩) hc14_9).trans c14_9
    have hc15_9 : g7 < (w15.alloc (.cells #[.int .i64 x15, .int .i64 y15] 38)).heap.size := Nat.lt_of_lt_of_le hc14_9 sz15
    have c15_10 : (w15.alloc (.cells #[.int .i64 x15, .int .i64 y15] 38)).cell? ⟨g8, 0, none⟩ = some (.int .i64 x8) := (bb15.cell (p := ⟨g8, 0, none⟩) hc14_10).trans c14_10
    have hc15_10 : g8 < (w15.alloc (.cells #[.int .i64 x15, .int .i64 y15] 38)).heap.size := Nat.lt_of_lt_of_le hc14_10 sz15
    have c15_11 : (w15.alloc (.cells #[.int .i64 x15, .int .i64 y15] 38)).cell? ⟨g8, 1, none⟩ = some (.int .i64 y8) := (bb15.cell (p := ⟨g8, 1, none⟩) hc14_11).trans c14_11
    have hc15_11 : g8 < (w15.alloc (.cells #[.int .i64 x15, .int .i64 y15] 38)).heap.size := Nat.lt_of_lt_of_le hc14_11 sz15
    have c15_12 : (w15.alloc (.cells #[.int .i64 x15, .int .i64 y15] 38)).cell? ⟨g9, 0, none⟩ = some (.int .i64 x8) := (bb15.cell (p := ⟨g9, 0, none⟩) hc14_12).trans c14_12
    have hc15_12 : g9 < (w15.alloc (.cells #[.int .i64 x15, .int .i64 y15] 38)).heap.size := Nat.lt_of_lt_of_le hc14_12 sz15
    have c15_13 : (w15.alloc (.cells #[.int .i64 x15, .int .i64 y15] 38)).cell? ⟨g9, 1, none⟩ = some (.int .i64 y8) := (bb15.cell (p := ⟨g9, 1, none⟩) hc14_13).trans c14_13
    have hc15_13 : g9 < (w15.alloc (.cells #[.int .i64 x15, .int .i64 y15] 38)).heap.size := Nat.lt_of_lt_of_le hc14_13 sz15
    have c15_14 : (w15.alloc (.cells #[.int .i64 x15, .int .i64 y15] 38)).cell? ⟨g10, 0, none⟩ = some (.int .i64 a10) := (bb15.cell (p := ⟨g10, 0, none⟩) hc14_14).trans c14_14
    have hc15_14 : g10 < (w15.alloc (.cells #[.int .i64 x15, .int .i64 y15] 38)).heap.size := Nat.lt_of_lt_of_le hc14_14 sz15
    have c15_15 : (w15.alloc (.cells #[.int .i64 x15, .int .i64 y15] 38)).cell? ⟨g10, 1, none⟩ = some (.slice p10 r10.length q10) := (bb15.cell (p := ⟨g10, 1, none⟩) hc14_15).trans c14_15
    have hc15_15 : g10 < (w15.alloc (.cells #[.int .i64 x15, .int .i64 y15] 38)).heap.size := Nat.lt_of_lt_of_le hc14_15 sz15
    have c15_16 : (w15.alloc (.cells #[.int .i64 x15, .int .i64 y15] 38)).cell? ⟨g11, 0, none⟩ = some (.int .i64 x11) := (bb15.cell (p := ⟨g11, 0, none⟩) hc14_16).trans c14_16
    have hc15_16 : g11 < (w15.alloc (.cells #[.int .i64 x15, .int .i64 y15] 38)).heap.size := Nat.lt_of_lt_of_le hc14_16 sz15
    have c15_17 : (w15.alloc (.cells #[.int .i64 x15, .int .i64 y15] 38)).cell? ⟨g11, 1, none⟩ = some (.int .i64 y11) := (bb15.cell (p := ⟨g11, 1, none⟩) hc14_17).trans c14_17
    have hc15_17 : g11 < (w15.alloc (.cells #[.int .i64 x15, .int .i64 y15] 38)).heap.size := Nat.lt_of_lt_of_le hc14_17 sz15
    have c15_18 : (w15.alloc (.cells #[.int .i64 x15, .int .i64 y15] 38)).cell? ⟨g12, 0, none⟩ = some (.int .i64 x11) := (bb15.cell (p := ⟨g12, 0, none⟩) hc14_18).trans c14_18
    have hc15_18 : g12 < (w15.alloc (.cells #[.int .i64 x15, .int .i64 y15] 38)).heap.size := Nat.lt_of_lt_of_le hc14_18 sz15
    have c15_19 : (w15.alloc (.cells #[.int .i64 x15, .int .i64 y15] 38)).cell? ⟨g12, 1, none⟩ = some (.int .i64 y11) := (bb15.cell (p := ⟨g12, 1, none⟩) hc14_19).trans c14_19
    have hc15_19 : g12 < (w15.alloc (.cells #[.int .i64 x15, .int .i64 y15] 38)).heap.size := Nat.lt_of_lt_of_le hc14_19 sz15
    have c15_20 : (w15.alloc (.cells #[.int .i64 x15, .int .i64 y15] 38)).cell? ⟨g13, 0, none⟩ = some (.int .i64 x13) := (bb15.cell (p := ⟨g13, 0, none⟩) hc14_20).trans c14_20
    have hc15_20 : g13 < (w15.alloc (.cells #[.int .i64 x15, .int .i64 y15] 38)).heap.size := Nat.lt_of_lt_of_le hc14_20 sz15
    have c15_21 : (w15.alloc (.cells #[.int .i64 x15, .int .i64 y15] 38)).cell? ⟨g13, 1, none⟩ = some (.int .i64 y13) := (bb15.cell (p := ⟨g13, 1, none⟩) hc14_21).trans c14_21
    have hc15_21 : g13 < (w15.alloc (.cells #[.int .i64 x15, .int .i64 y15] 38)).heap.size := Nat.lt_of_lt_of_le hc14_21 sz15
    have c15_22 : (w15.alloc (.cells #[.int .i64 x15, .int .i64 y15] 38)).cell? ⟨g14, 0, none⟩ = some (.int .i64 x13) := (bb15.cell (p := ⟨g14, 0, none⟩) hc14_22).trans c14_22
    have hc15_22 : g14 < (w15.alloc (.cells #[.int .i64 x15, .int .i64 y15] 38)).heap.size := Nat.lt_of_lt_of_le hc14_22 sz15
    have c15_23 : (w15.alloc (.cells #[.int .i64 x15, .int .i64 y15] 38)).cell? ⟨g14, 1, none⟩ = some (.int .i64 y13) := (bb15.cell (p := ⟨g14, 1, none⟩) hc14_23).trans c14_23
    have hc15_23 : g14 < (w15.alloc (.cells #[.int .i64 x15, .int .i64 y15] 38)).heap.size := Nat.lt_of_lt_of_le hc14_23 sz15
    have R15_0 := Lib.hid (R14_0.out.below bb15 hR14_0)
    have hR15_0 : w.heap.size ≤ (w15.alloc (.cells #[.int .i64 x15, .int .i64 y15] 38)).heap.size := Nat.le_trans hR14_0 sz15
    have R15_1 := Lib.hid (R14_1.out.below bb15 hR14_1)
    have hR15_1 : g1 ≤ (w15.alloc (.cells #[.int .i64 x15, .int .i64 y15] 38)).heap.size := Nat.le_trans hR14_1 sz15
    have R15_2 := Lib.hid (R14_2.out.below bb15 hR14_2)
    have hR15_2 : W2.heap.size ≤ (w15.alloc (.cells #[.int .i64 x15, .int .i64 y15] 38)).heap.size := Nat.le_trans hR14_2 sz15
    have R15_3 := Lib.hid (R14_3.out.below bb15 hR14_3)
    have hR15_3 : g3 ≤ (w15.alloc (.cells #[.int .i64 x15, .int .i64 y15] 38)).heap.size := Nat.le_trans hR14_3 sz15
    have R15_4 := Lib.hid (R14_4.out.below bb15 hR14_4)
    have hR15_4 : g4 ≤ (w15.alloc (.cells #[.int .i64 x15, .int .i64 y15] 38)).heap.size := Nat.le_trans hR14_4 sz15
    have R15_5 := Lib.hid (R14_5.out.below bb15 hR14_5)
    have hR15_5 : g7 ≤ (w15.alloc (.cells #[.int .i64 x15, .int .i64 y15] 38)).heap.size := Nat.le_trans hR14_5 sz15
    have R15_6 := Lib.hid (R14_6.out.below bb15 hR14_6)
    have hR15_6 : g10 ≤ (w15.alloc (.cells #[.int .i64 x15, .int .i64 y15] 38)).heap.size := Nat.le_trans hR14_6 sz15
    have Bw15 := Lib.hid (Bw14.out.trans (bb15.mono Bw14.out.size))
    have c15_24 : (w15.alloc (.cells #[.int .i64 x15, .int .i64 y15] 38)).cell? ⟨w15.heap.size, 0, none⟩ = some (.int .i64 x15) := G15.cell 0
    have hc15_24 : w15.heap.size < (w15.alloc (.cells #[.int .i64 x15, .int .i64 y15] 38)).heap.size := hs15
    have c15_25 : (w15.alloc (.cells #[.int .i64 x15, .int .i64 y15] 38)).cell? ⟨w15.heap.size, 1, none⟩ = some (.int .i64 y15) := G15.cell 1
    have hc15_25 : w15.heap.size < (w15.alloc (.cells #[.int .i64 x15, .int .i64 y15] 38)).heap.size := hs15
    generalize w15.alloc (.cells #[.int .i64 x15, .int .i64 y15] 38) = W15 at bb15 sz15 c15_0 hc15_0 c15_1 hc15_1 c15_2 hc15_2 c15_3 hc15_3 c15_4 hc15_4 c15_5 hc15_5 c15_6 hc15_6 c15_7 hc15_7 c15_8 hc15_8 c15_9 hc15_9 c15_10 hc15_10 c15_11 hc15_11 c15_12 hc15_12 c15_13 hc15_13 c15_14 hc15_14 c15_15 hc15_15 c15_16 hc15_16 c15_17 hc15_17 c15_18 hc15_18 c15_19 hc15_19 c15_20 hc15_20 c15_21 hc15_21 c15_22 hc15_22 c15_23 hc15_23 R15_0 hR15_0 R15_1 hR15_1 R15_2 hR15_2 R15_3 hR15_3 R15_4 hR15_4 R15_5 hR15_5 R15_6 hR15_6 Bw15 c15_24 hc15_24 c15_25 hc15_25 ⊢
    clear bb15 sz15
    clear c14_0 c14_1 c14_2 c14_3 c14_4 c14_5 c14_6 c14_7 c14_8 c14_9 c14_10 c14_11 c14_12 c14_13 c14_14 c14_15 c14_16 c14_17 c14_18 c14_19 c14_20 c14_21 c14_22 c14_23 hc14_0 hc14_1 hc14_2 hc14_3 hc14_4 hc14_5 hc14_6 hc14_7 hc14_8 hc14_9 hc14_10 hc14_11 hc14_12 hc14_13 hc14_14 hc14_15 hc14_16 hc14_17 hc14_18 hc14_19 hc14_20 hc14_21 hc14_22 hc14_23 R14_0 R14_1 R14_2 R14_3 R14_4 R14_5 R14_6 hR14_0 hR14_1 hR14_2 hR14_3 hR14_4 hR14_5 hR14_6 k14_0 k14_1 k14_2 k14_3 k14_4 k14_5 k14_6 k14_7 k14_8 k14_9 k14_10 k14_11 k14_12 k14_13 k14_14 k14_15 k14_16 k14_17 k14_18 k14_19 k14_20 k14_21 k14_22 k14_23 Bw14 G15 b15 hA15 hs15
    generalize w15.heap.size = g15 at *
    have k15_0 := fun p : Past W15 => Past.cell (W := W15) c15_0 hc15_0 p
    have k15_1 := fun p : Past W15 => Past.cell (W := W15) c15_1 hc15_1 p
    have k15_2 := fun p : Past W15 => Past.cell (W := W15) c15_2 hc15_2 p
    have k15_3 := fun p : Past W15 => Past.cell (W := W15) c15_3 hc15_3 p
    have k15_4 := fun p : Past W15 => Past.cell (W := W15) c15_4 hc15_4 p
    have k15_5 := fun p : Past W15 => Past.cell (W := W15) c15_5 hc15_5 p
    have k15_6 := fun p : Past W15 => Past.cell (W := W15) c15_6 hc15_6 p
    have k15_7 := fun p : Past W15 => Past.cell (W := W15) c15_7 hc15_7 p
    have k15_8 := fun p : Past W15 => Past.cell (W := W15) c15_8 hc15_8 p
    have k15_9 := fun p : Past W15 => Past.cell (W := W15) c15_9 hc15_9 p
    have k15_10 := fun p : Past W15 => Past.cell (W := W15) c15_10 hc15_10 p
    have k15_11 := fun p : Past W15 => Past.cell (W := W15) c15_11 hc15_11 p
    have k15_12 := fun p : Past W15 => Past.cell (W := W15) c15_12 hc15_12 p
    have k15_13 := fun p : Past W15 => Past.cell (W := W15) c15_13 hc15_13 p
    have k15_14 := fun p : Past W15 => Past.cell (W := W15) c15_14 hc15_14 p
    have k15_15 := fun p : Past W15 => Past.cell (W := W15) c15_15 hc15_15 p
    have k15_16 := fun p : Past W15 => Past.cell (W := W15) c15_16 hc15_16 p
    have k15_17 := fun p : Past W15 => Past.cell (W := W15) c15_17 hc15_17 p
    have k15_18 := fun p : Past W15 => Past.cell (W := W15) c15_18 hc15_18 p
    have k15_19 := fun p : Past W15 => Past.cell (W := W15) c15_19 hc15_19 p
    have k15_20 := fun p : Past W15 => Past.cell (W := W15) c15_20 hc15_20 p
    have k15_21 := fun p : Past W15 => Past.cell (W := W15) c15_21 hc15_21 p
    have k15_22 := fun p : Past W15 => Past.cell (W := W15) c15_22 hc15_22 p
    have k15_23 := fun p : Past W15 => Past.cell (W := W15) c15_23 hc15_23 p
    have k15_24 := fun p : Past W15 => Past.cell (W := W15) c15_24 hc15_24 p
    have k15_25 := fun p : Past W15 => Past.cell (W := W15) c15_25 hc15_25 p
    have hk5 : (k5 != k5) = false := by simp
    have hk8 : (k8 != k8) = false := by simp
    have hk11 : (k11 != k11) = false := by simp
    have hk13 : (k13 != k13) = false := by simp
    have hn5 : ((n5 : Int) != (n5 : Int)) = false := by simp
    have hc8 := neqSelf x8 y8
    have hc11 := neqSelf x11 y11
    have hc13 := neqSelf x13 y13
    obtain ⟨t3, ht3⟩ : ∃ t, isConcept a3 r3 (x3, y3) = t := ⟨_, rfl⟩
    have hq3 : (t3 != t3) = false := by simp
    have HI := Lib.hid fun p : Past W15 => p.of (impl_isConcept a3 _ r3 x3 y3 g3 p.w (Past.reads R15_3.out hR15_3 p) (Past.len hR15_3 p))
    rw [ht3] at HI
    have HS := Lib.hid fun p : Past W15 => p.of (spec_isConcept a3 _ r3 x3 y3 g3 p.w (Past.reads R15_3.out hR15_3 p) (Past.len hR15_3 p))
    rw [ht3] at HS
    clear ht3
    obtain ⟨tx, htx⟩ : ∃ t, Text.cText (x15, y15) = t := ⟨_, rfl⟩
    have hqx : (tx == tx) = true := by simp
    have TI := Lib.hid fun p : Past W15 => p.of (Text.impl_cText x15 y15 p.w)
    rw [htx] at TI
    have TS := Lib.hid fun p : Past W15 => p.of (Text.spec_cText x15 y15 p.w)
    rw [htx] at TS
    clear htx
    have HC := Lib.hid fun p : Past W15 => p.ofPairs (spec_concepts a1 _ r1 g1 p.w (Past.reads R15_1.out hR15_1 p) (Past.len hR15_1 p))
    rw [EL.out] at HC
    go_cut [169] (fun s169 wx => s169 = .bool false ∧ ∃ p : Past W15, wx = p.w)
    case first =>
      go_region_held3 (fun wx => wx.cell? ⟨g1, 0, none⟩ = some (.int .i64 a1) ∧ wx.cell? ⟨g1, 1, none⟩ = some (.slice p1 r1.length q1) ∧ wx.cell? ⟨g3, 0, none⟩ = some (.int .i64 a3) ∧ wx.cell? ⟨g3, 1, none⟩ = some (.slice p3 r3.length q3) ∧ wx.cell? ⟨g3 + 1, 0, none⟩ = some (.int .i64 x3) ∧ wx.cell? ⟨g3 + 1, 1, none⟩ = some (.int .i64 y3) ∧ wx.cell? ⟨g4, 0, none⟩ = some (.int .i64 a4) ∧ wx.cell? ⟨g4, 1, none⟩ = some (.slice p4 r4.length q4) ∧ wx.cell? ⟨g7, 0, none⟩ = some (.int .i64 a7) ∧ wx.cell? ⟨g7, 1, none⟩ = some (.slice p7 r7.length q7) ∧ wx.cell? ⟨g8, 0, none⟩ = some (.int .i64 x8) ∧ wx.cell? ⟨g8, 1, none⟩ = some (.int .i64 y8) ∧ wx.cell? ⟨g9, 0, none⟩ = some (.int .i64 x8) ∧ wx.cell? ⟨g9, 1, none⟩ = some (.int .i64 y8) ∧ wx.cell? ⟨g10, 0, none⟩ = some (.int .i64 a10) ∧ wx.cell? ⟨g10, 1, none⟩ = some (.slice p10 r10.length q10) ∧ wx.cell? ⟨g11, 0, none⟩ = some (.int .i64 x11) ∧ wx.cell? ⟨g11, 1, none⟩ = some (.int .i64 y11) ∧ wx.cell? ⟨g12, 0, none⟩ = some (.int .i64 x11) ∧ wx.cell? ⟨g12, 1, none⟩ = some (.int .i64 y11) ∧ wx.cell? ⟨g13, 0, none⟩ = some (.int .i64 x13) ∧ wx.cell? ⟨g13, 1, none⟩ = some (.int .i64 y13) ∧ wx.cell? ⟨g14, 0, none⟩ = some (.int .i64 x13) ∧ wx.cell? ⟨g14, 1, none⟩ = some (.int .i64 y13) ∧ wx.cell? ⟨g15, 0, none⟩ = some (.int .i64 x15) ∧ wx.cell? ⟨g15, 1, none⟩ = some (.int .i64 y15))
        (first | with_reducible exact ⟨k15_0 ((Past.start W15).drew), k15_1 ((Past.start W15).drew), k15_2 ((Past.start W15).drew), k15_3 ((Past.start W15).drew), k15_4 ((Past.start W15).drew), k15_5 ((Past.start W15).drew), k15_6 ((Past.start W15).drew), k15_7 ((Past.start W15).drew), k15_8 ((Past.start W15).drew), k15_9 ((Past.start W15).drew), k15_10 ((Past.start W15).drew), k15_11 ((Past.start W15).drew), k15_12 ((Past.start W15).drew), k15_13 ((Past.start W15).drew), k15_14 ((Past.start W15).drew), k15_15 ((Past.start W15).drew), k15_16 ((Past.start W15).drew), k15_17 ((Past.start W15).drew), k15_18 ((Past.start W15).drew), k15_19 ((Past.start W15).drew), k15_20 ((Past.start W15).drew), k15_21 ((Past.start W15).drew), k15_22 ((Past.start W15).drew), k15_23 ((Past.start W15).drew), k15_24 ((Past.start W15).drew), k15_25 ((Past.start W15).drew)⟩ | with_reducible exact ⟨k15_0 m1, k15_1 m1, k15_2 m1, k15_3 m1, k15_4 m1, k15_5 m1, k15_6 m1, k15_7 m1, k15_8 m1, k15_9 m1, k15_10 m1, k15_11 m1, k15_12 m1, k15_13 m1, k15_14 m1, k15_15 m1, k15_16 m1, k15_17 m1, k15_18 m1, k15_19 m1, k15_20 m1, k15_21 m1, k15_22 m1, k15_23 m1, k15_24 m1, k15_25 m1⟩ | with_reducible exact ⟨k15_0 m2, k15_1 m2, k15_2 m2, k15_3 m2, k15_4 m2, k15_5 m2, k15_6 m2, k15_7 m2, k15_8 m2, k15_9 m2, k15_10 m2, k15_11 m2, k15_12 m2, k15_13 m2, k15_14 m2, k15_15 m2, k15_16 m2, k15_17 m2, k15_18 m2, k15_19 m2, k15_20 m2, k15_21 m2, k15_22 m2, k15_23 m2, k15_24 m2, k15_25 m2⟩ | with_reducible exact ⟨k15_0 m3, k15_1 m3, k15_2 m3, k15_3 m3, k15_4 m3, k15_5 m3, k15_6 m3, k15_7 m3, k15_8 m3, k15_9 m3, k15_10 m3, k15_11 m3, k15_12 m3, k15_13 m3, k15_14 m3, k15_15 m3, k15_16 m3, k15_17 m3, k15_18 m3, k15_19 m3, k15_20 m3, k15_21 m3, k15_22 m3, k15_23 m3, k15_24 m3, k15_25 m3⟩ | with_reducible exact ⟨k15_0 m4, k15_1 m4, k15_2 m4, k15_3 m4, k15_4 m4, k15_5 m4, k15_6 m4, k15_7 m4, k15_8 m4, k15_9 m4, k15_10 m4, k15_11 m4, k15_12 m4, k15_13 m4, k15_14 m4, k15_15 m4, k15_16 m4, k15_17 m4, k15_18 m4, k15_19 m4, k15_20 m4, k15_21 m4, k15_22 m4, k15_23 m4, k15_24 m4, k15_25 m4⟩ | with_reducible exact ⟨k15_0 m5, k15_1 m5, k15_2 m5, k15_3 m5, k15_4 m5, k15_5 m5, k15_6 m5, k15_7 m5, k15_8 m5, k15_9 m5, k15_10 m5, k15_11 m5, k15_12 m5, k15_13 m5, k15_14 m5, k15_15 m5, k15_16 m5, k15_17 m5, k15_18 m5, k15_19 m5, k15_20 m5, k15_21 m5, k15_22 m5, k15_23 m5, k15_24 m5, k15_25 m5⟩ | with_reducible exact ⟨k15_0 m6, k15_1 m6, k15_2 m6, k15_3 m6, k15_4 m6, k15_5 m6, k15_6 m6, k15_7 m6, k15_8 m6, k15_9 m6, k15_10 m6, k15_11 m6, k15_12 m6, k15_13 m6, k15_14 m6, k15_15 m6, k15_16 m6, k15_17 m6, k15_18 m6, k15_19 m6, k15_20 m6, k15_21 m6, k15_22 m6, k15_23 m6, k15_24 m6, k15_25 m6⟩)
        (first | (go_at_call 47; (with_reducible refine (HC.out ((Past.start W15).drew)).mono ?_); rintro e _ ⟨pm, qm, rfl, m1, rfl, hm1⟩) | (go_at_call 46; (with_reducible refine (m1.of (sameC _ _ L W2.heap.size m1.w.heap.size m1.w (readsP R15_2.out hR15_2 m1) hm1 (Past.len hR15_2 m1) (Nat.le_refl _) (by omega))).mono ?_); rintro e _ ⟨rfl, m2, rfl⟩) | (go_at_call 48; (with_reducible refine (HI.out m2).mono ?_); rintro e _ ⟨rfl, m3, rfl⟩) | (go_at_call 49; (with_reducible refine (HS.out m3).mono ?_); rintro e _ ⟨rfl, m4, rfl⟩) | (go_at_call 50; (with_reducible refine (TI.out m4).mono ?_); rintro e _ ⟨rfl, m5, rfl⟩) | (go_at_call 51; (with_reducible refine (TS.out m5).mono ?_); rintro e _ ⟨rfl, m6, rfl⟩) | fail)
      all_goals go_wp2
      all_goals go_meet
      exact ⟨rfl, m6, rfl⟩
    case rest =>
    obtain ⟨rfl, m6, rfl⟩ := hcut
    clear HI HS TI TS HC hq3 hqx hk5 hk8 hk11 hk13 hn5 hc8 hc11 hc13
    have EG := Lib.hid (next_ask EN5.out EK5.out)
    clear EN5 EK5 ET5 ET8 ET11 ET13
    have HB4 := Lib.hid fun p : Past W15 => spec_before x4 (n5 : Int) p.w
    have HC4 := Lib.hid fun p : Past W15 => p.of (spec_closed a4 _ r4 (n5 : Int) g4 p.w (Past.reads R15_4.out hR15_4 p) (Past.len hR15_4 p))
    have HX1 := Lib.hid fun p : Past W15 => p.of (spec_isCtx a1 _ r1 g1 p.w (Past.reads R15_1.out hR15_1 p) (Past.len hR15_1 p))
    rcases Bool.eq_false_or_eq_true (isCtx a1 r1) with hic | hic
    · rw [hic] at HX1
      have hfp := full_pow hic
      have hN64 : 2 ^ a1.toNat ≤ 64 := Nat.le_trans (Nat.pow_le_pow_right (by omega) (show a1.toNat ≤ 6 by have := isCtx_parts hic; omega)) (by decide)
      have HE : Hid (clN a1 r1 (2 ^ a1.toNat) = L.length) := Lib.hid (by rw [clN_all hic, EL.out])
      have HCY : Hid (∀ k : Nat, closed a1 r1 (k : Int) = true → clN a1 r1 (k + 1) = clN a1 r1 k + 1) := Lib.hid fun k h => clN_yes h
      have HCN : Hid (∀ k : Nat, closed a1 r1 (k : Int) = false → clN a1 r1 (k + 1) = clN a1 r1 k) := Lib.hid fun k h => clN_no h
      have HLE := Lib.hid fun k => clN_le a1 r1 k
      have HZ : Hid (clN a1 r1 0 = 0) := Lib.hid rfl
      have HF := Lib.hid fun w => spec_full a1 w
      obtain ⟨N, hN⟩ : ∃ N, 2 ^ a1.toNat = N := ⟨_, rfl⟩
      rw [hN] at hfp hN64 HE
      have hfN : full a1 = (N : Int) - 1 := by omega
      rw [hfN] at HF
      clear hfp hfN hN
      have HK := Lib.hid fun (p : Past W15) (k : Nat) => p.of (spec_closed a1 _ r1 (k : Int) g1 p.w (Past.reads R15_1.out hR15_1 p) (Past.len hR15_1 p))
      go_wp2_with fail
      go_loopw [30, 31] (fun t i wx => ∃ k c : Nat, k ≤ N ∧ i = .int .i64 k ∧ t = .int .i64 c ∧ Hid (c = clN a1 r1 k) ∧ ∃ p : Past W15, wx = p.w) (fun _ i _ => N - (intOf i).toNat)
      case atStart => exact ⟨0, 0, Nat.zero_le _, rfl, rfl, Lib.hid HZ.out.symm, m6, rfl⟩
      case round =>
        obtain ⟨k, c, hk, rfl, rfl, hc, p, rfl⟩ := hrel
        have hck : c ≤ 64 := by rw [hc.out]; exact Nat.le_trans (HLE.out k) (by omega)
        have kv0 := k15_0 p
        have kv1 := k15_1 p
        by_cases hlt : k < N
        · have d0 : decide ((k : Int) ≤ (N : Int) - 1) = true := decide_eq_true (by omega)
          have HKk := Lib.hid (fun p => HK.out p k)
          have hY := Lib.hid (HCY.out k)
          have hN' := Lib.hid (HCN.out k)
          generalize closed a1 r1 (k : Int) = cb at HKk hY hN'
          go_wp2_with fail
          refine (HF.out _).mono ?_
          rintro e w' ⟨rfl, hw⟩
          subst w'
          go_wp2_with fail
          refine (HX1.out p).mono ?_
          rintro e _ ⟨rfl, p2, rfl⟩
          have ku0 := k15_0 p2
          have ku1 := k15_1 p2
          cases cb with
          | false =>
            go_wp2_with fail
            refine (HKk.out p2).mono ?_
            rintro e _ ⟨rfl, p3, rfl⟩
            go_wp2_with fail
            go_roundw
            case rel => exact ⟨k + 1, c, by omega, by simp, rfl, Lib.hid (by rw [hN'.out (by simp), ← hc.out]), p3, rfl⟩
            case measure => simp [intOf]; omega
          | true =>
            go_wp2_with fail
            refine (HKk.out p2).mono ?_
            rintro e _ ⟨rfl, p3, rfl⟩
            go_wp2_with fail
            go_roundw
            case rel => exact ⟨k + 1, c + 1, by omega, by simp, by simp, Lib.hid (by rw [hY.out (by simp), ← hc.out]), p3, rfl⟩
            case measure => simp [intOf]; omega
        · have hkN : k = N := by omega
          have hcL : c = L.length := by rw [hc.out, hkN, HE.out]
          have d0 : decide ((k : Int) ≤ (N : Int) - 1) = false := decide_eq_false (by omega)
          subst hcL
          clear hc HE HCY HCN HLE HK hkN HZ
          go_wp2_with fail
          refine (HF.out _).mono ?_
          rintro e w' ⟨rfl, hw⟩
          subst w'
          have HIC : Hid (∀ j, j < L.length → isConcept a1 r1 (L.getD j (0, 0)) = true) := Lib.hid fun j hj => by rw [← EL.out] at hj ⊢; exact isConcept_at hj
          have HBF : Hid (∀ j, j + 1 < L.length → before (L.getD j (0, 0)).2 (L.getD (j + 1) (0, 0)).2 = true) := Lib.hid fun j hj => by rw [← EL.out] at hj ⊢; exact before_at hj
          have HIK := Lib.hid fun (p : Past W15) (x y : Int) => p.of (impl_isConcept a1 _ r1 x y g1 p.w (Past.reads R15_1.out hR15_1 p) (Past.len hR15_1 p))
          go_wp2_with fail
          go_loopw [32] (fun i wx => ∃ k : Nat, k ≤ L.length ∧ i = .int .i64 k ∧ ∃ p : Past W15, wx = p.w) (fun i _ => L.length - (intOf i).toNat)
          case atStart => exact ⟨0, Nat.zero_le _, rfl, p, rfl⟩
          case round =>
            obtain ⟨j, hj, rfl, p2, rfl⟩ := hrel
            by_cases hlj : j < L.length
            · have hne : L ≠ [] := fun e => by rw [e] at hlj; simp at hlj
              obtain ⟨-, a', c', hform, hcells⟩ := R15_2.out
              obtain ⟨ee, -, -⟩ := Value.slice.inj hform
              subst ee
              clear hform
              obtain ⟨bu, ou, rfl, hbu, hcu⟩ := hcells hne
              obtain ⟨cx, cy⟩ := hcu j hlj
              have hI := HIC.out j hlj
              have hB := HBF.out (j - 1)
              have hbu' := Nat.lt_of_lt_of_le hbu hR15_2
              clear hcells hne
              have HIj := Lib.hid fun p => HIK.out p (L.getD j (0, 0)).1 (L.getD j (0, 0)).2
              rw [show ((L.getD j (0, 0)).1, (L.getD j (0, 0)).2) = L.getD j (0, 0) from rfl, hI] at HIj
              rcases Nat.eq_zero_or_pos j with hj0 | hj0
              · have dj : decide ((0 : Int) < (j : Int)) = false := by simp [hj0]
                have dj2 : ¬ 0 < j := by omega
                clear hB hcu hj0
                generalize (L.getD j (0, 0)).1 = xj at cx HIj
                generalize (L.getD j (0, 0)).2 = yj at cy HIj
                have kx := fun q : Past W15 => Past.cell (W := W15) cx (by show bu < _; omega) q
                have ky := fun q : Past W15 => Past.cell (W := W15) cy (by show bu < _; omega) q
                go_wp2_with fail
                refine wp_region_pastIn p2 (by kernel_rfl) (by kernel_rfl) ?_
                repeat (go_big_quiet_step (first | with_reducible exact HIj.out _))
                refine wpQuiet_nil ?_
                rintro _ ⟨p3, rfl⟩
                go_wp2_with fail
                go_roundw
                case rel => exact ⟨j + 1, by omega, by simp, p3, rfl⟩
                case measure => simp [intOf]; omega
              · obtain ⟨j, rfl⟩ : ∃ i, j = i + 1 := ⟨j - 1, by omega⟩
                obtain ⟨-, cz⟩ := hcu j (by omega)
                have hB := HBF.out j hlj
                clear hcu
                have HBj := Lib.hid fun q : Past W15 => Past.ofSame q (spec_before (L.getD j (0, 0)).2 (L.getD (j + 1) (0, 0)).2 q.w)
                rw [hB] at HBj
                clear hB
                generalize (L.getD (j + 1) (0, 0)).1 = xj at cx HIj
                generalize (L.getD (j + 1) (0, 0)).2 = yj at cy HIj HBj
                generalize (L.getD j (0, 0)).2 = zj at cz HBj
                have kx := fun q : Past W15 => Past.cell (W := W15) cx (by show bu < _; omega) q
                have ky := fun q : Past W15 => Past.cell (W := W15) cy (by show bu < _; omega) q
                have kz := fun q : Past W15 => Past.cell (W := W15) cz (by show bu < _; omega) q
                go_wp2_with fail
                refine wp_region_pastIn p2 (by kernel_rfl) (by kernel_rfl) ?_
                repeat (go_big_quiet_step (first | with_reducible exact HIj.out _ | with_reducible exact HBj.out _))
                refine wpQuiet_nil ?_
                rintro _ ⟨p3, rfl⟩
                go_wp2_with fail
                go_roundw
                case rel => exact ⟨j + 1 + 1, by omega, by simp, p3, rfl⟩
                case measure => simp [intOf]; omega
            · have hqL : ((L.length : Int) == (L.length : Int)) = true := by simp
              cases k5 with
              | false =>
                have hbb := p2.below Bw15.out
                go_wp2_with fail
                go_ret
                exact ⟨rfl, hbb⟩
              | true =>
                obtain ⟨hg1, hg2⟩ := EG.out rfl
                rw [hg1] at HB4
                rw [hg2] at HC4
                clear hg1 hg2
                have kv6 := k15_6 p2
                have kv7 := k15_7 p2
                go_wp2_with fail
                refine (HB4.out p2).mono ?_
                rintro e w' ⟨rfl, hw⟩
                subst w'
                go_wp2_with fail
                refine (HC4.out p2).mono ?_
                rintro e _ ⟨rfl, u1, rfl⟩
                have hbb := u1.below Bw15.out
                go_wp2_with fail
                go_ret
                exact ⟨rfl, hbb⟩
    · rw [hic] at HX1
      have hl0 : L.length = 0 := by rw [← EL.out, concepts_none hic]; rfl
      have dl : decide ((0 : Int) < (L.length : Int)) = false := by simp [hl0]
      have ql : ((0 : Int) == (L.length : Int)) = true := by simp [hl0]
      have dl2 : ¬ 0 < L.length := by omega
      have df : decide ((0 : Int) ≤ full a1) = true := decide_eq_true (full_bounds a1).1
      clear hic EL hl0 hl64
      have kv0 := k15_0 m6
      have kv1 := k15_1 m6
      go_wp2_with fail
      refine wp_loop_rounds 1 ?_
      rw [rounds_succ]
      go_wp2_with fail
      refine (spec_full a1 _).mono ?_
      rintro e w' ⟨rfl, hw⟩
      subst w'
      go_wp2_with fail
      refine (HX1.out m6).mono ?_
      rintro e _ ⟨rfl, m7, rfl⟩
      go_wp2_with fail
      refine wp_loop_rounds 1 ?_
      rw [rounds_succ]
      cases k5 with
      | false =>
        have hbb := m7.below Bw15.out
        go_wp2_with fail
        go_ret
        exact ⟨rfl, hbb⟩
      | true =>
        obtain ⟨hg1, hg2⟩ := EG.out rfl
        rw [hg1] at HB4
        rw [hg2] at HC4
        clear hg1 hg2
        have kv6 := k15_6 m7
        have kv7 := k15_7 m7
        go_wp2_with fail
        refine (HB4.out m7).mono ?_
        rintro e w' ⟨rfl, hw⟩
        subst w'
        go_wp2_with fail
        refine (HC4.out m7).mono ?_
        rintro e _ ⟨rfl, u1, rfl⟩
        have hbb := u1.below Bw15.out
        go_wp2_with fail
        go_ret
        exact ⟨rfl, hbb⟩
end Go.Proofs.Ytdkgmjbhkifcbaa.LConc
