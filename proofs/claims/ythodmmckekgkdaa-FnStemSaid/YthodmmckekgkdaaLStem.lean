/-
  The law of the stem base: walk.
-/
import Derived.Test.YthodmmckekgkdaaDrawU
import Derived.Test.YthodmmckekgkdaaMrg3
import Derived.Test.YthodmmckekgkdaaStemI
import Derived.Test.YthodmmckekgkdaaSameR
import Derived.Test.YthodmmckekgkdaaMrg2
import Derived.Test.YthodmmckekgkdaaLBig
import Derived.Test.YthodmmckekgkdaaCutOne
import Derived.Deep.RegionHeld3
import Derived.Deep.DeepCutAuto
namespace Go.Proofs.Ythodmmckekgkdaa.LStem
open Go Go.RowKit Mem Sets Ctx Draw Tab Rule Stem
set_option maxRecDepth 100000

theorem stem_ctx {a : Int} {rs : List Int} (hc : isCtx a rs = true) : stemBase a rs = stemOf a rs ∧ pseudoIntents a rs = pseudo a rs := ⟨by rw [stemBase, if_pos hc], by rw [pseudoIntents, if_pos hc]⟩
theorem stem_noctx {a : Int} {rs : List Int} (hc : isCtx a rs = false) : stemBase a rs = [] := by rw [stemBase, if_neg (by rw [hc]; decide)]
theorem base_le {a : Int} {rs : List Int} {l : List PInt} (h : isBase a rs l = true) : (stemBase a rs).length ≤ l.length := by
  have h1 := stem_short h
  have hc : isCtx a rs = true := by
    cases hc : isCtx a rs with
    | true => rfl
    | false => rw [isBase, hc] at h; cases h
  rwa [(stem_ctx hc).1]
theorem stem_closed {a : Int} {rs : List Int} (hc : isCtx a rs = true) {k : Nat} (hk : k < 2 ^ a.toNat) : closedBy (stemBase a rs) (k : Int) = ((clo a rs k : Nat) : Int) := by
  have h6 := isCtx_parts hc
  have h8 := pow_le8 (n := a.toNat) (by omega)
  rw [(stem_ctx hc).1, closedBy, if_pos ⟨stemOf_8 hc, isSet8_true (by omega)⟩, Int.toNat_natCast, stemOf_cl hc hk]
theorem closure_at {a : Int} {rs : List Int} (hc : isCtx a rs = true) {k : Nat} (hk : k < 2 ^ a.toNat) : closure a rs (k : Int) = ((clo a rs k : Nat) : Int) := by
  have h6 := isCtx_parts hc
  rw [closure, if_pos ⟨hc, isSet_of_nat h6.1 (by omega) hk⟩]; rfl
theorem follows_not {a : Int} {rs : List Int} (hc : isCtx a rs = true) {k : Nat} (hk : k < (stemBase a rs).length) : follows ((stemBase a rs).take k ++ (stemBase a rs).drop (k + 1)) (rl (stemBase a rs) k) = false := by
  rw [(stem_ctx hc).1] at hk ⊢
  have := stem_needs hc hk
  unfold follow1 at this
  rw [follows, this, Bool.and_false]
theorem stem_first {a : Int} {rs : List Int} (hc : isCtx a rs = true) {k : Nat} (hk : k < (stemBase a rs).length) : (rl (stemBase a rs) k).1 = (pseudoIntents a rs).getD k 0 := by
  rw [(stem_ctx hc).1] at hk ⊢
  rw [(stem_ctx hc).2]
  rw [stemOf_len] at hk
  obtain ⟨x, -, -, h1, h2, -⟩ := stem_get hc hk
  rw [h2, h1]
theorem cut_done {W w3 w4 : World} {e : TypeId} {g1 g2 c1 c2 k : Nat} {l : List PInt} {ob : Obj} {m1 m2 : Nat} (p : Past W)
    (o3 : w3.ownsRow p.w.heap.size e 2 (.slice (some ⟨g1, 0, none⟩) m1 c1) m1 ([] ++ prs (l.take k))) (o4 : w4.ownsRow p.w.heap.size e 2 (.slice (some ⟨g2, 0, none⟩) m2 c2) m2 ([] ++ prs (l.take k) ++ prs (l.drop (k + 1))))
    (gr3 : (p.w.alloc ob).drew.grownBy w3 (some p.w.heap.size)) (gr4 : w3.grownBy w4 (some g1)) (_hk : k < l.length) :
    ∃ q : Past W, q.w = w4 ∧ ReadsP q.w q.w.heap.size (.slice (some ⟨g2, 0, none⟩) m2 c2) (l.take k ++ l.drop (k + 1)) := by
  have hz := p.size
  have h3 := (p.alloc ob).drew.h.grown gr3 (by show W.heap.size ≤ (p.w.alloc ob).heap.size; simp; omega) (fun q hq => by cases hq; exact hz)
  have h4 := h3.grown gr4 (by have := gr3.size; change (p.w.alloc ob).heap.size ≤ _ at this; simp at this; omega) (fun q hq => by cases hq; exact Nat.le_trans hz (o3.lt g1 rfl).1)
  refine ⟨⟨w4, h4⟩, rfl, ?_⟩
  have ho : w4.ownsRow p.w.heap.size e 2 (.slice (some ⟨g2, 0, none⟩) m2 c2) m2 (prs (l.take k ++ l.drop (k + 1))) := by rw [prs_app]; simpa using o4
  exact (OwnP.made ho).reads
theorem capP {e : TypeId} {w : World} {lo hi n c : Nat} {a : Option Addr} {l : List PInt} (h : OwnP e w lo hi (.slice a n c) l) : n ≤ c := by
  rcases h.1.2 with ⟨hv, _⟩ | ⟨g, cap, cur, hv, _, _, hn, _⟩
  · injection hv with e1 e2 e3; omega
  · injection hv with e1 e2 e3; omega
set_option maxHeartbeats 16000000 in
theorem walk (v : Value) (xs : List Int) (w : World) (hr : Reads w w.heap.size v (u8s xs)) (hx : ∀ j, j < xs.length → 0 ≤ xs.getD j 0 ∧ xs.getD j 0 ≤ 255) :
    Calls Try.prog 3 #[v] w fun e w' => e = .returned (.bool true) ∧ Below w.heap.size w w' := by
  obtain ⟨i0, hinf, hz0, hz1, hz2⟩ := info_parts PRule.infoT
  have e0 : (u8s xs).length = xs.length := by simp [u8s]
  have HB := Lib.hid (LBig.isBig v (u8s xs) _ w hr)
  by_cases hlen : 1048576 < xs.length
  · have hd : decide (1048576 < (u8s xs).length) = true := by rw [e0]; simp; omega
    clear hr hx
    go_enter Try.func3, Try.ntmps3
    go_wp2_with fail
    refine HB.out.mono ?_
    rintro e w' ⟨rfl, hw⟩
    subst w'
    go_wp2_with fail
    go_ret
    exact ⟨rfl, Below.refl _ _⟩
  · have hd : decide (1048576 < (u8s xs).length) = false := by rw [e0]; simp; omega
    have HX := Lib.hid hx
    have R0_0 := Lib.hid hr
    have hR0_0 : w.heap.size ≤ w.heap.size := Nat.le_refl _
    have Bw0 := Lib.hid (Below.refl w.heap.size w)
    clear hr hx e0
    go_enter Try.func3, Try.ntmps3
    go_wp2_with fail
    refine HB.out.mono ?_
    rintro e w' ⟨rfl, hw⟩
    subst w'
    clear HB hd
    go_wp2_with fail
    refine (DrawStemBase v xs w.heap.size (Past.start w).w (R0_0.out.below (Past.h (Past.start w)) hR0_0) (Past.len hR0_0 (Past.start w)) HX.out (by omega)).mono ?_
    rintro e w1 ⟨a1, u1, r1, rfl, hn1, o1, b1⟩
    obtain ⟨p1, q1, rfl⟩ := own_form o1
    go_upto_region 4 with fail
    have hA1 : Below w1.heap.size w1 (w1.alloc (.cells #[.int .i64 a1, .slice p1 r1.length q1] 26)) := (Below.refl w1.heap.size w1).alloc (Nat.le_refl _) (.cells #[.int .i64 a1, .slice p1 r1.length q1] 26)
    have hs1 : w1.heap.size < (w1.alloc (.cells #[.int .i64 a1, .slice p1 r1.length q1] 26)).heap.size := by simp
    have G1 := BoxAt.new w1 26 #[.int .i64 a1, .slice p1 r1.length q1]
    have bb1 := (Past.start w).h.trans ((b1.trans (hA1.mono b1.size)).mono (Past.start w).h.size)
    have sz1 := bb1.size
    have R1_0 := Lib.hid (R0_0.out.below bb1 hR0_0)
    have hR1_0 : w.heap.size ≤ (w1.alloc (.cells #[.int .i64 a1, .slice p1 r1.length q1] 26)).heap.size := Nat.le_trans hR0_0 sz1
    have Bw1 := Lib.hid (Bw0.out.trans (bb1.mono Bw0.out.size))
    have c1_0 : (w1.alloc (.cells #[.int .i64 a1, .slice p1 r1.length q1] 26)).cell? ⟨w1.heap.size, 0, none⟩ = some (.int .i64 a1) := G1.cell 0
    have hc1_0 : w1.heap.size < (w1.alloc (.cells #[.int .i64 a1, .slice p1 r1.length q1] 26)).heap.size := hs1
    have c1_1 : (w1.alloc (.cells #[.int .i64 a1, .slice p1 r1.length q1] 26)).cell? ⟨w1.heap.size, 1, none⟩ = some (.slice p1 r1.length q1) := G1.cell 1
    have hc1_1 : w1.heap.size < (w1.alloc (.cells #[.int .i64 a1, .slice p1 r1.length q1] 26)).heap.size := hs1
    have R1_1 := Lib.hid (o1.reads.below hA1 (Nat.le_refl _))
    have hR1_1 : w1.heap.size ≤ (w1.alloc (.cells #[.int .i64 a1, .slice p1 r1.length q1] 26)).heap.size := Nat.le_of_lt hs1
    generalize w1.alloc (.cells #[.int .i64 a1, .slice p1 r1.length q1] 26) = W1 at bb1 sz1 R1_0 hR1_0 Bw1 c1_0 hc1_0 c1_1 hc1_1 R1_1 hR1_1 ⊢
    clear bb1 sz1
    clear R0_0 hR0_0 Bw0 G1 b1 hA1 hs1 o1
    generalize w1.heap.size = g1 at *
    have k1_0 := fun p : Past W1 => Past.cell (W := W1) c1_0 hc1_0 p
    have k1_1 := fun p : Past W1 => Past.cell (W := W1) c1_1 hc1_1 p
    have hSl := stemBase_len a1 r1
    have hPl := pseudoIntents_len a1 r1
    obtain ⟨SB, hSB⟩ : ∃ x, stemBase a1 r1 = x := ⟨_, rfl⟩
    have ES := Lib.hid hSB
    clear hSB
    obtain ⟨PI, hPI⟩ : ∃ x, pseudoIntents a1 r1 = x := ⟨_, rfl⟩
    have EP := Lib.hid hPI
    clear hPI
    rw [ES.out] at hSl
    rw [EP.out] at hPl
    have H := impl_stem a1 _ r1 g1 (Past.start W1).w (R1_1.out.below (Past.h (Past.start W1)) hR1_1) (Past.len hR1_1 (Past.start W1))
    rw [ES.out] at H
    have HH := Lib.hid H
    clear H
    go_wp2_with fail
    refine HH.out.mono ?_
    rintro e w2 ⟨u2, rfl, o2, b2⟩
    clear HH
    obtain ⟨p2, q2, rfl⟩ := o2.form
    have hcapS := capP o2
    go_upto_region 5 with fail
    have bb2 := (Past.start W1).h.trans (b2.mono (Past.start W1).h.size)
    have sz2 := bb2.size
    have c2_0 : (w2).cell? ⟨g1, 0, none⟩ = some (.int .i64 a1) := (bb2.cell (p := ⟨g1, 0, none⟩) hc1_0).trans c1_0
    have hc2_0 : g1 < (w2).heap.size := Nat.lt_of_lt_of_le hc1_0 sz2
    have c2_1 : (w2).cell? ⟨g1, 1, none⟩ = some (.slice p1 r1.length q1) := (bb2.cell (p := ⟨g1, 1, none⟩) hc1_1).trans c1_1
    have hc2_1 : g1 < (w2).heap.size := Nat.lt_of_lt_of_le hc1_1 sz2
    have R2_0 := Lib.hid (R1_0.out.below bb2 hR1_0)
    have hR2_0 : w.heap.size ≤ (w2).heap.size := Nat.le_trans hR1_0 sz2
    have R2_1 := Lib.hid (R1_1.out.below bb2 hR1_1)
    have hR2_1 : g1 ≤ (w2).heap.size := Nat.le_trans hR1_1 sz2
    have Bw2 := Lib.hid (Bw1.out.trans (bb2.mono Bw1.out.size))
    have R2_2 := Lib.hid (o2.reads)
    have hR2_2 : w2.heap.size ≤ (w2).heap.size := Nat.le_refl _
    clear bb2 sz2
    clear c1_0 c1_1 hc1_0 hc1_1 R1_0 R1_1 hR1_0 hR1_1 k1_0 k1_1 Bw1 b2 o2
    have k2_0 := fun p : Past w2 => Past.cell (W := w2) c2_0 hc2_0 p
    have k2_1 := fun p : Past w2 => Past.cell (W := w2) c2_1 hc2_1 p
    have H := impl_pseudo a1 _ r1 g1 (Past.start w2).w (R2_1.out.below (Past.h (Past.start w2)) hR2_1) (Past.len hR2_1 (Past.start w2))
    rw [EP.out] at H
    have HH := Lib.hid H
    clear H
    go_wp2_with fail
    refine HH.out.mono ?_
    rintro e w3 ⟨u3, rfl, o3, b3⟩
    clear HH
    obtain ⟨p3, q3, rfl⟩ := own_form o3
    go_upto_region 6 with fail
    have bb3 := (Past.start w2).h.trans (b3.mono (Past.start w2).h.size)
    have sz3 := bb3.size
    have c3_0 : (w3).cell? ⟨g1, 0, none⟩ = some (.int .i64 a1) := (bb3.cell (p := ⟨g1, 0, none⟩) hc2_0).trans c2_0
    have hc3_0 : g1 < (w3).heap.size := Nat.lt_of_lt_of_le hc2_0 sz3
    have c3_1 : (w3).cell? ⟨g1, 1, none⟩ = some (.slice p1 r1.length q1) := (bb3.cell (p := ⟨g1, 1, none⟩) hc2_1).trans c2_1
    have hc3_1 : g1 < (w3).heap.size := Nat.lt_of_lt_of_le hc2_1 sz3
    have R3_0 := Lib.hid (R2_0.out.below bb3 hR2_0)
    have hR3_0 : w.heap.size ≤ (w3).heap.size := Nat.le_trans hR2_0 sz3
    have R3_1 := Lib.hid (R2_1.out.below bb3 hR2_1)
    have hR3_1 : g1 ≤ (w3).heap.size := Nat.le_trans hR2_1 sz3
    have R3_2 := Lib.hid (R2_2.out.below bb3 hR2_2)
    have hR3_2 : w2.heap.size ≤ (w3).heap.size := Nat.le_trans hR2_2 sz3
    have Bw3 := Lib.hid (Bw2.out.trans (bb3.mono Bw2.out.size))
    have R3_3 := Lib.hid (o3.reads)
    have hR3_3 : w3.heap.size ≤ (w3).heap.size := Nat.le_refl _
    clear bb3 sz3
    clear c2_0 c2_1 hc2_0 hc2_1 R2_0 R2_1 R2_2 hR2_0 hR2_1 hR2_2 k2_0 k2_1 Bw2 b3 o3
    have k3_0 := fun p : Past w3 => Past.cell (W := w3) c3_0 hc3_0 p
    have k3_1 := fun p : Past w3 => Past.cell (W := w3) c3_1 hc3_1 p
    go_wp2_with fail
    refine (DrawIsBase v xs w.heap.size (Past.start w3).w (R3_0.out.below (Past.h (Past.start w3)) hR3_0) (Past.len hR3_0 (Past.start w3)) HX.out (by omega)).mono ?_
    rintro e w4 ⟨a4, u4, r4, x4, l4, rfl, hn4, hm4, o4, ol4, b4⟩
    obtain ⟨p4, q4, rfl⟩ := own_form o4
    obtain ⟨pl4, ql4, rfl⟩ := ol4.form
    go_upto_region 7 with fail
    have hA4 : Below w4.heap.size w4 (w4.alloc (.cells #[.int .i64 a4, .slice p4 r4.length q4] 26)) := (Below.refl w4.heap.size w4).alloc (Nat.le_refl _) (.cells #[.int .i64 a4, .slice p4 r4.length q4] 26)
    have hs4 : w4.heap.size < (w4.alloc (.cells #[.int .i64 a4, .slice p4 r4.length q4] 26)).heap.size := by simp
    have G4 := BoxAt.new w4 26 #[.int .i64 a4, .slice p4 r4.length q4]
    have bb4 := (Past.start w3).h.trans ((b4.trans (hA4.mono b4.size)).mono (Past.start w3).h.size)
    have sz4 := bb4.size
    have c4_0 : (w4.alloc (.cells #[.int .i64 a4, .slice p4 r4.length q4] 26)).cell? ⟨g1, 0, none⟩ = some (.int .i64 a1) := (bb4.cell (p := ⟨g1, 0, none⟩) hc3_0).trans c3_0
    have hc4_0 : g1 < (w4.alloc (.cells #[.int .i64 a4, .slice p4 r4.length q4] 26)).heap.size := Nat.lt_of_lt_of_le hc3_0 sz4
    have c4_1 : (w4.alloc (.cells #[.int .i64 a4, .slice p4 r4.length q4] 26)).cell? ⟨g1, 1, none⟩ = some (.slice p1 r1.length q1) := (bb4.cell (p := ⟨g1, 1, none⟩) hc3_1).trans c3_1
    have hc4_1 : g1 < (w4.alloc (.cells #[.int .i64 a4, .slice p4 r4.length q4] 26)).heap.size := Nat.lt_of_lt_of_le hc3_1 sz4
    have R4_0 := Lib.hid (R3_0.out.below bb4 hR3_0)
    have hR4_0 : w.heap.size ≤ (w4.alloc (.cells #[.int .i64 a4, .slice p4 r4.length q4] 26)).heap.size := Nat.le_trans hR3_0 sz4
    have R4_1 := Lib.hid (R3_1.out.below bb4 hR3_1)
    have hR4_1 : g1 ≤ (w4.alloc (.cells #[.int .i64 a4, .slice p4 r4.length q4] 26)).heap.size := Nat.le_trans hR3_1 sz4
    have R4_2 := Lib.hid (R3_2.out.below bb4 hR3_2)
    have hR4_2 : w2.heap.size ≤ (w4.alloc (.cells #[.int .i64 a4, .slice p4 r4.length q4] 26)).heap.size := Nat.le_trans hR3_2 sz4
    have R4_3 := Lib.hid (R3_3.out.below bb4 hR3_3)
    have hR4_3 : w3.heap.size ≤ (w4.alloc (.cells #[.int .i64 a4, .slice p4 r4.length q4] 26)).heap.size := Nat.le_trans hR3_3 sz4
    have Bw4 := Lib.hid (Bw3.out.trans (bb4.mono Bw3.out.size))
    have c4_2 : (w4.alloc (.cells #[.int .i64 a4, .slice p4 r4.length q4] 26)).cell? ⟨w4.heap.size, 0, none⟩ = some (.int .i64 a4) := G4.cell 0
    have hc4_2 : w4.heap.size < (w4.alloc (.cells #[.int .i64 a4, .slice p4 r4.length q4] 26)).heap.size := hs4
    have c4_3 : (w4.alloc (.cells #[.int .i64 a4, .slice p4 r4.length q4] 26)).cell? ⟨w4.heap.size, 1, none⟩ = some (.slice p4 r4.length q4) := G4.cell 1
    have hc4_3 : w4.heap.size < (w4.alloc (.cells #[.int .i64 a4, .slice p4 r4.length q4] 26)).heap.size := hs4
    have R4_4 := Lib.hid (o4.reads.below hA4 (Nat.le_refl _))
    have hR4_4 : w4.heap.size ≤ (w4.alloc (.cells #[.int .i64 a4, .slice p4 r4.length q4] 26)).heap.size := Nat.le_of_lt hs4
    have R4_5 := Lib.hid (ol4.reads.below hA4 (Nat.le_refl _))
    have hR4_5 : w4.heap.size ≤ (w4.alloc (.cells #[.int .i64 a4, .slice p4 r4.length q4] 26)).heap.size := Nat.le_of_lt hs4
    generalize w4.alloc (.cells #[.int .i64 a4, .slice p4 r4.length q4] 26) = W4 at bb4 sz4 c4_0 hc4_0 c4_1 hc4_1 R4_0 hR4_0 R4_1 hR4_1 R4_2 hR4_2 R4_3 hR4_3 Bw4 c4_2 hc4_2 c4_3 hc4_3 R4_4 hR4_4 R4_5 hR4_5 ⊢
    clear bb4 sz4
    clear c3_0 c3_1 hc3_0 hc3_1 R3_0 R3_1 R3_2 R3_3 hR3_0 hR3_1 hR3_2 hR3_3 k3_0 k3_1 Bw3 G4 b4 hA4 hs4 o4 ol4
    generalize w4.heap.size = g4 at *
    have k4_0 := fun p : Past W4 => Past.cell (W := W4) c4_0 hc4_0 p
    have k4_1 := fun p : Past W4 => Past.cell (W := W4) c4_1 hc4_1 p
    have k4_2 := fun p : Past W4 => Past.cell (W := W4) c4_2 hc4_2 p
    have k4_3 := fun p : Past W4 => Past.cell (W := W4) c4_3 hc4_3 p
    obtain ⟨vb, hvb⟩ : ∃ x, isBase a4 r4 l4 = x := ⟨_, rfl⟩
    have EB := Lib.hid hvb
    clear hvb
    have H5 := Lib.hid fun p : Past W4 => p.of (impl_isBase a4 _ _ r4 l4 (max g4 g4) p.w ((R4_4.out.below (Past.h p) hR4_4).mono (Nat.le_max_left g4 g4)) ((R4_5.out.below (Past.h p) hR4_5).mono (Nat.le_max_right g4 g4)) (Nat.max_le.2 ⟨(Past.len hR4_4 p), (Past.len hR4_5 p)⟩))
    rw [EB.out] at H5
    go_wp2_with fail
    refine (H5.out (Past.start W4)).mono ?_
    rintro e _ ⟨rfl, z5, rfl⟩
    clear H5
    as_aux_lemma =>
      go_upto_region 8 with fail
      go_cut [73] (fun s73 wx => s73 = .bool false ∧ ∃ p : Past W4, wx = p.w)
      case first =>
        as_aux_lemma =>
          obtain ⟨vs, hvs⟩ : ∃ x, isShortest a4 r4 l4 = x := ⟨_, rfl⟩
          have EV := Lib.hid hvs
          clear hvs
          obtain ⟨vc, hvc⟩ : ∃ x, countRules a1 r1 = x := ⟨_, rfl⟩
          have EC := Lib.hid hvc
          clear hvc
          have hS4 := stemBase_len a4 r4
          have hBL := Lib.hid fun h => base_le (a := a4) (rs := r4) (l := l4) h
          obtain ⟨S4, hS4⟩ : ∃ x, stemBase a4 r4 = x := ⟨_, rfl⟩
          have ES4 := Lib.hid hS4
          clear hS4
          rw [ES4.out] at hS4 hBL
          rw [EB.out] at hBL
          have C1 := Lib.hid fun p : Past W4 => p.ofPairs (spec_stem a1 _ r1 g1 p.w (R4_1.out.below (Past.h p) hR4_1) (Past.len hR4_1 p))
          rw [ES.out] at C1
          have C2 := Lib.hid fun p : Past W4 => p.ofInts (spec_pseudo a1 _ r1 g1 p.w (R4_1.out.below (Past.h p) hR4_1) (Past.len hR4_1 p))
          rw [EP.out] at C2
          have C3 := Lib.hid fun p : Past W4 => p.of (spec_isBase a4 _ _ r4 l4 (max g4 g4) p.w ((R4_4.out.below (Past.h p) hR4_4).mono (Nat.le_max_left g4 g4)) ((R4_5.out.below (Past.h p) hR4_5).mono (Nat.le_max_right g4 g4)) (Nat.max_le.2 ⟨(Past.len hR4_4 p), (Past.len hR4_5 p)⟩))
          rw [EB.out] at C3
          have C4 := Lib.hid fun p : Past W4 => p.of (impl_short a4 _ _ r4 l4 (max g4 g4) p.w ((R4_4.out.below (Past.h p) hR4_4).mono (Nat.le_max_left g4 g4)) ((R4_5.out.below (Past.h p) hR4_5).mono (Nat.le_max_right g4 g4)) (Nat.max_le.2 ⟨(Past.len hR4_4 p), (Past.len hR4_5 p)⟩))
          rw [EV.out] at C4
          have C5 := Lib.hid fun p : Past W4 => p.of (spec_short a4 _ _ r4 l4 (max g4 g4) p.w ((R4_4.out.below (Past.h p) hR4_4).mono (Nat.le_max_left g4 g4)) ((R4_5.out.below (Past.h p) hR4_5).mono (Nat.le_max_right g4 g4)) (Nat.max_le.2 ⟨(Past.len hR4_4 p), (Past.len hR4_5 p)⟩))
          rw [EV.out] at C5
          have C6 := Lib.hid fun p : Past W4 => p.of (impl_countR a1 _ r1 g1 p.w (R4_1.out.below (Past.h p) hR4_1) (Past.len hR4_1 p))
          rw [EC.out] at C6
          have C7 := Lib.hid fun p : Past W4 => p.of (spec_countR a1 _ r1 g1 p.w (R4_1.out.below (Past.h p) hR4_1) (Past.len hR4_1 p))
          rw [EC.out] at C7
          have C8 := Lib.hid fun p : Past W4 => p.ofPairs (impl_stem a4 _ r4 g4 p.w (R4_4.out.below (Past.h p) hR4_4) (Past.len hR4_4 p))
          rw [ES4.out] at C8
          have hqvb : (vb != vb) = false := by simp
          have hqvs : (vs != vs) = false := by simp
          have hqvc : (vc != vc) = false := by simp
          cases vb with
          | true =>
            have hlt : decide ((l4.length : Int) < (S4.length : Int)) = false := by have := hBL.out rfl; simp; omega
            have hlt2 : decide (l4.length < S4.length) = false := by have := hBL.out rfl; simp; omega
            go_region_held3 (fun wx => wx.cell? ⟨g1, 0, none⟩ = some (.int .i64 a1) ∧ wx.cell? ⟨g1, 1, none⟩ = some (.slice p1 r1.length q1) ∧ wx.cell? ⟨g4, 0, none⟩ = some (.int .i64 a4) ∧ wx.cell? ⟨g4, 1, none⟩ = some (.slice p4 r4.length q4))
              (first | with_reducible exact ⟨k4_0 (z5.drew), k4_1 (z5.drew), k4_2 (z5.drew), k4_3 (z5.drew)⟩ | with_reducible exact ⟨k4_0 s1, k4_1 s1, k4_2 s1, k4_3 s1⟩ | with_reducible exact ⟨k4_0 s2, k4_1 s2, k4_2 s2, k4_3 s2⟩ | with_reducible exact ⟨k4_0 s3, k4_1 s3, k4_2 s3, k4_3 s3⟩ | with_reducible exact ⟨k4_0 s4, k4_1 s4, k4_2 s4, k4_3 s4⟩ | with_reducible exact ⟨k4_0 s5, k4_1 s5, k4_2 s5, k4_3 s5⟩ | with_reducible exact ⟨k4_0 s6, k4_1 s6, k4_2 s6, k4_3 s6⟩ | with_reducible exact ⟨k4_0 s7, k4_1 s7, k4_2 s7, k4_3 s7⟩ | with_reducible exact ⟨k4_0 s8, k4_1 s8, k4_2 s8, k4_3 s8⟩ | with_reducible exact ⟨k4_0 s9, k4_1 s9, k4_2 s9, k4_3 s9⟩ | with_reducible exact ⟨k4_0 s10, k4_1 s10, k4_2 s10, k4_3 s10⟩ | fail)
              (first | (go_at_call 17; with_reducible refine (C1.out (z5.drew)).mono ?_; rintro e _ ⟨pq1, qq1, rfl, s1, rfl, hr1⟩) | (go_at_call 16; with_reducible refine (s1.of (sameR _ _ SB w2.heap.size s1.w.heap.size s1.w (R4_2.out.below (Past.h s1) hR4_2) hr1 (Past.len hR4_2 s1) (Nat.le_refl _) (by omega))).mono ?_; rintro e _ ⟨rfl, s2, rfl⟩) | (go_at_call 19; with_reducible refine (C2.out s2).mono ?_; rintro e _ ⟨pq3, qq3, rfl, s3, rfl, hr3⟩) | (go_at_call 18; with_reducible refine (s3.of (same_ _ _ PI w3.heap.size s3.w.heap.size s3.w (R4_3.out.below (Past.h s3) hR4_3) hr3 (Past.len hR4_3 s3) (Nat.le_refl _) (by omega))).mono ?_; rintro e _ ⟨rfl, s4, rfl⟩) | (go_at_call 20; with_reducible refine (C3.out s4).mono ?_; rintro e _ ⟨rfl, s5, rfl⟩) | (go_at_call 21; with_reducible refine (C4.out s5).mono ?_; rintro e _ ⟨rfl, s6, rfl⟩) | (go_at_call 22; with_reducible refine (C5.out s6).mono ?_; rintro e _ ⟨rfl, s7, rfl⟩) | (go_at_call 23; with_reducible refine (C6.out s7).mono ?_; rintro e _ ⟨rfl, s8, rfl⟩) | (go_at_call 24; with_reducible refine (C7.out s8).mono ?_; rintro e _ ⟨rfl, s9, rfl⟩) | (go_at_call 12; with_reducible refine (C8.out s9).mono ?_; rintro e _ ⟨pq10, qq10, rfl, s10, rfl, hr10⟩) | fail)
            go_wp2_with fail
            go_meet
            exact ⟨rfl, s10, rfl⟩
          | false =>
            refine wp_region_held_drew (S := fun wx => wx.cell? ⟨g1, 0, none⟩ = some (.int .i64 a1) ∧ wx.cell? ⟨g1, 1, none⟩ = some (.slice p1 r1.length q1) ∧ wx.cell? ⟨g4, 0, none⟩ = some (.int .i64 a4) ∧ wx.cell? ⟨g4, 1, none⟩ = some (.slice p4 r4.length q4)) (by kernel_rfl) ⟨k4_0 (z5.drew), k4_1 (z5.drew), k4_2 (z5.drew), k4_3 (z5.drew)⟩ (fun hHeld => ?_)
            refine wpAnyH_take (fuel := 45) (i := 0) (v := ?v0) rfl (by kernel_rfl) (by kernel_rfl) (by kernel_rfl) (fun _ _ _ h => h) (Or.inl ⟨by kernel_rfl, ?y0⟩) (by assumption) ?r0
            case y0 => (intro w hSw; (try dsimp only at hSw); (obtain ⟨hs0, hs1, hs2, hs3⟩ := hSw); go_simp; try with_reducible rfl)
            try simp only [Act.put, List.getElem_toArray, List.getElem_cons_zero, List.setIfInBounds_toArray, List.set_cons_zero, List.set_cons_succ]
            refine wpAnyH_take (fuel := 44) (i := 1) (v := ?v1) rfl (by kernel_rfl) (by kernel_rfl) (by kernel_rfl) (fun _ _ _ h => h) (Or.inl ⟨by kernel_rfl, ?y1⟩) (by assumption) ?r1
            case y1 => (intro w hSw; (try dsimp only at hSw); (obtain ⟨hs0, hs1, hs2, hs3⟩ := hSw); go_simp; try with_reducible rfl)
            try simp only [Act.put, List.getElem_toArray, List.getElem_cons_succ, List.getElem_cons_zero, List.setIfInBounds_toArray, List.set_cons_zero, List.set_cons_succ]
            refine wpAnyH_ready (fuel := 43) (rs := [2]) (by kernel_rfl) (by simp) ?_
            refine AllReadyH.cons rfl (fun K hK => ?_) AllReadyH.nil
            go_simp
            go_at_call 17; with_reducible refine (C1.out (z5.drew)).mono ?_; rintro e _ ⟨pq1, qq1, rfl, s1, rfl, hr1⟩
            clear hHeld
            refine hK.out _ _ ⟨k4_0 s1, k4_1 s1, k4_2 s1, k4_3 s1⟩ (fun hHeld => ?_)
            clear hK K
            try simp only [Act.put, List.getElem_toArray, List.getElem_cons_succ, List.getElem_cons_zero, List.setIfInBounds_toArray, List.set_cons_zero, List.set_cons_succ]
            refine wpAnyH_ready (fuel := 42) (rs := [3]) (by kernel_rfl) (by simp) ?_
            refine AllReadyH.cons rfl (fun K hK => ?_) AllReadyH.nil
            go_simp
            go_at_call 16; with_reducible refine (s1.of (sameR _ _ SB w2.heap.size s1.w.heap.size s1.w (R4_2.out.below (Past.h s1) hR4_2) hr1 (Past.len hR4_2 s1) (Nat.le_refl _) (by omega))).mono ?_; rintro e _ ⟨rfl, s2, rfl⟩
            clear hHeld
            refine hK.out _ _ ⟨k4_0 s2, k4_1 s2, k4_2 s2, k4_3 s2⟩ (fun hHeld => ?_)
            clear hK K
            try simp only [Act.put, List.getElem_toArray, List.getElem_cons_succ, List.getElem_cons_zero, List.setIfInBounds_toArray, List.set_cons_zero, List.set_cons_succ]
            refine wpAnyH_take (fuel := 41) (i := 4) (v := ?v4) rfl (by kernel_rfl) (by kernel_rfl) (by kernel_rfl) (fun _ _ _ h => h) (Or.inl ⟨by kernel_rfl, ?y4⟩) (by assumption) ?r4
            case y4 => (intro w hSw; (try dsimp only at hSw); (obtain ⟨hs0, hs1, hs2, hs3⟩ := hSw); go_simp; try with_reducible rfl)
            try simp only [Act.put, List.getElem_toArray, List.getElem_cons_succ, List.getElem_cons_zero, List.setIfInBounds_toArray, List.set_cons_zero, List.set_cons_succ]
            as_aux_lemma =>
              refine wpAnyH_take (fuel := 40) (i := 5) (v := ?v5) rfl (by kernel_rfl) (by kernel_rfl) (by kernel_rfl) (fun _ _ _ h => h) (Or.inl ⟨by kernel_rfl, ?y5⟩) (by assumption) ?r5
              case y5 => (intro w hSw; (try dsimp only at hSw); (obtain ⟨hs0, hs1, hs2, hs3⟩ := hSw); go_simp; try with_reducible rfl)
              try simp only [Act.put, List.getElem_toArray, List.getElem_cons_succ, List.getElem_cons_zero, List.setIfInBounds_toArray, List.set_cons_zero, List.set_cons_succ]
              refine wpAnyH_take (fuel := 39) (i := 6) (v := ?v6) rfl (by kernel_rfl) (by kernel_rfl) (by kernel_rfl) (fun _ _ _ h => h) (Or.inl ⟨by kernel_rfl, ?y6⟩) (by assumption) ?r6
              case y6 => (intro w hSw; (try dsimp only at hSw); (obtain ⟨hs0, hs1, hs2, hs3⟩ := hSw); go_simp; try with_reducible rfl)
              try simp only [Act.put, List.getElem_toArray, List.getElem_cons_succ, List.getElem_cons_zero, List.setIfInBounds_toArray, List.set_cons_zero, List.set_cons_succ]
              refine wpAnyH_take (fuel := 38) (i := 7) (v := ?v7) rfl (by kernel_rfl) (by kernel_rfl) (by kernel_rfl) (fun _ _ _ h => h) (Or.inl ⟨by kernel_rfl, ?y7⟩) (by assumption) ?r7
              case y7 => (intro w hSw; (try dsimp only at hSw); (obtain ⟨hs0, hs1, hs2, hs3⟩ := hSw); go_simp; try with_reducible rfl)
              try simp only [Act.put, List.getElem_toArray, List.getElem_cons_succ, List.getElem_cons_zero, List.setIfInBounds_toArray, List.set_cons_zero, List.set_cons_succ]
              refine wpAnyH_ready (fuel := 37) (rs := [8]) (by kernel_rfl) (by simp) ?_
              refine AllReadyH.cons rfl (fun K hK => ?_) AllReadyH.nil
              go_simp
              go_at_call 19; with_reducible refine (C2.out s2).mono ?_; rintro e _ ⟨pq3, qq3, rfl, s3, rfl, hr3⟩
              clear hHeld
              refine hK.out _ _ ⟨k4_0 s3, k4_1 s3, k4_2 s3, k4_3 s3⟩ (fun hHeld => ?_)
              clear hK K
              try simp only [Act.put, List.getElem_toArray, List.getElem_cons_succ, List.getElem_cons_zero, List.setIfInBounds_toArray, List.set_cons_zero, List.set_cons_succ]
              refine wpAnyH_ready (fuel := 36) (rs := [9]) (by kernel_rfl) (by simp) ?_
              refine AllReadyH.cons rfl (fun K hK => ?_) AllReadyH.nil
              go_simp
              go_at_call 18; with_reducible refine (s3.of (same_ _ _ PI w3.heap.size s3.w.heap.size s3.w (R4_3.out.below (Past.h s3) hR4_3) hr3 (Past.len hR4_3 s3) (Nat.le_refl _) (by omega))).mono ?_; rintro e _ ⟨rfl, s4, rfl⟩
              clear hHeld
              refine hK.out _ _ ⟨k4_0 s4, k4_1 s4, k4_2 s4, k4_3 s4⟩ (fun hHeld => ?_)
              clear hK K
              try simp only [Act.put, List.getElem_toArray, List.getElem_cons_succ, List.getElem_cons_zero, List.setIfInBounds_toArray, List.set_cons_zero, List.set_cons_succ]
              as_aux_lemma =>
                refine wpAnyH_take (fuel := 35) (i := 10) (v := ?v10) rfl (by kernel_rfl) (by kernel_rfl) (by kernel_rfl) (fun _ _ _ h => h) (Or.inl ⟨by kernel_rfl, ?y10⟩) (by assumption) ?r10
                case y10 => (intro w hSw; (try dsimp only at hSw); (obtain ⟨hs0, hs1, hs2, hs3⟩ := hSw); go_simp; try with_reducible rfl)
                try simp only [Act.put, List.getElem_toArray, List.getElem_cons_succ, List.getElem_cons_zero, List.setIfInBounds_toArray, List.set_cons_zero, List.set_cons_succ]
                refine wpAnyH_take (fuel := 34) (i := 11) (v := ?v11) rfl (by kernel_rfl) (by kernel_rfl) (by kernel_rfl) (fun _ _ _ h => h) (Or.inl ⟨by kernel_rfl, ?y11⟩) (by assumption) ?r11
                case y11 => (intro w hSw; (try dsimp only at hSw); (obtain ⟨hs0, hs1, hs2, hs3⟩ := hSw); go_simp; try with_reducible rfl)
                try simp only [Act.put, List.getElem_toArray, List.getElem_cons_succ, List.getElem_cons_zero, List.setIfInBounds_toArray, List.set_cons_zero, List.set_cons_succ]
                refine wpAnyH_take (fuel := 33) (i := 12) (v := ?v12) rfl (by kernel_rfl) (by kernel_rfl) (by kernel_rfl) (fun _ _ _ h => h) (Or.inl ⟨by kernel_rfl, ?y12⟩) (by assumption) ?r12
                case y12 => (intro w hSw; (try dsimp only at hSw); (obtain ⟨hs0, hs1, hs2, hs3⟩ := hSw); go_simp; try with_reducible rfl)
                try simp only [Act.put, List.getElem_toArray, List.getElem_cons_succ, List.getElem_cons_zero, List.setIfInBounds_toArray, List.set_cons_zero, List.set_cons_succ]
                refine wpAnyH_take (fuel := 32) (i := 13) (v := ?v13) rfl (by kernel_rfl) (by kernel_rfl) (by kernel_rfl) (fun _ _ _ h => h) (Or.inl ⟨by kernel_rfl, ?y13⟩) (by assumption) ?r13
                case y13 => (intro w hSw; (try dsimp only at hSw); (obtain ⟨hs0, hs1, hs2, hs3⟩ := hSw); go_simp; try with_reducible rfl)
                try simp only [Act.put, List.getElem_toArray, List.getElem_cons_succ, List.getElem_cons_zero, List.setIfInBounds_toArray, List.set_cons_zero, List.set_cons_succ]
                refine wpAnyH_take (fuel := 31) (i := 14) (v := ?v14) rfl (by kernel_rfl) (by kernel_rfl) (by kernel_rfl) (fun _ _ _ h => h) (Or.inl ⟨by kernel_rfl, ?y14⟩) (by assumption) ?r14
                case y14 => (intro w hSw; (try dsimp only at hSw); (obtain ⟨hs0, hs1, hs2, hs3⟩ := hSw); go_simp; try with_reducible rfl)
                try simp only [Act.put, List.getElem_toArray, List.getElem_cons_succ, List.getElem_cons_zero, List.setIfInBounds_toArray, List.set_cons_zero, List.set_cons_succ]
                as_aux_lemma =>
                  refine wpAnyH_take (fuel := 30) (i := 15) (v := ?v15) rfl (by kernel_rfl) (by kernel_rfl) (by kernel_rfl) (fun _ _ _ h => h) (Or.inl ⟨by kernel_rfl, ?y15⟩) (by assumption) ?r15
                  case y15 => (intro w hSw; (try dsimp only at hSw); (obtain ⟨hs0, hs1, hs2, hs3⟩ := hSw); go_simp; try with_reducible rfl)
                  try simp only [Act.put, List.getElem_toArray, List.getElem_cons_succ, List.getElem_cons_zero, List.setIfInBounds_toArray, List.set_cons_zero, List.set_cons_succ]
                  refine wpAnyH_ready (fuel := 29) (rs := [16]) (by kernel_rfl) (by simp) ?_
                  refine AllReadyH.cons rfl (fun K hK => ?_) AllReadyH.nil
                  go_simp
                  go_at_call 20; with_reducible refine (C3.out s4).mono ?_; rintro e _ ⟨rfl, s5, rfl⟩
                  clear hHeld
                  refine hK.out _ _ ⟨k4_0 s5, k4_1 s5, k4_2 s5, k4_3 s5⟩ (fun hHeld => ?_)
                  clear hK K
                  try simp only [Act.put, List.getElem_toArray, List.getElem_cons_succ, List.getElem_cons_zero, List.setIfInBounds_toArray, List.set_cons_zero, List.set_cons_succ]
                  refine wpAnyH_take (fuel := 28) (i := 17) (v := ?v17) rfl (by kernel_rfl) (by kernel_rfl) (by kernel_rfl) (fun _ _ _ h => h) (Or.inl ⟨by kernel_rfl, ?y17⟩) (by assumption) ?r17
                  case y17 => (intro w hSw; (try dsimp only at hSw); (obtain ⟨hs0, hs1, hs2, hs3⟩ := hSw); go_simp; try with_reducible rfl)
                  try simp only [Act.put, List.getElem_toArray, List.getElem_cons_succ, List.getElem_cons_zero, List.setIfInBounds_toArray, List.set_cons_zero, List.set_cons_succ]
                  refine wpAnyH_take (fuel := 27) (i := 18) (v := ?v18) rfl (by kernel_rfl) (by kernel_rfl) (by kernel_rfl) (fun _ _ _ h => h) (Or.inl ⟨by kernel_rfl, ?y18⟩) (by assumption) ?r18
                  case y18 => (intro w hSw; (try dsimp only at hSw); (obtain ⟨hs0, hs1, hs2, hs3⟩ := hSw); go_simp; try with_reducible rfl)
                  try simp only [Act.put, List.getElem_toArray, List.getElem_cons_succ, List.getElem_cons_zero, List.setIfInBounds_toArray, List.set_cons_zero, List.set_cons_succ]
                  refine wpAnyH_take (fuel := 26) (i := 19) (v := ?v19) rfl (by kernel_rfl) (by kernel_rfl) (by kernel_rfl) (fun _ _ _ h => h) (Or.inl ⟨by kernel_rfl, ?y19⟩) (by assumption) ?r19
                  case y19 => (intro w hSw; (try dsimp only at hSw); (obtain ⟨hs0, hs1, hs2, hs3⟩ := hSw); go_simp; try with_reducible rfl)
                  try simp only [Act.put, List.getElem_toArray, List.getElem_cons_succ, List.getElem_cons_zero, List.setIfInBounds_toArray, List.set_cons_zero, List.set_cons_succ]
                  as_aux_lemma =>
                    refine wpAnyH_take (fuel := 25) (i := 20) (v := ?v20) rfl (by kernel_rfl) (by kernel_rfl) (by kernel_rfl) (fun _ _ _ h => h) (Or.inl ⟨by kernel_rfl, ?y20⟩) (by assumption) ?r20
                    case y20 => (intro w hSw; (try dsimp only at hSw); (obtain ⟨hs0, hs1, hs2, hs3⟩ := hSw); go_simp; try with_reducible rfl)
                    try simp only [Act.put, List.getElem_toArray, List.getElem_cons_succ, List.getElem_cons_zero, List.setIfInBounds_toArray, List.set_cons_zero, List.set_cons_succ]
                    refine wpAnyH_take (fuel := 24) (i := 21) (v := ?v21) rfl (by kernel_rfl) (by kernel_rfl) (by kernel_rfl) (fun _ _ _ h => h) (Or.inl ⟨by kernel_rfl, ?y21⟩) (by assumption) ?r21
                    case y21 => (intro w hSw; (try dsimp only at hSw); (obtain ⟨hs0, hs1, hs2, hs3⟩ := hSw); go_simp; try with_reducible rfl)
                    try simp only [Act.put, List.getElem_toArray, List.getElem_cons_succ, List.getElem_cons_zero, List.setIfInBounds_toArray, List.set_cons_zero, List.set_cons_succ]
                    refine wpAnyH_take (fuel := 23) (i := 23) (v := ?v23) rfl (by kernel_rfl) (by kernel_rfl) (by kernel_rfl) (fun _ _ _ h => h) (Or.inl ⟨by kernel_rfl, ?y23⟩) (by assumption) ?r23
                    case y23 => (intro w hSw; (try dsimp only at hSw); (obtain ⟨hs0, hs1, hs2, hs3⟩ := hSw); go_simp; try with_reducible rfl)
                    try simp only [Act.put, List.getElem_toArray, List.getElem_cons_succ, List.getElem_cons_zero, List.setIfInBounds_toArray, List.set_cons_zero, List.set_cons_succ]
                    refine wpAnyH_take (fuel := 22) (i := 24) (v := ?v24) rfl (by kernel_rfl) (by kernel_rfl) (by kernel_rfl) (fun _ _ _ h => h) (Or.inl ⟨by kernel_rfl, ?y24⟩) (by assumption) ?r24
                    case y24 => (intro w hSw; (try dsimp only at hSw); (obtain ⟨hs0, hs1, hs2, hs3⟩ := hSw); go_simp; try with_reducible rfl)
                    try simp only [Act.put, List.getElem_toArray, List.getElem_cons_succ, List.getElem_cons_zero, List.setIfInBounds_toArray, List.set_cons_zero, List.set_cons_succ]
                    refine wpAnyH_ready (fuel := 21) (rs := [22]) (by kernel_rfl) (by simp) ?_
                    refine AllReadyH.cons rfl (fun K hK => ?_) AllReadyH.nil
                    go_simp
                    go_at_call 21; with_reducible refine (C4.out s5).mono ?_; rintro e _ ⟨rfl, s6, rfl⟩
                    clear hHeld
                    refine hK.out _ _ ⟨k4_0 s6, k4_1 s6, k4_2 s6, k4_3 s6⟩ (fun hHeld => ?_)
                    clear hK K
                    try simp only [Act.put, List.getElem_toArray, List.getElem_cons_succ, List.getElem_cons_zero, List.setIfInBounds_toArray, List.set_cons_zero, List.set_cons_succ]
                    as_aux_lemma =>
                      refine wpAnyH_ready (fuel := 20) (rs := [25]) (by kernel_rfl) (by simp) ?_
                      refine AllReadyH.cons rfl (fun K hK => ?_) AllReadyH.nil
                      go_simp
                      go_at_call 22; with_reducible refine (C5.out s6).mono ?_; rintro e _ ⟨rfl, s7, rfl⟩
                      clear hHeld
                      refine hK.out _ _ ⟨k4_0 s7, k4_1 s7, k4_2 s7, k4_3 s7⟩ (fun hHeld => ?_)
                      clear hK K
                      try simp only [Act.put, List.getElem_toArray, List.getElem_cons_succ, List.getElem_cons_zero, List.setIfInBounds_toArray, List.set_cons_zero, List.set_cons_succ]
                      refine wpAnyH_take (fuel := 19) (i := 26) (v := ?v26) rfl (by kernel_rfl) (by kernel_rfl) (by kernel_rfl) (fun _ _ _ h => h) (Or.inl ⟨by kernel_rfl, ?y26⟩) (by assumption) ?r26
                      case y26 => (intro w hSw; (try dsimp only at hSw); (obtain ⟨hs0, hs1, hs2, hs3⟩ := hSw); go_simp; try with_reducible rfl)
                      try simp only [Act.put, List.getElem_toArray, List.getElem_cons_succ, List.getElem_cons_zero, List.setIfInBounds_toArray, List.set_cons_zero, List.set_cons_succ]
                      refine wpAnyH_take (fuel := 18) (i := 27) (v := ?v27) rfl (by kernel_rfl) (by kernel_rfl) (by kernel_rfl) (fun _ _ _ h => h) (Or.inl ⟨by kernel_rfl, ?y27⟩) (by assumption) ?r27
                      case y27 => (intro w hSw; (try dsimp only at hSw); (obtain ⟨hs0, hs1, hs2, hs3⟩ := hSw); go_simp; try with_reducible rfl)
                      try simp only [Act.put, List.getElem_toArray, List.getElem_cons_succ, List.getElem_cons_zero, List.setIfInBounds_toArray, List.set_cons_zero, List.set_cons_succ]
                      refine wpAnyH_take (fuel := 17) (i := 28) (v := ?v28) rfl (by kernel_rfl) (by kernel_rfl) (by kernel_rfl) (fun _ _ _ h => h) (Or.inl ⟨by kernel_rfl, ?y28⟩) (by assumption) ?r28
                      case y28 => (intro w hSw; (try dsimp only at hSw); (obtain ⟨hs0, hs1, hs2, hs3⟩ := hSw); go_simp; try with_reducible rfl)
                      try simp only [Act.put, List.getElem_toArray, List.getElem_cons_succ, List.getElem_cons_zero, List.setIfInBounds_toArray, List.set_cons_zero, List.set_cons_succ]
                      refine wpAnyH_take (fuel := 16) (i := 29) (v := ?v29) rfl (by kernel_rfl) (by kernel_rfl) (by kernel_rfl) (fun _ _ _ h => h) (Or.inl ⟨by kernel_rfl, ?y29⟩) (by assumption) ?r29
                      case y29 => (intro w hSw; (try dsimp only at hSw); (obtain ⟨hs0, hs1, hs2, hs3⟩ := hSw); go_simp; try with_reducible rfl)
                      try simp only [Act.put, List.getElem_toArray, List.getElem_cons_succ, List.getElem_cons_zero, List.setIfInBounds_toArray, List.set_cons_zero, List.set_cons_succ]
                      as_aux_lemma =>
                        refine wpAnyH_take (fuel := 15) (i := 31) (v := ?v31) rfl (by kernel_rfl) (by kernel_rfl) (by kernel_rfl) (fun _ _ _ h => h) (Or.inl ⟨by kernel_rfl, ?y31⟩) (by assumption) ?r31
                        case y31 => (intro w hSw; (try dsimp only at hSw); (obtain ⟨hs0, hs1, hs2, hs3⟩ := hSw); go_simp; try with_reducible rfl)
                        try simp only [Act.put, List.getElem_toArray, List.getElem_cons_succ, List.getElem_cons_zero, List.setIfInBounds_toArray, List.set_cons_zero, List.set_cons_succ]
                        refine wpAnyH_ready (fuel := 14) (rs := [30]) (by kernel_rfl) (by simp) ?_
                        refine AllReadyH.cons rfl (fun K hK => ?_) AllReadyH.nil
                        go_simp
                        go_at_call 23; with_reducible refine (C6.out s7).mono ?_; rintro e _ ⟨rfl, s8, rfl⟩
                        clear hHeld
                        refine hK.out _ _ ⟨k4_0 s8, k4_1 s8, k4_2 s8, k4_3 s8⟩ (fun hHeld => ?_)
                        clear hK K
                        try simp only [Act.put, List.getElem_toArray, List.getElem_cons_succ, List.getElem_cons_zero, List.setIfInBounds_toArray, List.set_cons_zero, List.set_cons_succ]
                        refine wpAnyH_ready (fuel := 13) (rs := [32]) (by kernel_rfl) (by simp) ?_
                        refine AllReadyH.cons rfl (fun K hK => ?_) AllReadyH.nil
                        go_simp
                        go_at_call 24; with_reducible refine (C7.out s8).mono ?_; rintro e _ ⟨rfl, s9, rfl⟩
                        clear hHeld
                        refine hK.out _ _ ⟨k4_0 s9, k4_1 s9, k4_2 s9, k4_3 s9⟩ (fun hHeld => ?_)
                        clear hK K
                        try simp only [Act.put, List.getElem_toArray, List.getElem_cons_succ, List.getElem_cons_zero, List.setIfInBounds_toArray, List.set_cons_zero, List.set_cons_succ]
                        refine wpAnyH_take (fuel := 12) (i := 33) (v := ?v33) rfl (by kernel_rfl) (by kernel_rfl) (by kernel_rfl) (fun _ _ _ h => h) (Or.inl ⟨by kernel_rfl, ?y33⟩) (by assumption) ?r33
                        case y33 => (intro w hSw; (try dsimp only at hSw); (obtain ⟨hs0, hs1, hs2, hs3⟩ := hSw); go_simp; try with_reducible rfl)
                        try simp only [Act.put, List.getElem_toArray, List.getElem_cons_succ, List.getElem_cons_zero, List.setIfInBounds_toArray, List.set_cons_zero, List.set_cons_succ]
                        refine wpAnyH_take (fuel := 11) (i := 34) (v := ?v34) rfl (by kernel_rfl) (by kernel_rfl) (by kernel_rfl) (fun _ _ _ h => h) (Or.inl ⟨by kernel_rfl, ?y34⟩) (by assumption) ?r34
                        case y34 => (intro w hSw; (try dsimp only at hSw); (obtain ⟨hs0, hs1, hs2, hs3⟩ := hSw); go_simp; try with_reducible rfl)
                        try simp only [Act.put, List.getElem_toArray, List.getElem_cons_succ, List.getElem_cons_zero, List.setIfInBounds_toArray, List.set_cons_zero, List.set_cons_succ]
                        as_aux_lemma =>
                          refine wpAnyH_take (fuel := 10) (i := 35) (v := ?v35) rfl (by kernel_rfl) (by kernel_rfl) (by kernel_rfl) (fun _ _ _ h => h) (Or.inl ⟨by kernel_rfl, ?y35⟩) (by assumption) ?r35
                          case y35 => (intro w hSw; (try dsimp only at hSw); (obtain ⟨hs0, hs1, hs2, hs3⟩ := hSw); go_simp; try with_reducible rfl)
                          try simp only [Act.put, List.getElem_toArray, List.getElem_cons_succ, List.getElem_cons_zero, List.setIfInBounds_toArray, List.set_cons_zero, List.set_cons_succ]
                          refine wpAnyH_take (fuel := 9) (i := 36) (v := ?v36) rfl (by kernel_rfl) (by kernel_rfl) (by kernel_rfl) (fun _ _ _ h => h) (Or.inl ⟨by kernel_rfl, ?y36⟩) (by assumption) ?r36
                          case y36 => (intro w hSw; (try dsimp only at hSw); (obtain ⟨hs0, hs1, hs2, hs3⟩ := hSw); go_simp; try with_reducible rfl)
                          try simp only [Act.put, List.getElem_toArray, List.getElem_cons_succ, List.getElem_cons_zero, List.setIfInBounds_toArray, List.set_cons_zero, List.set_cons_succ]
                          refine wpAnyH_take (fuel := 8) (i := 37) (v := ?v37) rfl (by kernel_rfl) (by kernel_rfl) (by kernel_rfl) (fun _ _ _ h => h) (Or.inl ⟨by kernel_rfl, ?y37⟩) (by assumption) ?r37
                          case y37 => (intro w hSw; (try dsimp only at hSw); (obtain ⟨hs0, hs1, hs2, hs3⟩ := hSw); go_simp; try with_reducible rfl)
                          try simp only [Act.put, List.getElem_toArray, List.getElem_cons_succ, List.getElem_cons_zero, List.setIfInBounds_toArray, List.set_cons_zero, List.set_cons_succ]
                          refine wpAnyH_take (fuel := 7) (i := 38) (v := undef) rfl (by kernel_rfl) (by kernel_rfl) (by kernel_rfl) (fun _ _ _ h => h) (Or.inr ⟨by kernel_rfl, rfl⟩) (by assumption) ?_
                          try simp only [Act.put, List.getElem_toArray, List.getElem_cons_succ, List.getElem_cons_zero, List.setIfInBounds_toArray, List.set_cons_zero, List.set_cons_succ]
                          refine wpAnyH_take (fuel := 6) (i := 39) (v := undef) rfl (by kernel_rfl) (by kernel_rfl) (by kernel_rfl) (fun _ _ _ h => h) (Or.inr ⟨by kernel_rfl, rfl⟩) (by assumption) ?_
                          try simp only [Act.put, List.getElem_toArray, List.getElem_cons_succ, List.getElem_cons_zero, List.setIfInBounds_toArray, List.set_cons_zero, List.set_cons_succ]
                          as_aux_lemma =>
                            refine wpAnyH_take (fuel := 5) (i := 40) (v := undef) rfl (by kernel_rfl) (by kernel_rfl) (by kernel_rfl) (fun _ _ _ h => h) (Or.inr ⟨by kernel_rfl, rfl⟩) (by assumption) ?_
                            try simp only [Act.put, List.getElem_toArray, List.getElem_cons_succ, List.getElem_cons_zero, List.setIfInBounds_toArray, List.set_cons_zero, List.set_cons_succ]
                            refine wpAnyH_take (fuel := 4) (i := 41) (v := undef) rfl (by kernel_rfl) (by kernel_rfl) (by kernel_rfl) (fun _ _ _ h => h) (Or.inr ⟨by kernel_rfl, rfl⟩) (by assumption) ?_
                            try simp only [Act.put, List.getElem_toArray, List.getElem_cons_succ, List.getElem_cons_zero, List.setIfInBounds_toArray, List.set_cons_zero, List.set_cons_succ]
                            refine wpAnyH_take (fuel := 3) (i := 42) (v := undef) rfl (by kernel_rfl) (by kernel_rfl) (by kernel_rfl) (fun _ _ _ h => h) (Or.inr ⟨by kernel_rfl, rfl⟩) (by assumption) ?_
                            try simp only [Act.put, List.getElem_toArray, List.getElem_cons_succ, List.getElem_cons_zero, List.setIfInBounds_toArray, List.set_cons_zero, List.set_cons_succ]
                            refine wpAnyH_take (fuel := 2) (i := 43) (v := undef) rfl (by kernel_rfl) (by kernel_rfl) (by kernel_rfl) (fun _ _ _ h => h) (Or.inr ⟨by kernel_rfl, rfl⟩) (by assumption) ?_
                            try simp only [Act.put, List.getElem_toArray, List.getElem_cons_succ, List.getElem_cons_zero, List.setIfInBounds_toArray, List.set_cons_zero, List.set_cons_succ]
                            refine wpAnyH_take (fuel := 1) (i := 44) (v := ?v44) rfl (by kernel_rfl) (by kernel_rfl) (by kernel_rfl) (fun _ _ _ h => h) (Or.inl ⟨by kernel_rfl, ?y44⟩) (by assumption) ?r44
                            case y44 => (intro w hSw; (try dsimp only at hSw); (obtain ⟨hs0, hs1, hs2, hs3⟩ := hSw); go_simp; try with_reducible rfl)
                            try simp only [Act.put, List.getElem_toArray, List.getElem_cons_succ, List.getElem_cons_zero, List.setIfInBounds_toArray, List.set_cons_zero, List.set_cons_succ]
                            as_aux_lemma =>
                              refine wpAnyH_take (fuel := 0) (i := 45) (v := ?v45) rfl (by kernel_rfl) (by kernel_rfl) (by kernel_rfl) (fun _ _ _ h => h) (Or.inl ⟨by kernel_rfl, ?y45⟩) (by assumption) ?r45
                              case y45 => (intro w hSw; (try dsimp only at hSw); (obtain ⟨hs0, hs1, hs2, hs3⟩ := hSw); go_simp; try with_reducible rfl)
                              try simp only [Act.put, List.getElem_toArray, List.getElem_cons_succ, List.getElem_cons_zero, List.setIfInBounds_toArray, List.set_cons_zero, List.set_cons_succ]
                              refine wpAnyH_done (by kernel_rfl) ?_ _
                              try simp only [Act.put, List.getElem_toArray, List.getElem_cons_succ, List.getElem_cons_zero, List.setIfInBounds_toArray, List.set_cons_zero, List.set_cons_succ]
                              go_wp2_with fail
                              go_meet
                              exact ⟨rfl, s9, rfl⟩
      case rest =>
      obtain ⟨rfl, z6, rfl⟩ := hcut
      as_aux_lemma =>
        have HIC := Lib.hid fun p : Past W4 => p.of (spec_isCtx a1 _ r1 g1 p.w (R4_1.out.below (Past.h p) hR4_1) (Past.len hR4_1 p))
        have kz0 := k4_0 z6
        have kz1 := k4_1 z6
        go_wp2_with fail
        refine (HIC.out z6).mono ?_
        rintro e _ ⟨rfl, z7, rfl⟩
        cases hic : isCtx a1 r1 with
        | false =>
          have hS0 : SB = [] := by rw [← ES.out]; exact stem_noctx hic
          subst hS0
          have hbb := Past.below z7 Bw4.out
          clear hic
          go_wp2_with fail
          go_ret
          exact ⟨rfl, hbb⟩
        | true =>
          as_aux_lemma =>
            have hp := isCtx_parts hic
            have hN8 : 2 ^ a1.toNat ≤ 256 := pow_le8 (by omega)
            have hN1 : 1 ≤ 2 ^ a1.toNat := Nat.pow_pos (by omega)
            have HF := Lib.hid fun w => spec_full a1 w
            rw [full_nat hp.1 (by omega)] at HF
            have HCB := Lib.hid fun (k : Nat) (hk : k < 2 ^ a1.toNat) => stem_closed hic hk
            have HCL := Lib.hid fun (k : Nat) (hk : k < 2 ^ a1.toNat) => closure_at hic hk
            simp only [ES.out] at HCB
            have HFN := Lib.hid fun (k : Nat) (hk : k < (stemBase a1 r1).length) => follows_not hic hk
            have HFI := Lib.hid fun (k : Nat) (hk : k < (stemBase a1 r1).length) => stem_first hic hk
            simp only [ES.out] at HFN HFI
            simp only [EP.out] at HFI
            have HIB : Hid (isBase a1 r1 SB = true) := Lib.hid (by rw [← ES.out, (stem_ctx hic).1]; exact stemOf_base hic)
            have HLN : Hid (SB.length = PI.length) := Lib.hid (by rw [← ES.out, ← EP.out, (stem_ctx hic).1, (stem_ctx hic).2]; exact stemOf_len a1 r1)
            generalize 2 ^ a1.toNat = N at hN8 hN1 HF HCB HCL
            clear hp hic
            have CB := Lib.hid fun (p : Past W4) (k : Int) => p.of (spec_closedBy _ SB k w2.heap.size p.w (R4_2.out.below (Past.h p) hR4_2) (Past.len hR4_2 p))
            have CL := Lib.hid fun (p : Past W4) (k : Int) => p.of (spec_closure a1 _ r1 k g1 p.w (R4_1.out.below (Past.h p) hR4_1) (Past.len hR4_1 p))
            go_wp2_with fail
            go_loopw [9] (fun i wx => ∃ (k : Nat), k ≤ N ∧ i = .int .i64 k ∧ ∃ p : Past W4, wx = p.w) (fun i _ => N - (intOf i).toNat)
            case atStart => exact ⟨0, Nat.zero_le _, rfl, z7, rfl⟩
            case round =>
              obtain ⟨k, hk, rfl, p, rfl⟩ := hrel
              have kp0 := k4_0 p
              have kp1 := k4_1 p
              by_cases hlt : k < N
              · have dk : decide ((k : Int) ≤ ((N - 1 : Nat) : Int)) = true := by simp; omega
                have HB := Lib.hid fun q => CB.out q k
                have HC := Lib.hid fun q => CL.out q k
                simp only [HCB.out k hlt] at HB
                simp only [HCL.out k hlt] at HC
                generalize clo a1 r1 k = y at HB HC
                have hqy : (((y : Nat) : Int) != ((y : Nat) : Int)) = false := by simp
                go_wp2_with fail
                refine (HF.out _).mono ?_
                rintro e w' ⟨rfl, hw⟩
                subst w'
                go_wp2_with fail
                refine wp_region_pastIn p (by kernel_rfl) (by kernel_rfl) ?_
                repeat (go_big_quiet_step (first | with_reducible exact HB.out _ | with_reducible exact HC.out _))
                refine wpQuiet_nil ?_
                rintro _ ⟨p2, rfl⟩
                go_wp2_with fail
                go_roundw
                case rel => exact ⟨k + 1, by omega, by simp, p2, rfl⟩
                case measure => simp [intOf]; omega
              · have dk : decide ((k : Int) ≤ ((N - 1 : Nat) : Int)) = false := by simp; omega
                have dk2 : decide (k ≤ N - 1) = false := by simp; omega
                go_wp2_with fail
                refine (HF.out _).mono ?_
                rintro e w' ⟨rfl, hw⟩
                subst w'
                as_aux_lemma =>
                  go_wp2_with fail
                  go_loopw [10] (fun i wx => ∃ (k : Nat), k ≤ SB.length ∧ i = .int .i64 k ∧ ∃ p : Past W4, wx = p.w) (fun i _ => SB.length - (intOf i).toNat)
                  case atStart => exact ⟨0, Nat.zero_le _, rfl, p, rfl⟩
                  case round =>
                    obtain ⟨k, hk, rfl, p, rfl⟩ := hrel
                    by_cases hlt : k < SB.length
                    · obtain ⟨b, o, rfl, hbB, hcs⟩ : ∃ b o, p2 = some ⟨b, o, none⟩ ∧ b < w2.heap.size ∧ ∀ p : Past W4, ∀ j, j < SB.length → p.w.cell? ⟨b, o + j * 2, none⟩ = some (.int .i64 (SB.getD j (0, 0)).1) ∧ p.w.cell? ⟨b, o + j * 2 + 1, none⟩ = some (.int .i64 (SB.getD j (0, 0)).2) := by
                        obtain ⟨_, a', c', hv, hcells⟩ := R4_2.out
                        injection hv with e1 e2 e3
                        subst e1
                        obtain ⟨b, o, h1, h2, h3⟩ := hcells (by rintro rfl; simp at hlt)
                        exact ⟨b, o, h1, h2, fun p j hj => ⟨Past.cell (h3 j hj).1 (by show b < _; have := hR4_2; omega) p, Past.cell (h3 j hj).2 (by show b < _; have := hR4_2; omega) p⟩⟩
                      as_aux_lemma =>
                        have hps := p.size
                        have hbp : b < p.w.heap.size := by have := hR4_2; omega
                        have HN1 := Lib.hid (cut_news (w := (p.alloc (.cells #[] 43)).w) (q := 0) (m := SB.take k) (hcs (p.alloc (.cells #[] 43))) (take_at (by omega)))
                        rw [Nat.zero_mul, Nat.add_zero] at HN1
                        have HL0 := Lib.hid (World.ownsRow_lit (e := 43) (size := 2) p.w #[] 0 (Nat.le_refl _) (Nat.zero_le _) rfl)
                        have HT1 : Hid ((prs (SB.take k)).length = k * 2) := Lib.hid (by rw [prs_length, List.length_take]; omega)
                        have HT2 : Hid ((prs (SB.drop (k + 1))).length = (SB.length - (k + 1)) * 2) := Lib.hid (by rw [prs_length, List.length_drop])
                        have M1 : Hid (0 + k ≤ maxLen) := Lib.hid (by unfold maxLen; omega)
                        have M2 : Hid ((0 + k) * 16 ≤ 140737488355328) := Lib.hid (by omega)
                        have M3 : Hid (k + (SB.length - (k + 1)) ≤ maxLen) := Lib.hid (by unfold maxLen; omega)
                        have M4 : Hid ((k + (SB.length - (k + 1))) * 16 ≤ 140737488355328) := Lib.hid (by omega)
                        have hz0p : p.w.heap.size ≤ (p.w.alloc (.cells #[] 43)).drew.heap.size := (Below.refl 0 p.w |>.alloc (Nat.zero_le _) (.cells #[] 43)).size
                        go_wp2_with fail
                        have hkq : k ≤ q2 := by omega
                        have hkl : k + 1 ≤ SB.length := hlt
                        have hkq1 : k + 1 ≤ q2 := by omega
                        have hwr : IntKind.i64.wrap ((k : Int) + 1) = (k : Int) + 1 := by rw [IntKind.wrap_i64]; omega
                        have htn : ((k : Int) + 1).toNat = k + 1 := by omega
                        have hi0 : (0 : Int) ≤ (k : Int) + 1 := by omega
                        have hi1 : (k : Int) + 1 ≤ (SB.length : Int) := by omega
                        have hi2 : (k : Int) ≤ (k : Int) + 1 := by omega
                        by_cases hqk : q2 = k + 1
                        · have hdr : SB.drop (k + 1) = [] := List.drop_of_length_le (by omega)
                          subst hqk
                          rw [show SB.length - (k + 1) = 0 by omega] at HT2 M3 M4
                          go_wp2_with fail
                          as_aux_lemma =>
                            go_region_law (first | (refine step_append_at (w := (p.w.alloc (.cells #[] 43)).drew) (by rfl) _ _ _ (by rfl) p.w.heap.size 43 i0 (.agg #[.int .i64 0, .int .i64 0]) 2 16 Try.underlying28 hinf hz0 hz1 hz2 rfl (by decide) p.w.heap.size 0 0 [] (by rfl) HL0.out ⟨b, o, none⟩ k _ (prs (SB.take k)) (by rfl) HT1.out HN1.out (prs_one _) M1.out M2.out hz0p ?_; intro ga capa wa own3 grow3; rw [Nat.zero_add] at own3) | (refine step_append_at (w := wa) (by rfl) _ _ _ (by rfl) p.w.heap.size 43 i0 (.agg #[.int .i64 0, .int .i64 0]) 2 16 Try.underlying28 hinf hz0 hz1 hz2 rfl (by decide) ga capa k ([] ++ prs (SB.take k)) (by rfl) own3 ⟨b, o, none⟩ 0 _ (prs (SB.drop (k + 1))) (by rfl) HT2.out (fun j u hj => by rw [hdr] at hj; simp [prs] at hj) (prs_one _) M3.out M4.out (Nat.le_trans hz0p grow3.size) ?_; intro gb capb wb own4 grow4; rw [Nat.add_zero] at own4) | fail)
                            simp only [Act.put, List.getElem_toArray, List.getElem_cons_succ, List.getElem_cons_zero, List.setIfInBounds_toArray, List.set_cons_zero, List.set_cons_succ]
                            obtain ⟨q, hqw, HRQ⟩ := cut_done p own3 own4 grow3 grow4 (by omega)
                            subst hqw
                            clear own3 own4 grow3 grow4 HN1 HL0 HT1 HT2 M1 M2 M3 M4 hz0p
                            have HRH := Lib.hid HRQ
                            clear HRQ
                            as_aux_lemma =>
                              obtain ⟨bi, oi, rfl, hbi, hci⟩ : ∃ bi oi, p3 = some ⟨bi, oi, none⟩ ∧ bi < w3.heap.size ∧ ∀ p : Past W4, p.w.cell? ⟨bi, oi + k, none⟩ = some (.int .i64 (PI.getD k 0)) := by
                                obtain ⟨_, a', c', hv, hcells⟩ := R4_3.out
                                injection hv with e1 e2 e3
                                subst e1
                                have hkp : k < PI.length := by have := HLN.out; omega
                                obtain ⟨b', o', h1, h2, h3⟩ := hcells (by intro h0; rw [List.map_eq_nil_iff] at h0; rw [h0] at hkp; simp at hkp)
                                exact ⟨b', o', h1, h2, fun p => Past.cell ((h3 k (by simp [ints]; exact hkp)).trans (ints_get PI k hkp)) (by show b' < _; have := hR4_3; omega) p⟩
                              have hfo := HFN.out k hlt
                              have hfi := HFI.out k hlt
                              have FO := Lib.hid fun z : Past q.w => z.of (spec_follows _ (SB.take k ++ SB.drop (k + 1)) (rl SB k) q.w.heap.size z.w (HRH.out.below z.h (Nat.le_refl _)) z.size)
                              rw [hfo] at FO
                              have c0 : ∀ z : Past q.w, z.w.cell? ⟨b, o + k * 2, none⟩ = some (.int .i64 (SB.getD k (0, 0)).1) := fun z => (hcs (up q z) k hlt).1
                              have c1 : ∀ z : Past q.w, z.w.cell? ⟨b, o + k * 2 + 1, none⟩ = some (.int .i64 (SB.getD k (0, 0)).2) := fun z => (hcs (up q z) k hlt).2
                              have c2 : ∀ z : Past q.w, z.w.cell? ⟨bi, oi + k, none⟩ = some (.int .i64 (PI.getD k 0)) := fun z => hci (up q z)
                              rw [← hfi] at c2
                              change Hid (∀ z : Past q.w, Calls _ _ #[_, mk (SB.getD k (0, 0))] _ _) at FO
                              change ∀ z : Past q.w, z.w.cell? _ = some (.int .i64 (SB.getD k (0, 0)).1) at c2
                              clear hfo hfi hci hcs
                              obtain ⟨r, hr⟩ : ∃ r, SB.getD k (0, 0) = r := ⟨_, rfl⟩
                              rw [hr] at FO
                              simp only [hr] at c0 c1 c2
                              clear hr
                              obtain ⟨x, y⟩ := r
                              simp only at c0 c1 c2
                              have hxx : (x != x) = false := by simp
                              have hkpi : (k : Int) < (PI.length : Int) := by have := HLN.out; omega
                              clear hi0 hi1 hi2 hwr htn hkq hkq1 hcapS
                              go_wp2_with fail
                              refine wp_region_past (by kernel_rfl) (by kernel_rfl) ?_
                              repeat (go_big_quiet_step (first | with_reducible exact FO.out _))
                              refine wpQuiet_nil ?_
                              rintro _ ⟨z, rfl⟩
                              go_wp2_with fail
                              go_roundw
                              case rel => exact ⟨k + 1, by omega, by simp, up q z, rfl⟩
                              case measure => simp [intOf]; omega
                        · have hqk2 : ¬ k + 1 = q2 := fun h => hqk h.symm
                          go_wp2_with fail
                          as_aux_lemma =>
                            go_region_law (first | (refine step_append_at (w := (p.w.alloc (.cells #[] 43)).drew) (by rfl) _ _ _ (by rfl) p.w.heap.size 43 i0 (.agg #[.int .i64 0, .int .i64 0]) 2 16 Try.underlying28 hinf hz0 hz1 hz2 rfl (by decide) p.w.heap.size 0 0 [] (by rfl) HL0.out ⟨b, o, none⟩ k _ (prs (SB.take k)) (by rfl) HT1.out HN1.out (prs_one _) M1.out M2.out hz0p ?_; intro ga capa wa own3 grow3; rw [Nat.zero_add] at own3) | (refine step_append_at (w := wa) (by rfl) _ _ _ (by rfl) p.w.heap.size 43 i0 (.agg #[.int .i64 0, .int .i64 0]) 2 16 Try.underlying28 hinf hz0 hz1 hz2 rfl (by decide) ga capa k ([] ++ prs (SB.take k)) (by rfl) own3 ⟨b, o + (k + 1) * 2, none⟩ (SB.length - (k + 1)) _ (prs (SB.drop (k + 1))) (by rfl) HT2.out (cut_news (q := k + 1) (cells_grown (f := fun j => SB.getD j (0, 0)) (hcs (Past.drew (p.alloc (.cells #[] 43)))) grow3 (by show b < (p.w.alloc _).heap.size; simp; omega) (by intro he; injection he; omega)) drop_at) (prs_one _) M3.out M4.out (Nat.le_trans hz0p grow3.size) ?_; intro gb capb wb own4 grow4) | fail)
                            simp only [Act.put, List.getElem_toArray, List.getElem_cons_succ, List.getElem_cons_zero, List.setIfInBounds_toArray, List.set_cons_zero, List.set_cons_succ]
                            obtain ⟨q, hqw, HRQ⟩ := cut_done p own3 own4 grow3 grow4 (by omega)
                            subst hqw
                            clear own3 own4 grow3 grow4 HN1 HL0 HT1 HT2 M1 M2 M3 M4 hz0p
                            have HRH := Lib.hid HRQ
                            clear HRQ
                            as_aux_lemma =>
                              obtain ⟨bi, oi, rfl, hbi, hci⟩ : ∃ bi oi, p3 = some ⟨bi, oi, none⟩ ∧ bi < w3.heap.size ∧ ∀ p : Past W4, p.w.cell? ⟨bi, oi + k, none⟩ = some (.int .i64 (PI.getD k 0)) := by
                                obtain ⟨_, a', c', hv, hcells⟩ := R4_3.out
                                injection hv with e1 e2 e3
                                subst e1
                                have hkp : k < PI.length := by have := HLN.out; omega
                                obtain ⟨b', o', h1, h2, h3⟩ := hcells (by intro h0; rw [List.map_eq_nil_iff] at h0; rw [h0] at hkp; simp at hkp)
                                exact ⟨b', o', h1, h2, fun p => Past.cell ((h3 k (by simp [ints]; exact hkp)).trans (ints_get PI k hkp)) (by show b' < _; have := hR4_3; omega) p⟩
                              have hfo := HFN.out k hlt
                              have hfi := HFI.out k hlt
                              have FO := Lib.hid fun z : Past q.w => z.of (spec_follows _ (SB.take k ++ SB.drop (k + 1)) (rl SB k) q.w.heap.size z.w (HRH.out.below z.h (Nat.le_refl _)) z.size)
                              rw [hfo] at FO
                              have c0 : ∀ z : Past q.w, z.w.cell? ⟨b, o + k * 2, none⟩ = some (.int .i64 (SB.getD k (0, 0)).1) := fun z => (hcs (up q z) k hlt).1
                              have c1 : ∀ z : Past q.w, z.w.cell? ⟨b, o + k * 2 + 1, none⟩ = some (.int .i64 (SB.getD k (0, 0)).2) := fun z => (hcs (up q z) k hlt).2
                              have c2 : ∀ z : Past q.w, z.w.cell? ⟨bi, oi + k, none⟩ = some (.int .i64 (PI.getD k 0)) := fun z => hci (up q z)
                              rw [← hfi] at c2
                              change Hid (∀ z : Past q.w, Calls _ _ #[_, mk (SB.getD k (0, 0))] _ _) at FO
                              change ∀ z : Past q.w, z.w.cell? _ = some (.int .i64 (SB.getD k (0, 0)).1) at c2
                              clear hfo hfi hci hcs
                              obtain ⟨r, hr⟩ : ∃ r, SB.getD k (0, 0) = r := ⟨_, rfl⟩
                              rw [hr] at FO
                              simp only [hr] at c0 c1 c2
                              clear hr
                              obtain ⟨x, y⟩ := r
                              simp only at c0 c1 c2
                              have hxx : (x != x) = false := by simp
                              have hkpi : (k : Int) < (PI.length : Int) := by have := HLN.out; omega
                              clear hi0 hi1 hi2 hwr htn hkq hkq1 hcapS
                              go_wp2_with fail
                              refine wp_region_past (by kernel_rfl) (by kernel_rfl) ?_
                              repeat (go_big_quiet_step (first | with_reducible exact FO.out _))
                              refine wpQuiet_nil ?_
                              rintro _ ⟨z, rfl⟩
                              go_wp2_with fail
                              go_roundw
                              case rel => exact ⟨k + 1, by omega, by simp, up q z, rfl⟩
                              case measure => simp [intOf]; omega
                    · have HQB := Lib.hid (p.of (impl_isBase a1 _ _ r1 SB (max g1 w2.heap.size) p.w ((R4_1.out.below (Past.h p) hR4_1).mono (Nat.le_max_left g1 w2.heap.size)) ((R4_2.out.below (Past.h p) hR4_2).mono (Nat.le_max_right g1 w2.heap.size)) (Nat.max_le.2 ⟨(Past.len hR4_1 p), (Past.len hR4_2 p)⟩)))
                      rw [HIB.out] at HQB
                      have hqe : ((SB.length : Int) == (PI.length : Int)) = true := by have := HLN.out; simp; omega
                      have kw0 := k4_0 p
                      have kw1 := k4_1 p
                      go_wp2_with fail
                      refine HQB.out.mono ?_
                      rintro e _ ⟨rfl, z9, rfl⟩
                      have hbb := Past.below z9 Bw4.out
                      go_wp2_with fail
                      go_ret
                      exact ⟨rfl, hbb⟩
end Go.Proofs.Ythodmmckekgkdaa.LStem
