/-
  The law of arrows: walk.
-/
import Derived.Test.YtbpicpapkpomhaaDoorDrawA
import Derived.Test.YtbpicpapkpomhaaDoorArrP
import Derived.Test.YtbpicpapkpomhaaDoorArrU
import Derived.Test.YtbpicpapkpomhaaDoorSameT
import Derived.Test.YtbpicpapkpomhaaDoorLBig
import Derived.Deep.RegionHeld3
import Derived.Deep.DeepCutAuto
namespace Go.Proofs.YtbpicpapkpomhaaDoor.LArr
open Go Go.RowKit Mem Sets Ctx Draw Tab
set_option maxRecDepth 100000

theorem or_nat (m k : Nat) (hm : m < 256) (hk : k < 256) : bits .or .i64 (m : Int) (k : Int) = ((m ||| k : Nat) : Int) :=
  (bits_nat .i64 8 (by decide) (fun n h0 h1 => by rw [IntKind.wrap_i64]; omega) m k hm hk).2
set_option maxHeartbeats 16000000 in
theorem walk (v : Value) (xs : List Int) (w : World) (hr : Reads w w.heap.size v (u8s xs)) (hx : ∀ j, j < xs.length → 0 ≤ xs.getD j 0 ∧ xs.getD j 0 ≤ 255) (hs : Signs w) :
    Calls Tryd.prog 3 #[v] w fun e w' => e = .returned (.bool true) ∧ Below w.heap.size w w' := by
  have e0 : (u8s xs).length = xs.length := by simp [u8s]
  have HB := Lib.hid (LBig.isBig v (u8s xs) _ w hr)
  by_cases hlen : 1048576 < xs.length
  · have hd : decide (1048576 < (u8s xs).length) = true := by rw [e0]; simp; omega
    clear hr hx hs
    go_enter Tryd.func3, Tryd.ntmps3
    go_wp2_with fail
    refine HB.out.mono ?_
    rintro e w' ⟨rfl, hw⟩
    subst w'
    go_wp2_with fail
    go_ret
    exact ⟨rfl, Below.refl _ _⟩
  · have hd : decide (1048576 < (u8s xs).length) = false := by rw [e0]; simp; omega
    have HX := Lib.hid hx
    have HSG := Lib.hid hs
    have R0_0 := Lib.hid hr
    have hR0_0 : w.heap.size ≤ w.heap.size := Nat.le_refl _
    have Bw0 := Lib.hid (Below.refl w.heap.size w)
    clear hr hx hs e0
    go_enter Tryd.func3, Tryd.ntmps3
    go_wp2_with fail
    refine HB.out.mono ?_
    rintro e w' ⟨rfl, hw⟩
    subst w'
    clear HB hd
    go_wp2_with fail
    refine (DrawDownArrows v xs w.heap.size (Past.start w).w (Past.reads R0_0.out hR0_0 (Past.start w)) (Past.len hR0_0 (Past.start w)) HX.out (by omega)).mono ?_
    rintro e w1 ⟨a1, x1, u1, r1, rfl, hn1, o1, b1⟩
    obtain ⟨p1, q1, rfl⟩ := own_form o1
    have hA1 := (Below.refl w1.heap.size w1).alloc (Nat.le_refl _) (.cells #[.int .i64 a1, .slice p1 r1.length q1] 26)
    go_upto_region 4 with fail
    have hs1 : w1.heap.size < (w1.alloc (.cells #[.int .i64 a1, .slice p1 r1.length q1] 26)).heap.size := by simp
    have G1 := BoxAt.new w1 26 #[.int .i64 a1, .slice p1 r1.length q1]
    have bb1 := (Past.start w).h.trans ((b1.trans (hA1.mono b1.size)).mono (Past.start w).h.size)
    have sz1 := bb1.size
    have R1_0 := Lib.hid (R0_0.out.below bb1 hR0_0)
    have hR1_0 : w.heap.size ≤ (w1.alloc (.cells #[.int .i64 a1, .slice p1 r1.length q1] 26)).heap.size := Nat.le_trans hR0_0 sz1
    have Bw1 := Lib.hid (Bw0.out.trans (bb1.mono Bw0.out.size))
    have c1_0 : (w1.alloc (.cells #[.int .i64 a1, .slice p1 r1.length q1] 26)).cell? ⟨w1.heap.size, 0, none⟩ = some (.int .i64 a1) := G1.cell 0
    have hc1_0 : w1.heap.size < (w1.alloc (.cells #[.int .i64 a1, .slice p1 r1.length q1] 26)).heap.size := hs1
    have c1_1 : (w1.alloc (.cells #[.int .i64 a1, .slice p1 r1.length q1] 26)).cell? ⟨w1.heap.size, 1, none⟩ = some (.slice p1 r1.length q1) := G1.cell 1
    have hc1_1 : w1.heap.size < (w1.alloc (.cells #[.int .i64 a1, .slice p1 r1.length q1] 26)).heap.size := hs1
    have R1_1 := Lib.hid (o1.reads.below hA1 (Nat.le_refl _))
    have hR1_1 : w1.heap.size ≤ (w1.alloc (.cells #[.int .i64 a1, .slice p1 r1.length q1] 26)).heap.size := Nat.le_of_lt hs1
    generalize w1.alloc (.cells #[.int .i64 a1, .slice p1 r1.length q1] 26) = W1 at bb1 sz1 R1_0 hR1_0 Bw1 c1_0 hc1_0 c1_1 hc1_1 R1_1 hR1_1 ⊢
    clear bb1 sz1
    clear R0_0 hR0_0 Bw0 G1 o1 b1 hA1 hs1
    generalize w1.heap.size = g1 at *
    have k1_0 := fun p : Past W1 => Past.cell (W := W1) c1_0 hc1_0 p
    have k1_1 := fun p : Past W1 => Past.cell (W := W1) c1_1 hc1_1 p
    obtain ⟨d, hd⟩ : ∃ d, downOf a1 r1 x1 = d := ⟨_, rfl⟩
    obtain ⟨u, hu⟩ : ∃ u, upOf a1 r1 x1 = u := ⟨_, rfl⟩
    have hdl : d < 256 := by rw [← hd]; exact downOf_lt _ _ _
    have hul : u < 256 := by rw [← hu]; exact upOf_lt _ _ _
    have ED := Lib.hid hd
    have EU := Lib.hid hu
    clear hd hu
    have H1 := Lib.hid fun p : Past W1 => p.of (impl_down a1 _ r1 x1 g1 p.w (Past.reads R1_1.out hR1_1 p) (Past.len hR1_1 p))
    have H2 := Lib.hid fun p : Past W1 => p.of (impl_up a1 _ r1 x1 g1 p.w (Past.reads R1_1.out hR1_1 p) (Past.len hR1_1 p))
    rw [ED.out] at H1
    rw [EU.out] at H2
    go_wp2_with fail
    refine (H1.out (Past.start W1)).mono ?_
    rintro e _ ⟨rfl, z1, rfl⟩
    have kz0 := k1_0 z1
    have kz1 := k1_1 z1
    go_wp2_with fail
    refine (H2.out z1).mono ?_
    rintro e _ ⟨rfl, z2, rfl⟩
    clear H1 H2
    go_wp2_with fail
    refine (DrawArrowText v xs w.heap.size z2.w (Past.reads R1_0.out hR1_0 z2) (Past.len hR1_0 z2) HX.out (by omega)).mono ?_
    rintro e w2 ⟨a2, u2, r2, rfl, hn2, o2, b2⟩
    obtain ⟨p2, q2, rfl⟩ := own_form o2
    have hA2 := (Below.refl w2.heap.size w2).alloc (Nat.le_refl _) (.cells #[.int .i64 a2, .slice p2 r2.length q2] 26)
    go_upto_region 7 with fail
    have hs2 : w2.heap.size < (w2.alloc (.cells #[.int .i64 a2, .slice p2 r2.length q2] 26)).heap.size := by simp
    have G2 := BoxAt.new w2 26 #[.int .i64 a2, .slice p2 r2.length q2]
    have bb2 := z2.h.trans ((b2.trans (hA2.mono b2.size)).mono z2.h.size)
    have sz2 := bb2.size
    have c2_0 : (w2.alloc (.cells #[.int .i64 a2, .slice p2 r2.length q2] 26)).cell? ⟨g1, 0, none⟩ = some (.int .i64 a1) := (bb2.cell (p := ⟨g1, 0, none⟩) hc1_0).trans c1_0
    have hc2_0 : g1 < (w2.alloc (.cells #[.int .i64 a2, .slice p2 r2.length q2] 26)).heap.size := Nat.lt_of_lt_of_le hc1_0 sz2
    have c2_1 : (w2.alloc (.cells #[.int .i64 a2, .slice p2 r2.length q2] 26)).cell? ⟨g1, 1, none⟩ = some (.slice p1 r1.length q1) := (bb2.cell (p := ⟨g1, 1, none⟩) hc1_1).trans c1_1
    have hc2_1 : g1 < (w2.alloc (.cells #[.int .i64 a2, .slice p2 r2.length q2] 26)).heap.size := Nat.lt_of_lt_of_le hc1_1 sz2
    have R2_0 := Lib.hid (R1_0.out.below bb2 hR1_0)
    have hR2_0 : w.heap.size ≤ (w2.alloc (.cells #[.int .i64 a2, .slice p2 r2.length q2] 26)).heap.size := Nat.le_trans hR1_0 sz2
    have R2_1 := Lib.hid (R1_1.out.below bb2 hR1_1)
    have hR2_1 : g1 ≤ (w2.alloc (.cells #[.int .i64 a2, .slice p2 r2.length q2] 26)).heap.size := Nat.le_trans hR1_1 sz2
    have Bw2 := Lib.hid (Bw1.out.trans (bb2.mono Bw1.out.size))
    have c2_2 : (w2.alloc (.cells #[.int .i64 a2, .slice p2 r2.length q2] 26)).cell? ⟨w2.heap.size, 0, none⟩ = some (.int .i64 a2) := G2.cell 0
    have hc2_2 : w2.heap.size < (w2.alloc (.cells #[.int .i64 a2, .slice p2 r2.length q2] 26)).heap.size := hs2
    have c2_3 : (w2.alloc (.cells #[.int .i64 a2, .slice p2 r2.length q2] 26)).cell? ⟨w2.heap.size, 1, none⟩ = some (.slice p2 r2.length q2) := G2.cell 1
    have hc2_3 : w2.heap.size < (w2.alloc (.cells #[.int .i64 a2, .slice p2 r2.length q2] 26)).heap.size := hs2
    have R2_2 := Lib.hid (o2.reads.below hA2 (Nat.le_refl _))
    have hR2_2 : w2.heap.size ≤ (w2.alloc (.cells #[.int .i64 a2, .slice p2 r2.length q2] 26)).heap.size := Nat.le_of_lt hs2
    generalize w2.alloc (.cells #[.int .i64 a2, .slice p2 r2.length q2] 26) = W2 at bb2 sz2 c2_0 hc2_0 c2_1 hc2_1 R2_0 hR2_0 R2_1 hR2_1 Bw2 c2_2 hc2_2 c2_3 hc2_3 R2_2 hR2_2 ⊢
    clear bb2 sz2
    clear c1_0 c1_1 hc1_0 hc1_1 R1_0 R1_1 hR1_0 hR1_1 k1_0 k1_1 Bw1 G2 o2 b2 hA2 hs2
    generalize w2.heap.size = g2 at *
    have k2_0 := fun p : Past W2 => Past.cell (W := W2) c2_0 hc2_0 p
    have k2_1 := fun p : Past W2 => Past.cell (W := W2) c2_1 hc2_1 p
    have k2_2 := fun p : Past W2 => Past.cell (W := W2) c2_2 hc2_2 p
    have k2_3 := fun p : Past W2 => Past.cell (W := W2) c2_3 hc2_3 p
    have SG : Hid (Signs W2) := Lib.hid (HSG.out.below Bw2.out HSG.out.2)
    have SD := Lib.hid fun p : Past W2 => p.of (spec_down a1 _ r1 x1 g1 p.w (Past.reads R2_1.out hR2_1 p) (Past.len hR2_1 p))
    rw [ED.out] at SD
    have SU := Lib.hid fun p : Past W2 => p.of (spec_up a1 _ r1 x1 g1 p.w (Past.reads R2_1.out hR2_1 p) (Past.len hR2_1 p))
    rw [EU.out] at SU
    have ID := Lib.hid fun p : Past W2 => p.of (impl_double a1 _ r1 x1 g1 p.w (Past.reads R2_1.out hR2_1 p) (Past.len hR2_1 p))
    rw [ED.out] at ID
    rw [EU.out] at ID
    obtain ⟨T, hT⟩ : ∃ T, arrText a2 r2 = T := ⟨_, rfl⟩
    have hTl : T.length ≤ 8 := by rw [← hT]; exact arrText_small _ _
    have IT := Lib.hid fun p : Past W2 => p.ofStrs (impl_arrText a2 _ r2 g2 p.w (Past.reads R2_2.out hR2_2 p) (Past.len hR2_2 p) (SG.out.past p))
    rw [hT] at IT
    have ST := Lib.hid fun p : Past W2 => p.ofStrsB (spec_arrText a2 _ r2 g2 p.w (Past.reads R2_2.out hR2_2 p) (Past.len hR2_2 p))
    rw [hT] at ST
    clear hT
    obtain ⟨o, ho⟩ : ∃ x, irrO a1 r1 x1 = x := ⟨_, rfl⟩
    have Io := Lib.hid fun p : Past W2 => p.of (impl_irrO a1 _ r1 x1 g1 p.w (Past.reads R2_1.out hR2_1 p) (Past.len hR2_1 p))
    rw [ho] at Io
    have So := Lib.hid fun p : Past W2 => p.of (spec_irrO a1 _ r1 x1 g1 p.w (Past.reads R2_1.out hR2_1 p) (Past.len hR2_1 p))
    rw [ho] at So
    clear ho
    have hqo : (o != o) = false := by simp
    obtain ⟨t, ht⟩ : ∃ x, irrA a1 r1 x1 = x := ⟨_, rfl⟩
    have It := Lib.hid fun p : Past W2 => p.of (impl_irrA a1 _ r1 x1 g1 p.w (Past.reads R2_1.out hR2_1 p) (Past.len hR2_1 p))
    rw [ht] at It
    have St := Lib.hid fun p : Past W2 => p.of (spec_irrA a1 _ r1 x1 g1 p.w (Past.reads R2_1.out hR2_1 p) (Past.len hR2_1 p))
    rw [ht] at St
    clear ht
    have hqt : (t != t) = false := by simp
    have hqd : (((d : Nat) : Int) != ((d : Nat) : Int)) = false := by simp
    have hqu : (((u : Nat) : Int) != ((u : Nat) : Int)) = false := by simp
    have hqD : (((d &&& u : Nat) : Int) != bits .and .i64 ((d : Nat) : Int) ((u : Nat) : Int)) = false := by rw [and_nat _ _ hdl hul]; simp
    generalize d &&& u = du at ID hqD
    go_region_held3 (fun wx => wx.cell? ⟨g1, 0, none⟩ = some (.int .i64 a1) ∧ wx.cell? ⟨g1, 1, none⟩ = some (.slice p1 r1.length q1) ∧ wx.cell? ⟨g2, 0, none⟩ = some (.int .i64 a2) ∧ wx.cell? ⟨g2, 1, none⟩ = some (.slice p2 r2.length q2))
      (first | with_reducible exact ⟨k2_0 ((Past.start W2).drew), k2_1 ((Past.start W2).drew), k2_2 ((Past.start W2).drew), k2_3 ((Past.start W2).drew)⟩ | with_reducible exact ⟨k2_0 s1, k2_1 s1, k2_2 s1, k2_3 s1⟩ | with_reducible exact ⟨k2_0 s2, k2_1 s2, k2_2 s2, k2_3 s2⟩ | with_reducible exact ⟨k2_0 s3, k2_1 s3, k2_2 s3, k2_3 s3⟩ | with_reducible exact ⟨k2_0 s4, k2_1 s4, k2_2 s4, k2_3 s4⟩ | with_reducible exact ⟨k2_0 s5, k2_1 s5, k2_2 s5, k2_3 s5⟩ | with_reducible exact ⟨k2_0 s6, k2_1 s6, k2_2 s6, k2_3 s6⟩ | with_reducible exact ⟨k2_0 s7, k2_1 s7, k2_2 s7, k2_3 s7⟩ | with_reducible exact ⟨k2_0 s8, k2_1 s8, k2_2 s8, k2_3 s8⟩ | with_reducible exact ⟨k2_0 s9, k2_1 s9, k2_2 s9, k2_3 s9⟩ | with_reducible exact ⟨k2_0 s10, k2_1 s10, k2_2 s10, k2_3 s10⟩)
      (first | (go_at_call 10; with_reducible refine (SD.out ((Past.start W2).drew)).mono ?_; rintro e _ ⟨rfl, s1, rfl⟩) | (go_at_call 11; with_reducible refine (SU.out s1).mono ?_; rintro e _ ⟨rfl, s2, rfl⟩) | (go_at_call 12; with_reducible refine (ID.out s2).mono ?_; rintro e _ ⟨rfl, s3, rfl⟩) | (go_at_call 14; with_reducible refine (IT.out s3).mono ?_; rintro e _ ⟨pp1, cc1, rfl, s4, rfl, hs4⟩) | (go_at_call 15; with_reducible refine (ST.out s4).mono ?_; rintro e _ ⟨pp2, cc2, rfl, s5, rfl, hs5, bs5⟩) | (go_at_call 13; with_reducible refine (s5.of (sameT _ _ T s4.w.heap.size s5.w.heap.size s5.w (hs4.below bs5 (Nat.le_refl _)) hs5 bs5.size (Nat.le_refl _) (by omega))).mono ?_; rintro e _ ⟨rfl, s6, rfl⟩) | (go_at_call 16; with_reducible refine (Io.out s6).mono ?_; rintro e _ ⟨rfl, s7, rfl⟩) | (go_at_call 17; with_reducible refine (So.out s7).mono ?_; rintro e _ ⟨rfl, s8, rfl⟩) | (go_at_call 18; with_reducible refine (It.out s8).mono ?_; rintro e _ ⟨rfl, s9, rfl⟩) | (go_at_call 19; with_reducible refine (St.out s9).mono ?_; rintro e _ ⟨rfl, s10, rfl⟩) | fail)
    clear SD SU ID IT ST Io So It St hqd hqu hqD hqo hqt
    have ka2 := k2_2 s10
    have ka3 := k2_3 s10
    have HIC := Lib.hid fun p : Past W2 => p.of (spec_isCtx a2 _ r2 g2 p.w (Past.reads R2_2.out hR2_2 p) (Past.len hR2_2 p))
    go_wp2_with fail
    refine (HIC.out s10).mono ?_
    rintro e _ ⟨rfl, y1, rfl⟩
    have kb2 := k2_2 y1
    have kb3 := k2_3 y1
    cases hic : isCtx a2 r2 with
    | false =>
      clear hic
      have hbb := y1.below Bw2.out
      go_wp2_with fail
      go_ret
      exact ⟨rfl, hbb⟩
    | true =>
      have HC := Lib.hid hic
      have hp := isCtx_parts hic
      have h8 := hp.2.2.1
      have ha0 := hp.1
      have ha6 := hp.2.1
      have HUP := Lib.hid fun (p : Past W2) (k : Int) => p.of (impl_up a2 _ r2 k g2 p.w (Past.reads R2_2.out hR2_2 p) (Past.len hR2_2 p))
      have HDN := Lib.hid fun (p : Past W2) (k : Int) => p.of (impl_down a2 _ r2 k g2 p.w (Past.reads R2_2.out hR2_2 p) (Past.len hR2_2 p))
      have HDB := Lib.hid fun (p : Past W2) (k : Int) => p.of (impl_double a2 _ r2 k g2 p.w (Past.reads R2_2.out hR2_2 p) (Past.len hR2_2 p))
      have HIO := Lib.hid fun (p : Past W2) (k : Int) => p.of (impl_irrO a2 _ r2 k g2 p.w (Past.reads R2_2.out hR2_2 p) (Past.len hR2_2 p))
      have HIA := Lib.hid fun (p : Past W2) (k : Int) => p.of (impl_irrA a2 _ r2 k g2 p.w (Past.reads R2_2.out hR2_2 p) (Past.len hR2_2 p))
      have FO := Lib.hid fun (k : Nat) (hk : k < r2.length) => irrO_down hic hk
      have FD := Lib.hid fun (k : Nat) (hk : k < r2.length) => irrO_double hic hk
      have FA := Lib.hid fun (m : Nat) (hm : (m : Int) < a2) => irrA_some hic hm
      have FU : Hid (∀ k : Nat, k < r2.length → upOf a2 r2 k = upN a2 r2 k) := Lib.hid fun k hk => by rw [upOf, if_pos ⟨hic, by omega, by omega⟩, Int.toNat_natCast]
      have FS : Hid (∀ k, someTo a2 r2 (k + 1) = someTo a2 r2 k ||| upN a2 r2 k) := Lib.hid fun k => rfl
      have FZ : Hid (someTo a2 r2 0 = 0) := Lib.hid rfl
      have FL : Hid (∀ k, someTo a2 r2 k < 256) := Lib.hid fun k => Nat.lt_of_lt_of_le (someTo_lt a2 r2 k) (pow_le6 hic)
      have FUL := Lib.hid fun k : Int => upOf_lt a2 r2 k
      generalize someTo a2 r2 = sm at FA FS FZ FL
      clear hp hic
      go_wp2_with fail
      go_loopw [8, 9] (fun t i wx => ∃ k : Nat, k ≤ r2.length ∧ i = .int .i64 k ∧ t = .int .i64 ((sm k : Nat) : Int) ∧ ∃ p : Past W2, wx = p.w) (fun _ i _ => r2.length - (intOf i).toNat)
      case atStart => exact ⟨0, Nat.zero_le _, rfl, by rw [FZ.out]; rfl, y1, rfl⟩
      case round =>
        obtain ⟨k, hk, rfl, rfl, p, rfl⟩ := hrel
        have kp2 := k2_2 p
        have kp3 := k2_3 p
        by_cases hlt : k < r2.length
        · have HU1 := Lib.hid (HUP.out p k)
          have hor : Hid (bits .or .i64 ((sm k : Nat) : Int) ((upOf a2 r2 k : Nat) : Int) = ((sm (k + 1) : Nat) : Int)) := Lib.hid (by rw [or_nat _ _ (FL.out k) (FUL.out k), FU.out k hlt, ← FS.out])
          have h1 := FO.out k hlt
          have h2 := FD.out k hlt
          have HDk := Lib.hid fun p => HDN.out p k
          have HBk := Lib.hid fun p => HDB.out p k
          have HOk := Lib.hid fun p => HIO.out p k
          have hz : (((downOf a2 r2 k : Nat) : Int) != 0) = (downOf a2 r2 k != 0) := by rw [Bool.eq_iff_iff]; simp
          have hz2 : (((downOf a2 r2 k &&& upOf a2 r2 k : Nat) : Int) == 0) = decide (downOf a2 r2 k &&& upOf a2 r2 k = 0) := by rw [Bool.eq_iff_iff]; simp only [beq_iff_eq, decide_eq_true_eq]; omega
          rw [← h1] at hz
          generalize downOf a2 r2 k &&& upOf a2 r2 k = db at HBk h2 hz2
          generalize downOf a2 r2 k = dn at HDk hz
          generalize irrO a2 r2 k = o at HOk h2 hz
          clear h1
          go_wp2_with fail
          refine HU1.out.mono ?_
          rintro e _ ⟨rfl, p2, rfl⟩
          have HOR := hor.out
          generalize upOf a2 r2 k = up at HOR
          clear hor HU1
          cases o with
          | false =>
            clear h2 hz2
            go_wp2_with fail
            refine wp_region_pastIn p2 (by kernel_rfl) (by kernel_rfl) ?_
            repeat (go_big_quiet_step (first | with_reducible exact HOk.out _ | with_reducible exact HDk.out _ | with_reducible exact HBk.out _))
            refine wpQuiet_nil ?_
            rintro _ ⟨p3, rfl⟩
            go_wp2_with fail
            go_roundw
            case rel => exact ⟨k + 1, by omega, by simp, by rw [← HOR], p3, rfl⟩
            case measure => simp [intOf]; omega
          | true =>
            rw [decide_eq_false (h2 rfl)] at hz2
            clear h2
            go_wp2_with fail
            refine wp_region_pastIn p2 (by kernel_rfl) (by kernel_rfl) ?_
            repeat (go_big_quiet_step (first | with_reducible exact HOk.out _ | with_reducible exact HDk.out _ | with_reducible exact HBk.out _))
            refine wpQuiet_nil ?_
            rintro _ ⟨p3, rfl⟩
            go_wp2_with fail
            go_roundw
            case rel => exact ⟨k + 1, by omega, by simp, by rw [← HOR], p3, rfl⟩
            case measure => simp [intOf]; omega
        · have HKR := Lib.hid (show k = r2.length by omega)
          rw [HKR.out]
          have hsm := FL.out r2.length
          obtain ⟨SM, hSM⟩ : ∃ SM, sm r2.length = SM := ⟨_, rfl⟩
          rw [hSM] at hsm FA ⊢
          have FE : Hid (∀ m : Nat, (m : Int) < a2 → hasEl ((SM : Nat) : Int) (m : Int) = SM.testBit m) := Lib.hid fun m hm => hasEl_nat hsm (by omega)
          clear hSM FS FZ FL
          go_wp2_with fail
          go_loopw [10] (fun i wx => ∃ m : Nat, (m : Int) ≤ a2 ∧ i = .int .i64 m ∧ ∃ p : Past W2, wx = p.w) (fun i _ => a2.toNat - (intOf i).toNat)
          case atStart => exact ⟨0, by omega, rfl, p, rfl⟩
          case round =>
            obtain ⟨m, hm, rfl, p3, rfl⟩ := hrel
            have kt2 := k2_2 p3
            have kt3 := k2_3 p3
            by_cases hl2 : (m : Int) < a2
            · have HK := Lib.hid (HIA.out p3 m)
              rw [FA.out m hl2] at HK
              have HE := Lib.hid fun w => spec_hasEl ((SM : Nat) : Int) (m : Int) w
              rw [FE.out m hl2] at HE
              generalize SM.testBit m = t at HK HE
              have hq : (t != t) = false := by simp
              go_wp2_with fail
              refine HK.out.mono ?_
              rintro e _ ⟨rfl, p4, rfl⟩
              go_wp2_with fail
              refine (HE.out _).mono ?_
              rintro e w' ⟨rfl, hw⟩
              subst w'
              go_wp2_with fail
              go_roundw
              case rel => exact ⟨m + 1, by omega, by simp, p4, rfl⟩
              case measure => simp [intOf]; omega
            · have hbb := p3.below Bw2.out
              go_wp2_with fail
              go_ret
              exact ⟨rfl, hbb⟩
end Go.Proofs.YtbpicpapkpomhaaDoor.LArr
