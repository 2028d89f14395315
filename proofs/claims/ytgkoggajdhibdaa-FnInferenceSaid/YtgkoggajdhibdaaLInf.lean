/-
  The law of inference: walk.
-/
import Derived.Test.YtgkoggajdhibdaaMrg6
import Derived.Test.YtgkoggajdhibdaaInfM
import Derived.Test.YtgkoggajdhibdaaMrg5
import Derived.Test.YtgkoggajdhibdaaMrg4
import Derived.Test.YtgkoggajdhibdaaMrg7
import Derived.Test.YtgkoggajdhibdaaMrg2
import Derived.Test.YtgkoggajdhibdaaLBig
import Derived.Deep.DeepCutAuto
namespace Go.Proofs.Ytgkoggajdhibdaa.LInf
open Go Go.RowKit Mem Sets Ctx Draw Tab Rule Stem Infer
set_option maxRecDepth 100000

theorem short_facts {n : Int} {l : List PInt} (h : areR n l = true) : equiv l (shortRules n l) = true ∧ equiv l (leftReduced n l) = true ∧ (shortRules n l).length ≤ l.length := by
  have h2 := areR_nn h
  obtain ⟨m, rfl⟩ := Int.eq_ofNat_of_zero_le h2.1
  rw [shortRules, if_pos h, leftReduced, if_pos h, Int.toNat_natCast]
  exact ⟨shortOf_equiv h, leftAll_equiv h, shortOf_short h⟩
theorem short_len (n : Int) (l : List PInt) : (shortRules n l).length ≤ 40 := by
  cases h : areR n l with
  | true => have := (short_facts h).2.2; have := (areR_nn h).2.2; omega
  | false => rw [shortRules, if_neg (by rw [h]; decide)]; exact Nat.zero_le _
theorem left_len (n : Int) (l : List PInt) : (leftReduced n l).length ≤ 40 := by
  unfold leftReduced
  split
  · rename_i h; rw [leftAll_len]; exact (areR_nn h).2.2
  · exact Nat.zero_le _
set_option maxHeartbeats 16000000 in
theorem walk (v : Value) (xs : List Int) (w : World) (hr : Reads w w.heap.size v (u8s xs)) (hx : ∀ j, j < xs.length → 0 ≤ xs.getD j 0 ∧ xs.getD j 0 ≤ 255) :
    Calls Try.prog 4 #[v] w fun e w' => e = .returned (.bool true) ∧ Below w.heap.size w w' := by
  have e0 : (u8s xs).length = xs.length := by simp [u8s]
  have HB := Lib.hid (LBig.isBig v (u8s xs) _ w hr)
  by_cases hlen : 1048576 < xs.length
  · have hd : decide (1048576 < (u8s xs).length) = true := by rw [e0]; simp; omega
    clear hr hx
    go_enter Try.func4, Try.ntmps4
    go_wp2_with fail
    refine HB.out.mono ?_
    rintro e w' ⟨rfl, hw⟩
    subst w'
    go_wp2_with fail
    go_ret
    exact ⟨rfl, Below.refl _ _⟩
  · have hd : decide (1048576 < (u8s xs).length) = false := by rw [e0]; simp; omega
    have HX := Lib.hid hx
    have hxn : xs.length ≤ 1048576 := by omega
    have Rcode_0 := Lib.hid hr
    have hcode_0 : w.heap.size ≤ w.heap.size := Nat.le_refl _
    have Bw_0 := Lib.hid (Below.refl w.heap.size w)
    clear hr hx e0
    go_enter Try.func4, Try.ntmps4
    go_wp2_with fail
    refine HB.out.mono ?_
    rintro e w' ⟨rfl, hw⟩
    subst w'
    clear HB hd hlen
    go_wp2_with fail
    refine (DrawProofOf v xs w.heap.size w Rcode_0.out hcode_0 HX.out hxn).mono ?_
    rintro e w1 ⟨u1, l1, ⟨x1, y1⟩, rfl, hl1, o1, b1⟩
    obtain ⟨p1, q1, rfl⟩ := o1.form
    go_upto_region 4 with fail
    have A1 : Below w1.heap.size w1 (w1.alloc (.cells #[.int .i64 x1, .int .i64 y1] 43)) := (Below.refl w1.heap.size w1).alloc (Nat.le_refl _) (.cells #[.int .i64 x1, .int .i64 y1] 43)
    have BX1 := BoxAt.new w1 43 #[.int .i64 x1, .int .i64 y1]
    have BV1 := b1.trans (A1.mono b1.size)
    have QA := o1.reads.below A1 (Nat.le_refl _)
    have zz1 : w1.heap.size < (w1.alloc (.cells #[.int .i64 x1, .int .i64 y1] 43)).heap.size := by simp
    clear b1 A1 o1
    generalize w1.alloc (.cells #[.int .i64 x1, .int .i64 y1] 43) = V1 at BX1 BV1 zz1 QA ⊢
    have S1 : w.heap.size ≤ V1.heap.size := (BV1).size
    have Rcode_1 := Lib.hid (Rcode_0.out.below (BV1) hcode_0)
    have hcode_1 : w.heap.size ≤ V1.heap.size := Nat.le_trans hcode_0 S1
    have Bw_1 := Lib.hid (Bw_0.out.trans ((BV1).mono hcode_0))
    have RA_1 := Lib.hid (QA)
    have hA_1 : w1.heap.size ≤ V1.heap.size := Nat.le_of_lt zz1
    have Xr_1 := Lib.hid (BX1)
    have zXr_1 : w1.heap.size < V1.heap.size := Xr_1.out.lt
    have c0r_1 : V1.cell? ⟨w1.heap.size, 0, none⟩ = some (.int .i64 x1) := Xr_1.out.cell 0
    have c1r_1 : V1.cell? ⟨w1.heap.size, 1, none⟩ = some (.int .i64 y1) := Xr_1.out.cell 1
    clear S1 Rcode_0 hcode_0 Bw_0
    clear BX1 BV1 zz1 QA
    obtain ⟨S, hS⟩ : ∃ x, proofOf l1 (x1, y1) = x := ⟨_, rfl⟩
    have ES := Lib.hid hS
    clear hS
    obtain ⟨ok, hok⟩ : ∃ x, follows l1 (x1, y1) = x := ⟨_, rfl⟩
    have EO := Lib.hid hok
    clear hok
    have hSl : S.length ≤ 256 := by rw [← ES.out]; exact proof_len _ _
    have F1 : Hid (ok = true → checkProof l1 (x1, y1) S = true) := Lib.hid fun h => by rw [← ES.out]; exact proof_right (by rw [EO.out]; exact h)
    have H := impl_proof _ l1 (x1, y1) w1.heap.size V1 RA_1.out hA_1
    rw [ES.out] at H
    rw [EO.out] at H
    have HH := Lib.hid H
    clear H
    go_wp2_with fail
    refine HH.out.mono ?_
    rintro e w2 ⟨u2, rfl, o2, b2⟩
    clear HH
    obtain ⟨p2, q2, rfl⟩ := o2.form
    have S2 : V1.heap.size ≤ w2.heap.size := (b2).size
    have Rcode_2 := Lib.hid (Rcode_1.out.below (b2) hcode_1)
    have hcode_2 : w.heap.size ≤ w2.heap.size := Nat.le_trans hcode_1 S2
    have Bw_2 := Lib.hid (Bw_1.out.trans ((b2).mono hcode_1))
    have RA_2 := Lib.hid (RA_1.out.below (b2) hA_1)
    have hA_2 : w1.heap.size ≤ w2.heap.size := Nat.le_trans hA_1 S2
    have Xr_2 := Lib.hid (Xr_1.out.below (b2) zXr_1)
    have zXr_2 : w1.heap.size < w2.heap.size := Nat.lt_of_lt_of_le zXr_1 S2
    have RS5_2 := Lib.hid (o2.reads)
    have hS5_2 : w2.heap.size ≤ w2.heap.size := Nat.le_refl _
    have c0r_2 : w2.cell? ⟨w1.heap.size, 0, none⟩ = some (.int .i64 x1) := Xr_2.out.cell 0
    have c1r_2 : w2.cell? ⟨w1.heap.size, 1, none⟩ = some (.int .i64 y1) := Xr_2.out.cell 1
    clear S2 Rcode_1 hcode_1 Bw_1 RA_1 hA_1 Xr_1 zXr_1 c0r_1 c1r_1
    clear o2 b2
    have H := spec_proof _ l1 (x1, y1) w1.heap.size w2 RA_2.out hA_2
    rw [ES.out] at H
    rw [EO.out] at H
    have HH := Lib.hid H
    clear H
    go_wp2_with fail
    refine HH.out.mono ?_
    rintro e w3 ⟨u3, rfl, o3, b3⟩
    clear HH
    obtain ⟨p3, q3, rfl⟩ := o3.form
    have S3 : w2.heap.size ≤ w3.heap.size := (b3).size
    have Rcode_3 := Lib.hid (Rcode_2.out.below (b3) hcode_2)
    have hcode_3 : w.heap.size ≤ w3.heap.size := Nat.le_trans hcode_2 S3
    have Bw_3 := Lib.hid (Bw_2.out.trans ((b3).mono hcode_2))
    have RA_3 := Lib.hid (RA_2.out.below (b3) hA_2)
    have hA_3 : w1.heap.size ≤ w3.heap.size := Nat.le_trans hA_2 S3
    have RS5_3 := Lib.hid (RS5_2.out.below (b3) hS5_2)
    have hS5_3 : w2.heap.size ≤ w3.heap.size := Nat.le_trans hS5_2 S3
    have Xr_3 := Lib.hid (Xr_2.out.below (b3) zXr_2)
    have zXr_3 : w1.heap.size < w3.heap.size := Nat.lt_of_lt_of_le zXr_2 S3
    have RS7_3 := Lib.hid (o3.reads)
    have hS7_3 : w3.heap.size ≤ w3.heap.size := Nat.le_refl _
    have c0r_3 : w3.cell? ⟨w1.heap.size, 0, none⟩ = some (.int .i64 x1) := Xr_3.out.cell 0
    have c1r_3 : w3.cell? ⟨w1.heap.size, 1, none⟩ = some (.int .i64 y1) := Xr_3.out.cell 1
    clear S3 Rcode_2 hcode_2 Bw_2 RA_2 hA_2 RS5_2 hS5_2 Xr_2 zXr_2 c0r_2 c1r_2
    clear o3 b3
    go_wp2_with fail
    refine (DrawCheckProof v xs w.heap.size w3 Rcode_3.out hcode_3 HX.out hxn).mono ?_
    rintro e w4 ⟨u4, l9, ⟨x4, y4⟩, us4, s11, rfl, hl9, hs11, o4, os4, b4⟩
    obtain ⟨p4, q4, rfl⟩ := o4.form
    obtain ⟨ps4, qs4, rfl⟩ := os4.form
    go_upto_region 7 with fail
    have A4 : Below w4.heap.size w4 (w4.alloc (.cells #[.int .i64 x4, .int .i64 y4] 43)) := (Below.refl w4.heap.size w4).alloc (Nat.le_refl _) (.cells #[.int .i64 x4, .int .i64 y4] 43)
    have BX4 := BoxAt.new w4 43 #[.int .i64 x4, .int .i64 y4]
    have BV4 := b4.trans (A4.mono b4.size)
    have QB9 := o4.reads.below A4 (Nat.le_refl _)
    have QL11 := os4.reads.below A4 (Nat.le_refl _)
    have zz4 : w4.heap.size < (w4.alloc (.cells #[.int .i64 x4, .int .i64 y4] 43)).heap.size := by simp
    clear b4 A4 o4 os4
    generalize w4.alloc (.cells #[.int .i64 x4, .int .i64 y4] 43) = V4 at BX4 BV4 zz4 QB9 QL11 ⊢
    have S4 : w3.heap.size ≤ V4.heap.size := (BV4).size
    have Rcode_4 := Lib.hid (Rcode_3.out.below (BV4) hcode_3)
    have hcode_4 : w.heap.size ≤ V4.heap.size := Nat.le_trans hcode_3 S4
    have Bw_4 := Lib.hid (Bw_3.out.trans ((BV4).mono hcode_3))
    have RA_4 := Lib.hid (RA_3.out.below (BV4) hA_3)
    have hA_4 : w1.heap.size ≤ V4.heap.size := Nat.le_trans hA_3 S4
    have RS5_4 := Lib.hid (RS5_3.out.below (BV4) hS5_3)
    have hS5_4 : w2.heap.size ≤ V4.heap.size := Nat.le_trans hS5_3 S4
    have RS7_4 := Lib.hid (RS7_3.out.below (BV4) hS7_3)
    have hS7_4 : w3.heap.size ≤ V4.heap.size := Nat.le_trans hS7_3 S4
    have Xr_4 := Lib.hid (Xr_3.out.below (BV4) zXr_3)
    have zXr_4 : w1.heap.size < V4.heap.size := Nat.lt_of_lt_of_le zXr_3 S4
    have RB9_4 := Lib.hid (QB9)
    have hB9_4 : w4.heap.size ≤ V4.heap.size := Nat.le_of_lt zz4
    have RL11_4 := Lib.hid (QL11)
    have hL11_4 : w4.heap.size ≤ V4.heap.size := Nat.le_of_lt zz4
    have Xb_4 := Lib.hid (BX4)
    have zXb_4 : w4.heap.size < V4.heap.size := Xb_4.out.lt
    have c0r_4 : V4.cell? ⟨w1.heap.size, 0, none⟩ = some (.int .i64 x1) := Xr_4.out.cell 0
    have c1r_4 : V4.cell? ⟨w1.heap.size, 1, none⟩ = some (.int .i64 y1) := Xr_4.out.cell 1
    have c0b_4 : V4.cell? ⟨w4.heap.size, 0, none⟩ = some (.int .i64 x4) := Xb_4.out.cell 0
    have c1b_4 : V4.cell? ⟨w4.heap.size, 1, none⟩ = some (.int .i64 y4) := Xb_4.out.cell 1
    clear S4 Rcode_3 hcode_3 Bw_3 RA_3 hA_3 RS5_3 hS5_3 RS7_3 hS7_3 Xr_3 zXr_3 c0r_3 c1r_3
    clear BX4 BV4 zz4 QB9 QL11
    obtain ⟨cp, hcp⟩ : ∃ x, checkProof l9 (x4, y4) s11 = x := ⟨_, rfl⟩
    have EC := Lib.hid hcp
    clear hcp
    obtain ⟨fo, hfo⟩ : ∃ x, follows l9 (x4, y4) = x := ⟨_, rfl⟩
    have EFO := Lib.hid hfo
    clear hfo
    have F2 : Hid (cp = true → fo = true) := Lib.hid fun h => by rw [← EFO.out]; exact check_follows (by rw [EC.out]; exact h)
    as_aux_lemma =>
      go_wp2_with fail
      refine (DrawMinimalRules v xs w.heap.size V4 Rcode_4.out hcode_4 HX.out hxn).mono ?_
      rintro e w5 ⟨u5, l12, rfl, hl12, o5, b5⟩
      obtain ⟨p5, q5, rfl⟩ := o5.form
      have S5 : V4.heap.size ≤ w5.heap.size := (b5).size
      have Rcode_5 := Lib.hid (Rcode_4.out.below (b5) hcode_4)
      have hcode_5 : w.heap.size ≤ w5.heap.size := Nat.le_trans hcode_4 S5
      have Bw_5 := Lib.hid (Bw_4.out.trans ((b5).mono hcode_4))
      have RA_5 := Lib.hid (RA_4.out.below (b5) hA_4)
      have hA_5 : w1.heap.size ≤ w5.heap.size := Nat.le_trans hA_4 S5
      have RS5_5 := Lib.hid (RS5_4.out.below (b5) hS5_4)
      have hS5_5 : w2.heap.size ≤ w5.heap.size := Nat.le_trans hS5_4 S5
      have RS7_5 := Lib.hid (RS7_4.out.below (b5) hS7_4)
      have hS7_5 : w3.heap.size ≤ w5.heap.size := Nat.le_trans hS7_4 S5
      have RB9_5 := Lib.hid (RB9_4.out.below (b5) hB9_4)
      have hB9_5 : w4.heap.size ≤ w5.heap.size := Nat.le_trans hB9_4 S5
      have RL11_5 := Lib.hid (RL11_4.out.below (b5) hL11_4)
      have hL11_5 : w4.heap.size ≤ w5.heap.size := Nat.le_trans hL11_4 S5
      have Xr_5 := Lib.hid (Xr_4.out.below (b5) zXr_4)
      have zXr_5 : w1.heap.size < w5.heap.size := Nat.lt_of_lt_of_le zXr_4 S5
      have Xb_5 := Lib.hid (Xb_4.out.below (b5) zXb_4)
      have zXb_5 : w4.heap.size < w5.heap.size := Nat.lt_of_lt_of_le zXb_4 S5
      have RX_5 := Lib.hid (o5.reads)
      have hX_5 : w5.heap.size ≤ w5.heap.size := Nat.le_refl _
      have c0r_5 : w5.cell? ⟨w1.heap.size, 0, none⟩ = some (.int .i64 x1) := Xr_5.out.cell 0
      have c1r_5 : w5.cell? ⟨w1.heap.size, 1, none⟩ = some (.int .i64 y1) := Xr_5.out.cell 1
      have c0b_5 : w5.cell? ⟨w4.heap.size, 0, none⟩ = some (.int .i64 x4) := Xb_5.out.cell 0
      have c1b_5 : w5.cell? ⟨w4.heap.size, 1, none⟩ = some (.int .i64 y4) := Xb_5.out.cell 1
      clear S5 Rcode_4 hcode_4 Bw_4 RA_4 hA_4 RS5_4 hS5_4 RS7_4 hS7_4 RB9_4 hB9_4 RL11_4 hL11_4 Xr_4 zXr_4 c0r_4 c1r_4 Xb_4 zXb_4 c0b_4 c1b_4
      clear o5 b5
      obtain ⟨M, hM⟩ : ∃ x, minimal l12 = x := ⟨_, rfl⟩
      have EM := Lib.hid hM
      clear hM
      have hMl : M.length ≤ 5 := by have := minimal_len l12; rw [EM.out] at this; omega
      have F3 : Hid (0 < M.length → equiv l12 M = true) := Lib.hid fun h => by rw [← EM.out] at h ⊢; exact minimal_equiv h
      have F4 : Hid (∀ i : Nat, redundant M (i : Int) = false) := Lib.hid fun i => by rw [redundant_nat, ← EM.out]; exact minimal_irr l12 i
      have H := impl_minimal _ _ l12 w5.heap.size w5 RX_5.out hX_5 (by omega)
      rw [EM.out] at H
      have HH := Lib.hid H
      clear H
      go_wp2_with fail
      refine HH.out.mono ?_
      rintro e w6 ⟨u6, rfl, o6, b6⟩
      clear HH
      obtain ⟨p6, q6, rfl⟩ := o6.form
      have hcapY := Infer.capP o6
      have S6 : w5.heap.size ≤ w6.heap.size := (b6).size
      have Rcode_6 := Lib.hid (Rcode_5.out.below (b6) hcode_5)
      have hcode_6 : w.heap.size ≤ w6.heap.size := Nat.le_trans hcode_5 S6
      have Bw_6 := Lib.hid (Bw_5.out.trans ((b6).mono hcode_5))
      have RA_6 := Lib.hid (RA_5.out.below (b6) hA_5)
      have hA_6 : w1.heap.size ≤ w6.heap.size := Nat.le_trans hA_5 S6
      have RS5_6 := Lib.hid (RS5_5.out.below (b6) hS5_5)
      have hS5_6 : w2.heap.size ≤ w6.heap.size := Nat.le_trans hS5_5 S6
      have RS7_6 := Lib.hid (RS7_5.out.below (b6) hS7_5)
      have hS7_6 : w3.heap.size ≤ w6.heap.size := Nat.le_trans hS7_5 S6
      have RB9_6 := Lib.hid (RB9_5.out.below (b6) hB9_5)
      have hB9_6 : w4.heap.size ≤ w6.heap.size := Nat.le_trans hB9_5 S6
      have RL11_6 := Lib.hid (RL11_5.out.below (b6) hL11_5)
      have hL11_6 : w4.heap.size ≤ w6.heap.size := Nat.le_trans hL11_5 S6
      have RX_6 := Lib.hid (RX_5.out.below (b6) hX_5)
      have hX_6 : w5.heap.size ≤ w6.heap.size := Nat.le_trans hX_5 S6
      have Xr_6 := Lib.hid (Xr_5.out.below (b6) zXr_5)
      have zXr_6 : w1.heap.size < w6.heap.size := Nat.lt_of_lt_of_le zXr_5 S6
      have Xb_6 := Lib.hid (Xb_5.out.below (b6) zXb_5)
      have zXb_6 : w4.heap.size < w6.heap.size := Nat.lt_of_lt_of_le zXb_5 S6
      have RY_6 := Lib.hid (o6.reads)
      have hY_6 : w6.heap.size ≤ w6.heap.size := Nat.le_refl _
      have c0r_6 : w6.cell? ⟨w1.heap.size, 0, none⟩ = some (.int .i64 x1) := Xr_6.out.cell 0
      have c1r_6 : w6.cell? ⟨w1.heap.size, 1, none⟩ = some (.int .i64 y1) := Xr_6.out.cell 1
      have c0b_6 : w6.cell? ⟨w4.heap.size, 0, none⟩ = some (.int .i64 x4) := Xb_6.out.cell 0
      have c1b_6 : w6.cell? ⟨w4.heap.size, 1, none⟩ = some (.int .i64 y4) := Xb_6.out.cell 1
      clear S6 Rcode_5 hcode_5 Bw_5 RA_5 hA_5 RS5_5 hS5_5 RS7_5 hS7_5 RB9_5 hB9_5 RL11_5 hL11_5 RX_5 hX_5 Xr_5 zXr_5 c0r_5 c1r_5 Xb_5 zXb_5 c0b_5 c1b_5
      clear o6 b6
      go_wp2_with fail
      refine (DrawShortRules v xs w.heap.size w6 Rcode_6.out hcode_6 HX.out hxn).mono ?_
      rintro e w7 ⟨n, u7, l15, rfl, hl15, o7, b7⟩
      obtain ⟨p7, q7, rfl⟩ := o7.form
      have S7 : w6.heap.size ≤ w7.heap.size := (b7).size
      have Rcode_7 := Lib.hid (Rcode_6.out.below (b7) hcode_6)
      have hcode_7 : w.heap.size ≤ w7.heap.size := Nat.le_trans hcode_6 S7
      have Bw_7 := Lib.hid (Bw_6.out.trans ((b7).mono hcode_6))
      have RA_7 := Lib.hid (RA_6.out.below (b7) hA_6)
      have hA_7 : w1.heap.size ≤ w7.heap.size := Nat.le_trans hA_6 S7
      have RS5_7 := Lib.hid (RS5_6.out.below (b7) hS5_6)
      have hS5_7 : w2.heap.size ≤ w7.heap.size := Nat.le_trans hS5_6 S7
      have RS7_7 := Lib.hid (RS7_6.out.below (b7) hS7_6)
      have hS7_7 : w3.heap.size ≤ w7.heap.size := Nat.le_trans hS7_6 S7
      have RB9_7 := Lib.hid (RB9_6.out.below (b7) hB9_6)
      have hB9_7 : w4.heap.size ≤ w7.heap.size := Nat.le_trans hB9_6 S7
      have RL11_7 := Lib.hid (RL11_6.out.below (b7) hL11_6)
      have hL11_7 : w4.heap.size ≤ w7.heap.size := Nat.le_trans hL11_6 S7
      have RX_7 := Lib.hid (RX_6.out.below (b7) hX_6)
      have hX_7 : w5.heap.size ≤ w7.heap.size := Nat.le_trans hX_6 S7
      have RY_7 := Lib.hid (RY_6.out.below (b7) hY_6)
      have hY_7 : w6.heap.size ≤ w7.heap.size := Nat.le_trans hY_6 S7
      have Xr_7 := Lib.hid (Xr_6.out.below (b7) zXr_6)
      have zXr_7 : w1.heap.size < w7.heap.size := Nat.lt_of_lt_of_le zXr_6 S7
      have Xb_7 := Lib.hid (Xb_6.out.below (b7) zXb_6)
      have zXb_7 : w4.heap.size < w7.heap.size := Nat.lt_of_lt_of_le zXb_6 S7
      have RU_7 := Lib.hid (o7.reads)
      have hU_7 : w7.heap.size ≤ w7.heap.size := Nat.le_refl _
      have c0r_7 : w7.cell? ⟨w1.heap.size, 0, none⟩ = some (.int .i64 x1) := Xr_7.out.cell 0
      have c1r_7 : w7.cell? ⟨w1.heap.size, 1, none⟩ = some (.int .i64 y1) := Xr_7.out.cell 1
      have c0b_7 : w7.cell? ⟨w4.heap.size, 0, none⟩ = some (.int .i64 x4) := Xb_7.out.cell 0
      have c1b_7 : w7.cell? ⟨w4.heap.size, 1, none⟩ = some (.int .i64 y4) := Xb_7.out.cell 1
      clear S7 Rcode_6 hcode_6 Bw_6 RA_6 hA_6 RS5_6 hS5_6 RS7_6 hS7_6 RB9_6 hB9_6 RL11_6 hL11_6 RX_6 hX_6 RY_6 hY_6 Xr_6 zXr_6 c0r_6 c1r_6 Xb_6 zXb_6 c0b_6 c1b_6
      clear o7 b7
      obtain ⟨SH, hSH⟩ : ∃ x, shortRules n l15 = x := ⟨_, rfl⟩
      have ESH := Lib.hid hSH
      clear hSH
      obtain ⟨LE, hLE⟩ : ∃ x, leftReduced n l15 = x := ⟨_, rfl⟩
      have EL := Lib.hid hLE
      clear hLE
      obtain ⟨fi, hfi⟩ : ∃ x, areR n l15 = x := ⟨_, rfl⟩
      have EF := Lib.hid hfi
      clear hfi
      have hSHl : SH.length ≤ 40 := by rw [← ESH.out]; exact short_len _ _
      have hLEl : LE.length ≤ 40 := by rw [← EL.out]; exact left_len _ _
      have F5 : Hid (fi = true → equiv l15 SH = true ∧ equiv l15 LE = true ∧ SH.length ≤ l15.length) := Lib.hid fun h => by rw [← ESH.out, ← EL.out]; exact short_facts (by rw [EF.out]; exact h)
      as_aux_lemma =>
        have H := impl_shortR n _ l15 w7.heap.size w7 RU_7.out hU_7
        rw [ESH.out] at H
        rw [EF.out] at H
        have HH := Lib.hid H
        clear H
        go_wp2_with fail
        refine HH.out.mono ?_
        rintro e w8 ⟨u8, rfl, o8, b8⟩
        clear HH
        obtain ⟨p8, q8, rfl⟩ := o8.form
        have S8 : w7.heap.size ≤ w8.heap.size := (b8).size
        have Rcode_8 := Lib.hid (Rcode_7.out.below (b8) hcode_7)
        have hcode_8 : w.heap.size ≤ w8.heap.size := Nat.le_trans hcode_7 S8
        have Bw_8 := Lib.hid (Bw_7.out.trans ((b8).mono hcode_7))
        have RA_8 := Lib.hid (RA_7.out.below (b8) hA_7)
        have hA_8 : w1.heap.size ≤ w8.heap.size := Nat.le_trans hA_7 S8
        have RS5_8 := Lib.hid (RS5_7.out.below (b8) hS5_7)
        have hS5_8 : w2.heap.size ≤ w8.heap.size := Nat.le_trans hS5_7 S8
        have RS7_8 := Lib.hid (RS7_7.out.below (b8) hS7_7)
        have hS7_8 : w3.heap.size ≤ w8.heap.size := Nat.le_trans hS7_7 S8
        have RB9_8 := Lib.hid (RB9_7.out.below (b8) hB9_7)
        have hB9_8 : w4.heap.size ≤ w8.heap.size := Nat.le_trans hB9_7 S8
        have RL11_8 := Lib.hid (RL11_7.out.below (b8) hL11_7)
        have hL11_8 : w4.heap.size ≤ w8.heap.size := Nat.le_trans hL11_7 S8
        have RX_8 := Lib.hid (RX_7.out.below (b8) hX_7)
        have hX_8 : w5.heap.size ≤ w8.heap.size := Nat.le_trans hX_7 S8
        have RY_8 := Lib.hid (RY_7.out.below (b8) hY_7)
        have hY_8 : w6.heap.size ≤ w8.heap.size := Nat.le_trans hY_7 S8
        have RU_8 := Lib.hid (RU_7.out.below (b8) hU_7)
        have hU_8 : w7.heap.size ≤ w8.heap.size := Nat.le_trans hU_7 S8
        have Xr_8 := Lib.hid (Xr_7.out.below (b8) zXr_7)
        have zXr_8 : w1.heap.size < w8.heap.size := Nat.lt_of_lt_of_le zXr_7 S8
        have Xb_8 := Lib.hid (Xb_7.out.below (b8) zXb_7)
        have zXb_8 : w4.heap.size < w8.heap.size := Nat.lt_of_lt_of_le zXb_7 S8
        have RV_8 := Lib.hid (o8.reads)
        have hV_8 : w8.heap.size ≤ w8.heap.size := Nat.le_refl _
        have c0r_8 : w8.cell? ⟨w1.heap.size, 0, none⟩ = some (.int .i64 x1) := Xr_8.out.cell 0
        have c1r_8 : w8.cell? ⟨w1.heap.size, 1, none⟩ = some (.int .i64 y1) := Xr_8.out.cell 1
        have c0b_8 : w8.cell? ⟨w4.heap.size, 0, none⟩ = some (.int .i64 x4) := Xb_8.out.cell 0
        have c1b_8 : w8.cell? ⟨w4.heap.size, 1, none⟩ = some (.int .i64 y4) := Xb_8.out.cell 1
        clear S8 Rcode_7 hcode_7 Bw_7 RA_7 hA_7 RS5_7 hS5_7 RS7_7 hS7_7 RB9_7 hB9_7 RL11_7 hL11_7 RX_7 hX_7 RY_7 hY_7 RU_7 hU_7 Xr_7 zXr_7 c0r_7 c1r_7 Xb_7 zXb_7 c0b_7 c1b_7
        clear o8 b8
        have H := spec_shortR n _ l15 w7.heap.size w8 RU_8.out hU_8
        rw [ESH.out] at H
        rw [EF.out] at H
        have HH := Lib.hid H
        clear H
        go_wp2_with fail
        refine HH.out.mono ?_
        rintro e w9 ⟨u9, rfl, o9, b9⟩
        clear HH
        obtain ⟨p9, q9, rfl⟩ := o9.form
        have S9 : w8.heap.size ≤ w9.heap.size := (b9).size
        have Rcode_9 := Lib.hid (Rcode_8.out.below (b9) hcode_8)
        have hcode_9 : w.heap.size ≤ w9.heap.size := Nat.le_trans hcode_8 S9
        have Bw_9 := Lib.hid (Bw_8.out.trans ((b9).mono hcode_8))
        have RA_9 := Lib.hid (RA_8.out.below (b9) hA_8)
        have hA_9 : w1.heap.size ≤ w9.heap.size := Nat.le_trans hA_8 S9
        have RS5_9 := Lib.hid (RS5_8.out.below (b9) hS5_8)
        have hS5_9 : w2.heap.size ≤ w9.heap.size := Nat.le_trans hS5_8 S9
        have RS7_9 := Lib.hid (RS7_8.out.below (b9) hS7_8)
        have hS7_9 : w3.heap.size ≤ w9.heap.size := Nat.le_trans hS7_8 S9
        have RB9_9 := Lib.hid (RB9_8.out.below (b9) hB9_8)
        have hB9_9 : w4.heap.size ≤ w9.heap.size := Nat.le_trans hB9_8 S9
        have RL11_9 := Lib.hid (RL11_8.out.below (b9) hL11_8)
        have hL11_9 : w4.heap.size ≤ w9.heap.size := Nat.le_trans hL11_8 S9
        have RX_9 := Lib.hid (RX_8.out.below (b9) hX_8)
        have hX_9 : w5.heap.size ≤ w9.heap.size := Nat.le_trans hX_8 S9
        have RY_9 := Lib.hid (RY_8.out.below (b9) hY_8)
        have hY_9 : w6.heap.size ≤ w9.heap.size := Nat.le_trans hY_8 S9
        have RU_9 := Lib.hid (RU_8.out.below (b9) hU_8)
        have hU_9 : w7.heap.size ≤ w9.heap.size := Nat.le_trans hU_8 S9
        have RV_9 := Lib.hid (RV_8.out.below (b9) hV_8)
        have hV_9 : w8.heap.size ≤ w9.heap.size := Nat.le_trans hV_8 S9
        have Xr_9 := Lib.hid (Xr_8.out.below (b9) zXr_8)
        have zXr_9 : w1.heap.size < w9.heap.size := Nat.lt_of_lt_of_le zXr_8 S9
        have Xb_9 := Lib.hid (Xb_8.out.below (b9) zXb_8)
        have zXb_9 : w4.heap.size < w9.heap.size := Nat.lt_of_lt_of_le zXb_8 S9
        have RWl_9 := Lib.hid (o9.reads)
        have hWl_9 : w9.heap.size ≤ w9.heap.size := Nat.le_refl _
        have c0r_9 : w9.cell? ⟨w1.heap.size, 0, none⟩ = some (.int .i64 x1) := Xr_9.out.cell 0
        have c1r_9 : w9.cell? ⟨w1.heap.size, 1, none⟩ = some (.int .i64 y1) := Xr_9.out.cell 1
        have c0b_9 : w9.cell? ⟨w4.heap.size, 0, none⟩ = some (.int .i64 x4) := Xb_9.out.cell 0
        have c1b_9 : w9.cell? ⟨w4.heap.size, 1, none⟩ = some (.int .i64 y4) := Xb_9.out.cell 1
        clear S9 Rcode_8 hcode_8 Bw_8 RA_8 hA_8 RS5_8 hS5_8 RS7_8 hS7_8 RB9_8 hB9_8 RL11_8 hL11_8 RX_8 hX_8 RY_8 hY_8 RU_8 hU_8 RV_8 hV_8 Xr_8 zXr_8 c0r_8 c1r_8 Xb_8 zXb_8 c0b_8 c1b_8
        clear o9 b9
        have H := impl_left n _ l15 w7.heap.size w9 RU_9.out hU_9
        rw [EL.out] at H
        rw [EF.out] at H
        have HH := Lib.hid H
        clear H
        go_wp2_with fail
        refine HH.out.mono ?_
        rintro e w10 ⟨u10, rfl, o10, b10⟩
        clear HH
        obtain ⟨p10, q10, rfl⟩ := o10.form
        have S10 : w9.heap.size ≤ w10.heap.size := (b10).size
        have Rcode_10 := Lib.hid (Rcode_9.out.below (b10) hcode_9)
        have hcode_10 : w.heap.size ≤ w10.heap.size := Nat.le_trans hcode_9 S10
        have Bw_10 := Lib.hid (Bw_9.out.trans ((b10).mono hcode_9))
        have RA_10 := Lib.hid (RA_9.out.below (b10) hA_9)
        have hA_10 : w1.heap.size ≤ w10.heap.size := Nat.le_trans hA_9 S10
        have RS5_10 := Lib.hid (RS5_9.out.below (b10) hS5_9)
        have hS5_10 : w2.heap.size ≤ w10.heap.size := Nat.le_trans hS5_9 S10
        have RS7_10 := Lib.hid (RS7_9.out.below (b10) hS7_9)
        have hS7_10 : w3.heap.size ≤ w10.heap.size := Nat.le_trans hS7_9 S10
        have RB9_10 := Lib.hid (RB9_9.out.below (b10) hB9_9)
        have hB9_10 : w4.heap.size ≤ w10.heap.size := Nat.le_trans hB9_9 S10
        have RL11_10 := Lib.hid (RL11_9.out.below (b10) hL11_9)
        have hL11_10 : w4.heap.size ≤ w10.heap.size := Nat.le_trans hL11_9 S10
        have RX_10 := Lib.hid (RX_9.out.below (b10) hX_9)
        have hX_10 : w5.heap.size ≤ w10.heap.size := Nat.le_trans hX_9 S10
        have RY_10 := Lib.hid (RY_9.out.below (b10) hY_9)
        have hY_10 : w6.heap.size ≤ w10.heap.size := Nat.le_trans hY_9 S10
        have RU_10 := Lib.hid (RU_9.out.below (b10) hU_9)
        have hU_10 : w7.heap.size ≤ w10.heap.size := Nat.le_trans hU_9 S10
        have RV_10 := Lib.hid (RV_9.out.below (b10) hV_9)
        have hV_10 : w8.heap.size ≤ w10.heap.size := Nat.le_trans hV_9 S10
        have RWl_10 := Lib.hid (RWl_9.out.below (b10) hWl_9)
        have hWl_10 : w9.heap.size ≤ w10.heap.size := Nat.le_trans hWl_9 S10
        have Xr_10 := Lib.hid (Xr_9.out.below (b10) zXr_9)
        have zXr_10 : w1.heap.size < w10.heap.size := Nat.lt_of_lt_of_le zXr_9 S10
        have Xb_10 := Lib.hid (Xb_9.out.below (b10) zXb_9)
        have zXb_10 : w4.heap.size < w10.heap.size := Nat.lt_of_lt_of_le zXb_9 S10
        have RL_10 := Lib.hid (o10.reads)
        have hL_10 : w10.heap.size ≤ w10.heap.size := Nat.le_refl _
        have c0r_10 : w10.cell? ⟨w1.heap.size, 0, none⟩ = some (.int .i64 x1) := Xr_10.out.cell 0
        have c1r_10 : w10.cell? ⟨w1.heap.size, 1, none⟩ = some (.int .i64 y1) := Xr_10.out.cell 1
        have c0b_10 : w10.cell? ⟨w4.heap.size, 0, none⟩ = some (.int .i64 x4) := Xb_10.out.cell 0
        have c1b_10 : w10.cell? ⟨w4.heap.size, 1, none⟩ = some (.int .i64 y4) := Xb_10.out.cell 1
        clear S10 Rcode_9 hcode_9 Bw_9 RA_9 hA_9 RS5_9 hS5_9 RS7_9 hS7_9 RB9_9 hB9_9 RL11_9 hL11_9 RX_9 hX_9 RY_9 hY_9 RU_9 hU_9 RV_9 hV_9 RWl_9 hWl_9 Xr_9 zXr_9 c0r_9 c1r_9 Xb_9 zXb_9 c0b_9 c1b_9
        clear o10 b10
        have H := spec_left n _ l15 w7.heap.size w10 RU_10.out hU_10
        rw [EL.out] at H
        rw [EF.out] at H
        have HH := Lib.hid H
        clear H
        go_wp2_with fail
        refine HH.out.mono ?_
        rintro e w11 ⟨u11, rfl, o11, b11⟩
        clear HH
        obtain ⟨p11, q11, rfl⟩ := o11.form
        have S11 : w10.heap.size ≤ w11.heap.size := (b11).size
        have Rcode_11 := Lib.hid (Rcode_10.out.below (b11) hcode_10)
        have hcode_11 : w.heap.size ≤ w11.heap.size := Nat.le_trans hcode_10 S11
        have Bw_11 := Lib.hid (Bw_10.out.trans ((b11).mono hcode_10))
        have RA_11 := Lib.hid (RA_10.out.below (b11) hA_10)
        have hA_11 : w1.heap.size ≤ w11.heap.size := Nat.le_trans hA_10 S11
        have RS5_11 := Lib.hid (RS5_10.out.below (b11) hS5_10)
        have hS5_11 : w2.heap.size ≤ w11.heap.size := Nat.le_trans hS5_10 S11
        have RS7_11 := Lib.hid (RS7_10.out.below (b11) hS7_10)
        have hS7_11 : w3.heap.size ≤ w11.heap.size := Nat.le_trans hS7_10 S11
        have RB9_11 := Lib.hid (RB9_10.out.below (b11) hB9_10)
        have hB9_11 : w4.heap.size ≤ w11.heap.size := Nat.le_trans hB9_10 S11
        have RL11_11 := Lib.hid (RL11_10.out.below (b11) hL11_10)
        have hL11_11 : w4.heap.size ≤ w11.heap.size := Nat.le_trans hL11_10 S11
        have RX_11 := Lib.hid (RX_10.out.below (b11) hX_10)
        have hX_11 : w5.heap.size ≤ w11.heap.size := Nat.le_trans hX_10 S11
        have RY_11 := Lib.hid (RY_10.out.below (b11) hY_10)
        have hY_11 : w6.heap.size ≤ w11.heap.size := Nat.le_trans hY_10 S11
        have RU_11 := Lib.hid (RU_10.out.below (b11) hU_10)
        have hU_11 : w7.heap.size ≤ w11.heap.size := Nat.le_trans hU_10 S11
        have RV_11 := Lib.hid (RV_10.out.below (b11) hV_10)
        have hV_11 : w8.heap.size ≤ w11.heap.size := Nat.le_trans hV_10 S11
        have RWl_11 := Lib.hid (RWl_10.out.below (b11) hWl_10)
        have hWl_11 : w9.heap.size ≤ w11.heap.size := Nat.le_trans hWl_10 S11
        have RL_11 := Lib.hid (RL_10.out.below (b11) hL_10)
        have hL_11 : w10.heap.size ≤ w11.heap.size := Nat.le_trans hL_10 S11
        have Xr_11 := Lib.hid (Xr_10.out.below (b11) zXr_10)
        have zXr_11 : w1.heap.size < w11.heap.size := Nat.lt_of_lt_of_le zXr_10 S11
        have Xb_11 := Lib.hid (Xb_10.out.below (b11) zXb_10)
        have zXb_11 : w4.heap.size < w11.heap.size := Nat.lt_of_lt_of_le zXb_10 S11
        have RMm_11 := Lib.hid (o11.reads)
        have hMm_11 : w11.heap.size ≤ w11.heap.size := Nat.le_refl _
        have c0r_11 : w11.cell? ⟨w1.heap.size, 0, none⟩ = some (.int .i64 x1) := Xr_11.out.cell 0
        have c1r_11 : w11.cell? ⟨w1.heap.size, 1, none⟩ = some (.int .i64 y1) := Xr_11.out.cell 1
        have c0b_11 : w11.cell? ⟨w4.heap.size, 0, none⟩ = some (.int .i64 x4) := Xb_11.out.cell 0
        have c1b_11 : w11.cell? ⟨w4.heap.size, 1, none⟩ = some (.int .i64 y4) := Xb_11.out.cell 1
        clear S11 Rcode_10 hcode_10 Bw_10 RA_10 hA_10 RS5_10 hS5_10 RS7_10 hS7_10 RB9_10 hB9_10 RL11_10 hL11_10 RX_10 hX_10 RY_10 hY_10 RU_10 hU_10 RV_10 hV_10 RWl_10 hWl_10 RL_10 hL_10 Xr_10 zXr_10 c0r_10 c1r_10 Xb_10 zXb_10 c0b_10 c1b_10
        clear o11 b11
        as_aux_lemma =>
          go_wp2_with fail
          refine (DrawAreEquivalent v xs w.heap.size w11 Rcode_11.out hcode_11 HX.out hxn).mono ?_
          rintro e w12 ⟨u12, l24, v12, l25, rfl, hl24, hl25, o12, ov12, b12⟩
          obtain ⟨p12, q12, rfl⟩ := o12.form
          obtain ⟨pv12, qv12, rfl⟩ := ov12.form
          have S12 : w11.heap.size ≤ w12.heap.size := (b12).size
          have Rcode_12 := Lib.hid (Rcode_11.out.below (b12) hcode_11)
          have hcode_12 : w.heap.size ≤ w12.heap.size := Nat.le_trans hcode_11 S12
          have Bw_12 := Lib.hid (Bw_11.out.trans ((b12).mono hcode_11))
          have RA_12 := Lib.hid (RA_11.out.below (b12) hA_11)
          have hA_12 : w1.heap.size ≤ w12.heap.size := Nat.le_trans hA_11 S12
          have RS5_12 := Lib.hid (RS5_11.out.below (b12) hS5_11)
          have hS5_12 : w2.heap.size ≤ w12.heap.size := Nat.le_trans hS5_11 S12
          have RS7_12 := Lib.hid (RS7_11.out.below (b12) hS7_11)
          have hS7_12 : w3.heap.size ≤ w12.heap.size := Nat.le_trans hS7_11 S12
          have RB9_12 := Lib.hid (RB9_11.out.below (b12) hB9_11)
          have hB9_12 : w4.heap.size ≤ w12.heap.size := Nat.le_trans hB9_11 S12
          have RL11_12 := Lib.hid (RL11_11.out.below (b12) hL11_11)
          have hL11_12 : w4.heap.size ≤ w12.heap.size := Nat.le_trans hL11_11 S12
          have RX_12 := Lib.hid (RX_11.out.below (b12) hX_11)
          have hX_12 : w5.heap.size ≤ w12.heap.size := Nat.le_trans hX_11 S12
          have RY_12 := Lib.hid (RY_11.out.below (b12) hY_11)
          have hY_12 : w6.heap.size ≤ w12.heap.size := Nat.le_trans hY_11 S12
          have RU_12 := Lib.hid (RU_11.out.below (b12) hU_11)
          have hU_12 : w7.heap.size ≤ w12.heap.size := Nat.le_trans hU_11 S12
          have RV_12 := Lib.hid (RV_11.out.below (b12) hV_11)
          have hV_12 : w8.heap.size ≤ w12.heap.size := Nat.le_trans hV_11 S12
          have RWl_12 := Lib.hid (RWl_11.out.below (b12) hWl_11)
          have hWl_12 : w9.heap.size ≤ w12.heap.size := Nat.le_trans hWl_11 S12
          have RL_12 := Lib.hid (RL_11.out.below (b12) hL_11)
          have hL_12 : w10.heap.size ≤ w12.heap.size := Nat.le_trans hL_11 S12
          have RMm_12 := Lib.hid (RMm_11.out.below (b12) hMm_11)
          have hMm_12 : w11.heap.size ≤ w12.heap.size := Nat.le_trans hMm_11 S12
          have Xr_12 := Lib.hid (Xr_11.out.below (b12) zXr_11)
          have zXr_12 : w1.heap.size < w12.heap.size := Nat.lt_of_lt_of_le zXr_11 S12
          have Xb_12 := Lib.hid (Xb_11.out.below (b12) zXb_11)
          have zXb_12 : w4.heap.size < w12.heap.size := Nat.lt_of_lt_of_le zXb_11 S12
          have RP_12 := Lib.hid (o12.reads)
          have hP_12 : w12.heap.size ≤ w12.heap.size := Nat.le_refl _
          have RQ_12 := Lib.hid (ov12.reads)
          have hQ_12 : w12.heap.size ≤ w12.heap.size := Nat.le_refl _
          have c0r_12 : w12.cell? ⟨w1.heap.size, 0, none⟩ = some (.int .i64 x1) := Xr_12.out.cell 0
          have c1r_12 : w12.cell? ⟨w1.heap.size, 1, none⟩ = some (.int .i64 y1) := Xr_12.out.cell 1
          have c0b_12 : w12.cell? ⟨w4.heap.size, 0, none⟩ = some (.int .i64 x4) := Xb_12.out.cell 0
          have c1b_12 : w12.cell? ⟨w4.heap.size, 1, none⟩ = some (.int .i64 y4) := Xb_12.out.cell 1
          clear S12 Rcode_11 hcode_11 Bw_11 RA_11 hA_11 RS5_11 hS5_11 RS7_11 hS7_11 RB9_11 hB9_11 RL11_11 hL11_11 RX_11 hX_11 RY_11 hY_11 RU_11 hU_11 RV_11 hV_11 RWl_11 hWl_11 RL_11 hL_11 RMm_11 hMm_11 Xr_11 zXr_11 c0r_11 c1r_11 Xb_11 zXb_11 c0b_11 c1b_11
          clear o12 ov12 b12
          go_wp2_with fail
          refine (DrawIsRedundant v xs w.heap.size w12 Rcode_12.out hcode_12 HX.out hxn).mono ?_
          rintro e w13 ⟨u13, l26, kk, rfl, hl26, o13, b13⟩
          obtain ⟨p13, q13, rfl⟩ := o13.form
          have hcapD := Infer.capP o13
          have S13 : w12.heap.size ≤ w13.heap.size := (b13).size
          have Rcode_13 := Lib.hid (Rcode_12.out.below (b13) hcode_12)
          have hcode_13 : w.heap.size ≤ w13.heap.size := Nat.le_trans hcode_12 S13
          have Bw_13 := Lib.hid (Bw_12.out.trans ((b13).mono hcode_12))
          have RA_13 := Lib.hid (RA_12.out.below (b13) hA_12)
          have hA_13 : w1.heap.size ≤ w13.heap.size := Nat.le_trans hA_12 S13
          have RS5_13 := Lib.hid (RS5_12.out.below (b13) hS5_12)
          have hS5_13 : w2.heap.size ≤ w13.heap.size := Nat.le_trans hS5_12 S13
          have RS7_13 := Lib.hid (RS7_12.out.below (b13) hS7_12)
          have hS7_13 : w3.heap.size ≤ w13.heap.size := Nat.le_trans hS7_12 S13
          have RB9_13 := Lib.hid (RB9_12.out.below (b13) hB9_12)
          have hB9_13 : w4.heap.size ≤ w13.heap.size := Nat.le_trans hB9_12 S13
          have RL11_13 := Lib.hid (RL11_12.out.below (b13) hL11_12)
          have hL11_13 : w4.heap.size ≤ w13.heap.size := Nat.le_trans hL11_12 S13
          have RX_13 := Lib.hid (RX_12.out.below (b13) hX_12)
          have hX_13 : w5.heap.size ≤ w13.heap.size := Nat.le_trans hX_12 S13
          have RY_13 := Lib.hid (RY_12.out.below (b13) hY_12)
          have hY_13 : w6.heap.size ≤ w13.heap.size := Nat.le_trans hY_12 S13
          have RU_13 := Lib.hid (RU_12.out.below (b13) hU_12)
          have hU_13 : w7.heap.size ≤ w13.heap.size := Nat.le_trans hU_12 S13
          have RV_13 := Lib.hid (RV_12.out.below (b13) hV_12)
          have hV_13 : w8.heap.size ≤ w13.heap.size := Nat.le_trans hV_12 S13
          have RWl_13 := Lib.hid (RWl_12.out.below (b13) hWl_12)
          have hWl_13 : w9.heap.size ≤ w13.heap.size := Nat.le_trans hWl_12 S13
          have RL_13 := Lib.hid (RL_12.out.below (b13) hL_12)
          have hL_13 : w10.heap.size ≤ w13.heap.size := Nat.le_trans hL_12 S13
          have RMm_13 := Lib.hid (RMm_12.out.below (b13) hMm_12)
          have hMm_13 : w11.heap.size ≤ w13.heap.size := Nat.le_trans hMm_12 S13
          have RP_13 := Lib.hid (RP_12.out.below (b13) hP_12)
          have hP_13 : w12.heap.size ≤ w13.heap.size := Nat.le_trans hP_12 S13
          have RQ_13 := Lib.hid (RQ_12.out.below (b13) hQ_12)
          have hQ_13 : w12.heap.size ≤ w13.heap.size := Nat.le_trans hQ_12 S13
          have Xr_13 := Lib.hid (Xr_12.out.below (b13) zXr_12)
          have zXr_13 : w1.heap.size < w13.heap.size := Nat.lt_of_lt_of_le zXr_12 S13
          have Xb_13 := Lib.hid (Xb_12.out.below (b13) zXb_12)
          have zXb_13 : w4.heap.size < w13.heap.size := Nat.lt_of_lt_of_le zXb_12 S13
          have RD_13 := Lib.hid (o13.reads)
          have hD_13 : w13.heap.size ≤ w13.heap.size := Nat.le_refl _
          have c0r_13 : w13.cell? ⟨w1.heap.size, 0, none⟩ = some (.int .i64 x1) := Xr_13.out.cell 0
          have c1r_13 : w13.cell? ⟨w1.heap.size, 1, none⟩ = some (.int .i64 y1) := Xr_13.out.cell 1
          have c0b_13 : w13.cell? ⟨w4.heap.size, 0, none⟩ = some (.int .i64 x4) := Xb_13.out.cell 0
          have c1b_13 : w13.cell? ⟨w4.heap.size, 1, none⟩ = some (.int .i64 y4) := Xb_13.out.cell 1
          clear S13 Rcode_12 hcode_12 Bw_12 RA_12 hA_12 RS5_12 hS5_12 RS7_12 hS7_12 RB9_12 hB9_12 RL11_12 hL11_12 RX_12 hX_12 RY_12 hY_12 RU_12 hU_12 RV_12 hV_12 RWl_12 hWl_12 RL_12 hL_12 RMm_12 hMm_12 RP_12 hP_12 RQ_12 hQ_12 Xr_12 zXr_12 c0r_12 c1r_12 Xb_12 zXb_12 c0b_12 c1b_12
          clear o13 b13
          obtain ⟨eq, heq⟩ : ∃ x, equiv l24 l25 = x := ⟨_, rfl⟩
          have EE := Lib.hid heq
          clear heq
          obtain ⟨rd, hrd⟩ : ∃ x, redundant l26 kk = x := ⟨_, rfl⟩
          have ER := Lib.hid hrd
          clear hrd
          as_aux_lemma =>
            have k0r := fun p : Past w13 => Past.cell c0r_13 zXr_13 p
            have k1r := fun p : Past w13 => Past.cell c1r_13 zXr_13 p
            have k0b := fun p : Past w13 => Past.cell c0b_13 zXb_13 p
            have k1b := fun p : Past w13 => Past.cell c1b_13 zXb_13 p
            have K1 := Lib.hid fun p : Past w13 => p.of (sameU _ _ S w2.heap.size w3.heap.size p.w (RS5_13.out.below p.h hS5_13) (RS7_13.out.below p.h hS7_13) (Nat.le_trans hS5_13 p.size) (Nat.le_trans hS7_13 p.size) (by omega))
            have K2 := Lib.hid fun p : Past w13 => p.of (impl_check _ _ l9 s11 (x4, y4) (max w4.heap.size w4.heap.size) p.w ((RB9_13.out.below p.h hB9_13).mono (Nat.le_max_left _ _)) ((RL11_13.out.below p.h hL11_13).mono (Nat.le_max_right _ _)) (Nat.max_le.2 ⟨(Nat.le_trans hB9_13 p.size), (Nat.le_trans hL11_13 p.size)⟩))
            rw [EC.out] at K2
            have K3 := Lib.hid fun p : Past w13 => p.of (spec_check _ _ l9 s11 (x4, y4) (max w4.heap.size w4.heap.size) p.w ((RB9_13.out.below p.h hB9_13).mono (Nat.le_max_left _ _)) ((RL11_13.out.below p.h hL11_13).mono (Nat.le_max_right _ _)) (Nat.max_le.2 ⟨(Nat.le_trans hB9_13 p.size), (Nat.le_trans hL11_13 p.size)⟩))
            rw [EC.out] at K3
            have K4 := Lib.hid fun p : Past w13 => p.ofPairs (spec_minimal _ _ l12 w5.heap.size p.w (RX_13.out.below p.h hX_13) (Nat.le_trans hX_13 p.size) (by omega))
            rw [EM.out] at K4
            have K5 := Lib.hid fun p : Past w13 => p.of (sameR _ _ SH w8.heap.size w9.heap.size p.w (RV_13.out.below p.h hV_13) (RWl_13.out.below p.h hWl_13) (Nat.le_trans hV_13 p.size) (Nat.le_trans hWl_13 p.size) (by omega))
            have K6 := Lib.hid fun p : Past w13 => p.of (sameR _ _ LE w10.heap.size w11.heap.size p.w (RL_13.out.below p.h hL_13) (RMm_13.out.below p.h hMm_13) (Nat.le_trans hL_13 p.size) (Nat.le_trans hMm_13 p.size) (by omega))
            have K7 := Lib.hid fun p : Past w13 => p.of (impl_equiv _ _ l24 l25 (max w12.heap.size w12.heap.size) p.w ((RP_13.out.below p.h hP_13).mono (Nat.le_max_left _ _)) ((RQ_13.out.below p.h hQ_13).mono (Nat.le_max_right _ _)) (Nat.max_le.2 ⟨(Nat.le_trans hP_13 p.size), (Nat.le_trans hQ_13 p.size)⟩))
            rw [EE.out] at K7
            have K8 := Lib.hid fun p : Past w13 => p.of (spec_equiv _ _ l24 l25 (max w12.heap.size w12.heap.size) p.w ((RP_13.out.below p.h hP_13).mono (Nat.le_max_left _ _)) ((RQ_13.out.below p.h hQ_13).mono (Nat.le_max_right _ _)) (Nat.max_le.2 ⟨(Nat.le_trans hP_13 p.size), (Nat.le_trans hQ_13 p.size)⟩))
            rw [EE.out] at K8
            have K9 := Lib.hid fun p : Past w13 => p.of (impl_redundant _ _ l26 kk w13.heap.size p.w (RD_13.out.below p.h hD_13) (Nat.le_trans hD_13 p.size) hcapD (by omega))
            rw [ER.out] at K9
            have K10 := Lib.hid fun p : Past w13 => p.of (spec_redundant _ _ l26 kk w13.heap.size p.w (RD_13.out.below p.h hD_13) (Nat.le_trans hD_13 p.size) hcapD (by omega))
            rw [ER.out] at K10
            have hqok : (ok != ok) = false := by simp
            have hqcp : (cp != cp) = false := by simp
            have hqfi : (fi != fi) = false := by simp
            have hqeq : (eq != eq) = false := by simp
            have hqrd : (rd != rd) = false := by simp
            go_upto_region 16 with fail
            go_cut [163] (fun s163 wx => s163 = .bool false ∧ ∃ p : Past w13, wx = p.w)
            case first =>
              dsimp only [List.append]
              go_region_held3 (fun wx => wx.cell? ⟨w4.heap.size, 0, none⟩ = some (.int .i64 x4) ∧ wx.cell? ⟨w4.heap.size, 1, none⟩ = some (.int .i64 y4))
                (first | with_reducible exact ⟨k0b ((Past.start w13).drew), k1b ((Past.start w13).drew)⟩ | with_reducible exact ⟨k0b s1, k1b s1⟩ | with_reducible exact ⟨k0b s2, k1b s2⟩ | with_reducible exact ⟨k0b s3, k1b s3⟩ | with_reducible exact ⟨k0b s4, k1b s4⟩ | with_reducible exact ⟨k0b s5, k1b s5⟩ | with_reducible exact ⟨k0b s6, k1b s6⟩ | with_reducible exact ⟨k0b s7, k1b s7⟩ | with_reducible exact ⟨k0b s8, k1b s8⟩ | with_reducible exact ⟨k0b s9, k1b s9⟩ | with_reducible exact ⟨k0b s10, k1b s10⟩ | with_reducible exact ⟨k0b s11, k1b s11⟩ | fail)
                (first | (go_at_call 49; with_reducible refine (K1.out ((Past.start w13).drew)).mono ?_; rintro e _ ⟨rfl, s1, rfl⟩) | (go_at_call 50; with_reducible refine (K2.out s1).mono ?_; rintro e _ ⟨rfl, s2, rfl⟩) | (go_at_call 51; with_reducible refine (K3.out s2).mono ?_; rintro e _ ⟨rfl, s3, rfl⟩) | (go_at_call 52; with_reducible refine (K4.out s3).mono ?_; rintro e _ ⟨am, cm, rfl, s4, rfl, HM4⟩) | (go_at_call 22; with_reducible refine (s4.of (sameR _ _ M w6.heap.size s4.w.heap.size s4.w (RY_13.out.below s4.h hY_13) HM4 (Nat.le_trans hY_13 s4.size) (Nat.le_refl _) (by omega))).mono ?_; rintro e _ ⟨rfl, s5, rfl⟩) | (go_at_call 22; with_reducible refine (K5.out s5).mono ?_; rintro e _ ⟨rfl, s6, rfl⟩) | (go_at_call 22; with_reducible refine (K6.out s6).mono ?_; rintro e _ ⟨rfl, s7, rfl⟩) | (go_at_call 53; with_reducible refine (K7.out s7).mono ?_; rintro e _ ⟨rfl, s8, rfl⟩) | (go_at_call 54; with_reducible refine (K8.out s8).mono ?_; rintro e _ ⟨rfl, s9, rfl⟩) | (go_at_call 55; with_reducible refine (K9.out s9).mono ?_; rintro e _ ⟨rfl, s10, rfl⟩) | (go_at_call 56; with_reducible refine (K10.out s10).mono ?_; rintro e _ ⟨rfl, s11, rfl⟩) | fail)
              go_wp2_with fail
              go_meet
              exact ⟨rfl, s11, rfl⟩
            case rest =>
            obtain ⟨rfl, z12, rfl⟩ := hcut
            clear K1 K2 K4 K5 K6 K7 K8 K9 K10
            as_aux_lemma =>
              have J1 := Lib.hid fun p : Past w13 => p.of (impl_check _ _ l1 S (x1, y1) (max w1.heap.size w2.heap.size) p.w ((RA_13.out.below p.h hA_13).mono (Nat.le_max_left _ _)) ((RS5_13.out.below p.h hS5_13).mono (Nat.le_max_right _ _)) (Nat.max_le.2 ⟨(Nat.le_trans hA_13 p.size), (Nat.le_trans hS5_13 p.size)⟩))
              have J2 := Lib.hid fun p : Past w13 => p.of (spec_follows _ l9 (x4, y4) w4.heap.size p.w (RB9_13.out.below p.h hB9_13) (Nat.le_trans hB9_13 p.size))
              rw [EFO.out] at J2
              go_upto_region 18 with fail
              go_cut [183] (fun s183 wx => s183 = .bool false ∧ ∃ p : Past w13, wx = p.w)
              case first =>
                cases ok with
                | true =>
                  have hc1 := F1.out rfl
                  rw [hc1] at J1
                  clear hc1
                  have t0r := k0r z12
                  have t1r := k1r z12
                  go_wp2_with fail
                  refine (J1.out z12).mono ?_
                  rintro e _ ⟨rfl, z13, rfl⟩
                  have t0b := k0b z13
                  have t1b := k1b z13
                  cases cp with
                  | true =>
                    have hfo := F2.out rfl
                    subst hfo
                    go_wp2_with fail
                    refine (K3.out z13).mono ?_
                    rintro e _ ⟨rfl, y1, rfl⟩
                    have t0b := k0b y1
                    have t1b := k1b y1
                    go_wp2_with fail
                    refine (J2.out y1).mono ?_
                    rintro e _ ⟨rfl, y2, rfl⟩
                    go_wp2_with fail
                    go_meet
                    exact ⟨rfl, y2, rfl⟩
                  | false =>
                    go_wp2_with fail
                    refine (K3.out z13).mono ?_
                    rintro e _ ⟨rfl, y1, rfl⟩
                    go_wp2_with fail
                    go_meet
                    exact ⟨rfl, y1, rfl⟩
                | false =>
                  have t0b := k0b z12
                  have t1b := k1b z12
                  cases cp with
                  | true =>
                    have hfo := F2.out rfl
                    subst hfo
                    go_wp2_with fail
                    refine (K3.out z12).mono ?_
                    rintro e _ ⟨rfl, y1, rfl⟩
                    have t0b := k0b y1
                    have t1b := k1b y1
                    go_wp2_with fail
                    refine (J2.out y1).mono ?_
                    rintro e _ ⟨rfl, y2, rfl⟩
                    go_wp2_with fail
                    go_meet
                    exact ⟨rfl, y2, rfl⟩
                  | false =>
                    go_wp2_with fail
                    refine (K3.out z12).mono ?_
                    rintro e _ ⟨rfl, y1, rfl⟩
                    go_wp2_with fail
                    go_meet
                    exact ⟨rfl, y1, rfl⟩
              case rest =>
              obtain ⟨rfl, z14, rfl⟩ := hcut
              clear J1 J2 K3 F1 F2 hqok hqcp
              as_aux_lemma =>
                have J3 := Lib.hid fun p : Past w13 => p.of (impl_equiv _ _ l12 M (max w5.heap.size w6.heap.size) p.w ((RX_13.out.below p.h hX_13).mono (Nat.le_max_left _ _)) ((RY_13.out.below p.h hY_13).mono (Nat.le_max_right _ _)) (Nat.max_le.2 ⟨(Nat.le_trans hX_13 p.size), (Nat.le_trans hY_13 p.size)⟩))
                go_upto_region 20 with fail
                go_cut [192] (fun s192 wx => s192 = .bool false ∧ ∃ p : Past w13, wx = p.w)
                case first =>
                  by_cases hM0 : 0 < M.length
                  · have dM : decide ((0 : Int) < (M.length : Int)) = true := decide_eq_true (by omega)
                    have dM2 : decide (0 < M.length) = true := decide_eq_true hM0
                    have he := F3.out hM0
                    rw [he] at J3
                    clear he
                    go_wp2_with fail
                    refine (J3.out z14).mono ?_
                    rintro e _ ⟨rfl, z15, rfl⟩
                    go_wp2_with fail
                    go_meet
                    exact ⟨rfl, z15, rfl⟩
                  · have dM : decide ((0 : Int) < (M.length : Int)) = false := decide_eq_false (by omega)
                    have dM2 : decide (0 < M.length) = false := decide_eq_false (by omega)
                    go_wp2_with fail
                    go_meet
                    exact ⟨rfl, z14, rfl⟩
                case rest =>
                obtain ⟨rfl, z16, rfl⟩ := hcut
                clear J3 F3
                as_aux_lemma =>
                  have J4 := Lib.hid fun (p : Past w13) (i : Nat) => p.of (impl_redundant _ _ M (i : Int) w6.heap.size p.w (RY_13.out.below p.h hY_13) (Nat.le_trans hY_13 p.size) hcapY (by omega))
                  simp only [F4.out] at J4
                  have J5 := Lib.hid fun p : Past w13 => p.of (impl_equiv _ _ l15 SH (max w7.heap.size w8.heap.size) p.w ((RU_13.out.below p.h hU_13).mono (Nat.le_max_left _ _)) ((RV_13.out.below p.h hV_13).mono (Nat.le_max_right _ _)) (Nat.max_le.2 ⟨(Nat.le_trans hU_13 p.size), (Nat.le_trans hV_13 p.size)⟩))
                  have J6 := Lib.hid fun p : Past w13 => p.of (impl_equiv _ _ l15 LE (max w7.heap.size w10.heap.size) p.w ((RU_13.out.below p.h hU_13).mono (Nat.le_max_left _ _)) ((RL_13.out.below p.h hL_13).mono (Nat.le_max_right _ _)) (Nat.max_le.2 ⟨(Nat.le_trans hU_13 p.size), (Nat.le_trans hL_13 p.size)⟩))
                  go_wp2_with fail
                  go_loopw [28] (fun i wx => ∃ (k : Nat), k ≤ M.length ∧ i = .int .i64 k ∧ ∃ p : Past w13, wx = p.w) (fun i _ => M.length - (intOf i).toNat)
                  case atStart => exact ⟨0, Nat.zero_le _, rfl, z16, rfl⟩
                  case round =>
                    obtain ⟨k, hk, rfl, p, rfl⟩ := hrel
                    by_cases hlt : k < M.length
                    · go_wp2_with fail
                      refine (J4.out p k).mono ?_
                      rintro e _ ⟨rfl, p2, rfl⟩
                      go_wp2_with fail
                      go_roundw
                      case rel => exact ⟨k + 1, by omega, by simp, p2, rfl⟩
                      case measure => simp [intOf]; omega
                    · cases fi with
                      | false =>
                        have hbb := Bw_13.out.trans (p.h.mono hcode_13)
                        go_wp2_with fail
                        go_ret
                        exact ⟨rfl, hbb⟩
                      | true =>
                        obtain ⟨g1, g2, g3⟩ := F5.out rfl
                        rw [g1] at J5
                        rw [g2] at J6
                        have dL : decide ((SH.length : Int) ≤ (l15.length : Int)) = true := by simp; omega
                        have dL2 : decide (SH.length ≤ l15.length) = true := by simp; omega
                        clear g1 g2 g3
                        go_wp2_with fail
                        refine (J5.out p).mono ?_
                        rintro e _ ⟨rfl, y1, rfl⟩
                        go_wp2_with fail
                        refine (J6.out y1).mono ?_
                        rintro e _ ⟨rfl, y2, rfl⟩
                        have hbb := Bw_13.out.trans (y2.h.mono hcode_13)
                        go_wp2_with fail
                        go_ret
                        exact ⟨rfl, hbb⟩
end Go.Proofs.Ytgkoggajdhibdaa.LInf
