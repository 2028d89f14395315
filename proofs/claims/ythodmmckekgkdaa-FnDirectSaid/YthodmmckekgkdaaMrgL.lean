/-
  The laws' own helper: whether two lists of rules are the same.
-/
import Derived.Test.YthodmmckekgkdaaMrg2
import Derived.Test.YthodmmckekgkdaaPairs
import Derived.Test.YthodmmckekgkdaaRuleS
import Derived.Laws.StructEq
import Derived.Test.YthodmmckekgkdaaOwn
import Derived.Test.YthodmmckekgkdaaProg
import Derived.WalkKit
import Derived.Lib.Hide
import Derived.Test.YthodmmckekgkdaaMrgD
import Derived.Test.YthodmmckekgkdaaMrg9
import Derived.Deep.DeepCutAuto
namespace Go.Proofs.Ythodmmckekgkdaa.Mem
open Go Go.RowKit Ctx
set_option maxRecDepth 100000

theorem neqSelfR (x y : Int) (w : World) : (binOp .neq 43 (.agg #[.int .i64 x, .int .i64 y]) (.agg #[.int .i64 x, .int .i64 y])).run Try.prog w = .ok (.bool false) w := by
  rw [run_neq_struct, run_equalIn_agg w 9999 43 _ _ (by kernel_rfl) (by kernel_rfl)]
  have hf : (Try.prog.fieldsOf 43).toList.map (fun f => (f.name != "_", f.type, f.offset)) = [(true, 3, 0), (true, 3, 1)] := by kernel_rfl
  generalize (Try.prog.fieldsOf 43).toList = fs at hf
  rcases fs with _ | ⟨f, _ | ⟨g, _ | _⟩⟩
  · simp at hf
  · simp at hf
  · simp only [List.map_cons, List.map_nil, List.cons.injEq, Prod.mk.injEq, and_true] at hf
    obtain ⟨⟨h1, h2, h3⟩, h4, h5, h6⟩ := hf
    have h1' : f.name ≠ "_" := by simpa using h1
    have h4' : g.name ≠ "_" := by simpa using h4
    simp only [Op.eqFields, if_pos h1', if_pos h4', h2, h3, h5, h6]
    simp [go_sem]
  · simp at hf
set_option maxHeartbeats 1600000 in
theorem sameR (va vb : Value) (l : List PInt) (Ba Bb : Nat) (w : World) (ha : ReadsP w Ba va l) (hb : ReadsP w Bb vb l) (hBa : Ba ≤ w.heap.size) (hBb : Bb ≤ w.heap.size) (hm : l.length ≤ 1048576) :
    Calls Try.prog 16 #[va, vb] w fun e w' => e = .returned (.bool true) ∧ Below w.heap.size w w' := by
  obtain ⟨-, aa, ca, rfl, hca⟩ := ha
  obtain ⟨-, ab, cb, rfl, hcb⟩ := hb
  have HA := Lib.hid hca
  have HB := Lib.hid hcb
  clear hca hcb
  obtain ⟨n, hn⟩ : ∃ n, l.length = n := ⟨_, rfl⟩
  rw [hn] at HA HB hm ⊢
  have HN := Lib.hid hn
  clear hn
  have hq : ((n : Int) != (n : Int)) = false := by simp
  go_enter Try.func16, Try.ntmps16
  go_wp2_with fail
  go_loopw [5] (fun i wr => ∃ k : Nat, i = .int .i64 k ∧ k ≤ n ∧ Hid (Below w.heap.size w wr)) (fun i _ => n - (intOf i).toNat)
  case atStart => exact ⟨0, rfl, by omega, Lib.hid (Below.refl _ _)⟩
  case round =>
    obtain ⟨k, rfl, hk, hb⟩ := hrel
    by_cases hkn : k < n
    · have hne : l ≠ [] := fun e => by have h1 := congrArg List.length e; have h2 := HN.out; simp at h1; rw [h1] at h2; simp at h2; omega
      obtain ⟨b1, o1, rfl, hlt1, hc1⟩ := HA.out hne
      obtain ⟨b2, o2, rfl, hlt2, hc2⟩ := HB.out hne
      obtain ⟨a1, a2⟩ := hc1 k hkn
      obtain ⟨d1, d2⟩ := hc2 k hkn
      have a1 := (hb.out.cell (p := ⟨b1, o1 + k * 2, none⟩) (by show b1 < _; omega)).trans a1
      have a2 := (hb.out.cell (p := ⟨b1, o1 + k * 2 + 1, none⟩) (by show b1 < _; omega)).trans a2
      have d1 := (hb.out.cell (p := ⟨b2, o2 + k * 2, none⟩) (by show b2 < _; omega)).trans d1
      have d2 := (hb.out.cell (p := ⟨b2, o2 + k * 2 + 1, none⟩) (by show b2 < _; omega)).trans d2
      have hzr := hb.out.size
      generalize (l.getD k (0, 0)).1 = x at a1 d1
      generalize (l.getD k (0, 0)).2 = y at a2 d2
      have q1 := fun p : Past wr => Past.cell (W := wr) a1 (show b1 < wr.heap.size by omega) p
      have q2 := fun p : Past wr => Past.cell (W := wr) a2 (show b1 < wr.heap.size by omega) p
      have q3 := fun p : Past wr => Past.cell (W := wr) d1 (show b2 < wr.heap.size by omega) p
      have q4 := fun p : Past wr => Past.cell (W := wr) d2 (show b2 < wr.heap.size by omega) p
      have hy := neqSelfR x y
      clear a1 a2 d1 d2 hne hc1 hc2
      go_wp2_with fail
      refine wp_region_past (by kernel_rfl) (by kernel_rfl) ?_
      repeat (go_big_quiet_step (fail))
      refine wpQuiet_nil ?_
      rintro _ ⟨p, rfl⟩
      have hbb := Lib.hid (hb.out.trans (p.h.mono hzr))
      go_wp2_with fail
      exact ⟨⟨k + 1, by simp, by omega, hbb⟩, by simp only [intOf]; omega⟩
    · have hkn2 : k = n := by omega
      subst hkn2
      go_wp2_with fail
      go_ret
      exact ⟨rfl, hb.out⟩
end Go.Proofs.Ythodmmckekgkdaa.Mem

namespace Go.Proofs.Ythodmmckekgkdaa.LBig
open Go Go.RowKit Mem
set_option maxRecDepth 100000

theorem isBig (v : Value) (xs : List Value) (B : Nat) (w : World) (hr : Reads w B v xs) :
    Calls Try.prog 10 #[v] w fun e w' => e = .returned (.bool (decide (1048576 < xs.length))) ∧ w' = w := by
  obtain ⟨hl, a, ca, rfl, hca⟩ := hr
  clear hca
  go_enter Try.func10, Try.ntmps10
  go_wp2_with fail
  go_ret
  exact ⟨by
    have : decide ((1048576 : Int) < (xs.length : Int)) = decide (1048576 < xs.length) := by rw [decide_eq_decide]; omega
    rw [← this]; rfl, rfl⟩

end Go.Proofs.Ythodmmckekgkdaa.LBig

namespace Go.Proofs.Ythodmmckekgkdaa.LDir
open Go Go.RowKit Mem Sets Ctx Draw Tab Rule Stem Direct
set_option maxRecDepth 100000

theorem stem_le (a : Int) (rs : List Int) : (stemBase a rs).length ≤ (directBase a rs).length := by
  cases hc : isCtx a rs with
  | true => exact dir_stem_le hc
  | false => rw [stemBase, if_neg (by rw [hc]; decide)]; exact Nat.zero_le _
set_option maxHeartbeats 16000000 in
theorem walk (v : Value) (xs : List Int) (w : World) (hr : Reads w w.heap.size v (u8s xs)) (hx : ∀ j, j < xs.length → 0 ≤ xs.getD j 0 ∧ xs.getD j 0 ≤ 255) :
    Calls Try.prog 4 #[v] w fun e w' => e = .returned (.bool true) ∧ Below w.heap.size w w' := by
  have e0 : (u8s xs).length = xs.length := by simp [u8s]
  have HB := Lib.hid (LBig.isBig v (u8s xs) _ w hr)
  by_cases hlen : 1048576 < xs.length
  · have hd : decide (1048576 < (u8s xs).length) = true := by rw [e0]; simp; omega
    clear hr hx
    go_enter Try.func4, Try.ntmps4
    go_wp2_with fail
    refine HB.out.mono ?_
    rintro e w' ⟨rfl, hw⟩
    subst w'
    go_wp2_with fail
    go_ret
    exact ⟨rfl, Below.refl _ _⟩
  · have hd : decide (1048576 < (u8s xs).length) = false := by rw [e0]; simp; omega
    have HX := Lib.hid hx
    have hxn : xs.length ≤ 1048576 := by omega
    have Rcode_0 := Lib.hid hr
    have hcode_0 : w.heap.size ≤ w.heap.size := Nat.le_refl _
    have Bw_0 := Lib.hid (Below.refl w.heap.size w)
    clear hr hx e0
    go_enter Try.func4, Try.ntmps4
    go_wp2_with fail
    refine HB.out.mono ?_
    rintro e w' ⟨rfl, hw⟩
    subst w'
    clear HB hd hlen
    go_wp2_with fail
    refine (DrawDirectBase v xs w.heap.size w Rcode_0.out hcode_0 HX.out hxn).mono ?_
    rintro e w1 ⟨a, u1, r, rfl, hr9, o1, b1⟩
    obtain ⟨p1, q1, rfl⟩ := own_form o1
    go_upto_region 4 with fail
    have A1 : Below w1.heap.size w1 (w1.alloc (.cells #[.int .i64 a, .slice p1 r.length q1] 26)) := (Below.refl w1.heap.size w1).alloc (Nat.le_refl _) (.cells #[.int .i64 a, .slice p1 r.length q1] 26)
    have BX1 := BoxAt.new w1 26 #[.int .i64 a, .slice p1 r.length q1]
    have BV1 := b1.trans (A1.mono b1.size)
    have QC := o1.reads.below A1 (Nat.le_refl _)
    have zz1 : w1.heap.size < (w1.alloc (.cells #[.int .i64 a, .slice p1 r.length q1] 26)).heap.size := by simp
    clear b1 A1 o1
    generalize w1.alloc (.cells #[.int .i64 a, .slice p1 r.length q1] 26) = V1 at BX1 BV1 zz1 QC ⊢
    have S1 : w.heap.size ≤ V1.heap.size := (BV1).size
    have Rcode_1 := Lib.hid (Rcode_0.out.below (BV1) hcode_0)
    have hcode_1 : w.heap.size ≤ V1.heap.size := Nat.le_trans hcode_0 S1
    have Bw_1 := Lib.hid (Bw_0.out.trans ((BV1).mono hcode_0))
    have RC_1 := Lib.hid (QC)
    have hC_1 : w1.heap.size ≤ V1.heap.size := Nat.le_of_lt zz1
    have Xc_1 := Lib.hid (BX1)
    have zXc_1 : w1.heap.size < V1.heap.size := Xc_1.out.lt
    have c0c_1 : V1.cell? ⟨w1.heap.size, 0, none⟩ = some (.int .i64 a) := Xc_1.out.cell 0
    have c1c_1 : V1.cell? ⟨w1.heap.size, 1, none⟩ = some (.slice p1 r.length q1) := Xc_1.out.cell 1
    clear S1 Rcode_0 hcode_0 Bw_0
    clear BX1 BV1 zz1 QC
    obtain ⟨D, hD⟩ : ∃ x, directBase a r = x := ⟨_, rfl⟩
    have ED := Lib.hid hD
    clear hD
    obtain ⟨PR, hPR⟩ : ∃ x, properPremises a r = x := ⟨_, rfl⟩
    have EP := Lib.hid hPR
    clear hPR
    obtain ⟨SB, hSB⟩ : ∃ x, stemBase a r = x := ⟨_, rfl⟩
    have ES := Lib.hid hSB
    clear hSB
    have hPl : PR.length ≤ 64 := by rw [← EP.out]; exact prem_len a r
    have HDP : Hid (D.length = PR.length) := Lib.hid (by rw [← EP.out, ← ED.out]; exact base_prem_len a r)
    have hDl : D.length ≤ 64 := by rw [HDP.out]; exact hPl
    have hSD : SB.length ≤ D.length := by rw [← ES.out, ← ED.out]; exact stem_le a r
    have HDC := Lib.hid fun (hc : isCtx a r = true) (t : Nat) (ht : t < 2 ^ a.toNat) => dir_closure hc ht
    simp only [ED.out] at HDC
    have H := impl_direct a _ r w1.heap.size V1 RC_1.out hC_1
    rw [ED.out] at H
    have HH := Lib.hid H
    clear H
    go_wp2_with fail
    refine HH.out.mono ?_
    rintro e w2 ⟨u2, rfl, o2, b2⟩
    clear HH
    obtain ⟨p2, q2, rfl⟩ := o2.form
    have S2 : V1.heap.size ≤ w2.heap.size := (b2).size
    have Rcode_2 := Lib.hid (Rcode_1.out.below (b2) hcode_1)
    have hcode_2 : w.heap.size ≤ w2.heap.size := Nat.le_trans hcode_1 S2
    have Bw_2 := Lib.hid (Bw_1.out.trans ((b2).mono hcode_1))
    have RC_2 := Lib.hid (RC_1.out.below (b2) hC_1)
    have hC_2 : w1.heap.size ≤ w2.heap.size := Nat.le_trans hC_1 S2
    have Xc_2 := Lib.hid (Xc_1.out.below (b2) zXc_1)
    have zXc_2 : w1.heap.size < w2.heap.size := Nat.lt_of_lt_of_le zXc_1 S2
    have RD_2 := Lib.hid (o2.reads)
    have hD_2 : w2.heap.size ≤ w2.heap.size := Nat.le_refl _
    have c0c_2 : w2.cell? ⟨w1.heap.size, 0, none⟩ = some (.int .i64 a) := Xc_2.out.cell 0
    have c1c_2 : w2.cell? ⟨w1.heap.size, 1, none⟩ = some (.slice p1 r.length q1) := Xc_2.out.cell 1
    clear S2 Rcode_1 hcode_1 Bw_1 RC_1 hC_1 Xc_1 zXc_1 c0c_1 c1c_1
    clear o2 b2
    have H := impl_prem a _ r w1.heap.size w2 RC_2.out hC_2
    rw [EP.out] at H
    have HH := Lib.hid H
    clear H
    go_wp2_with fail
    refine HH.out.mono ?_
    rintro e w3 ⟨u3, rfl, o3, b3⟩
    clear HH
    obtain ⟨p3, q3, rfl⟩ := own_form o3
    have S3 : w2.heap.size ≤ w3.heap.size := (b3).size
    have Rcode_3 := Lib.hid (Rcode_2.out.below (b3) hcode_2)
    have hcode_3 : w.heap.size ≤ w3.heap.size := Nat.le_trans hcode_2 S3
    have Bw_3 := Lib.hid (Bw_2.out.trans ((b3).mono hcode_2))
    have RC_3 := Lib.hid (RC_2.out.below (b3) hC_2)
    have hC_3 : w1.heap.size ≤ w3.heap.size := Nat.le_trans hC_2 S3
    have RD_3 := Lib.hid (RD_2.out.below (b3) hD_2)
    have hD_3 : w2.heap.size ≤ w3.heap.size := Nat.le_trans hD_2 S3
    have Xc_3 := Lib.hid (Xc_2.out.below (b3) zXc_2)
    have zXc_3 : w1.heap.size < w3.heap.size := Nat.lt_of_lt_of_le zXc_2 S3
    have RP_3 := Lib.hid (o3.reads)
    have hP_3 : w3.heap.size ≤ w3.heap.size := Nat.le_refl _
    have c0c_3 : w3.cell? ⟨w1.heap.size, 0, none⟩ = some (.int .i64 a) := Xc_3.out.cell 0
    have c1c_3 : w3.cell? ⟨w1.heap.size, 1, none⟩ = some (.slice p1 r.length q1) := Xc_3.out.cell 1
    clear S3 Rcode_2 hcode_2 Bw_2 RC_2 hC_2 RD_2 hD_2 Xc_2 zXc_2 c0c_2 c1c_2
    clear o3 b3
    go_wp2_with fail
    refine (DrawOneStep v xs w.heap.size w3 Rcode_3.out hcode_3 HX.out hxn).mono ?_
    rintro e w4 ⟨u4, l4, s4, rfl, hl4, o4, b4⟩
    obtain ⟨p4, q4, rfl⟩ := o4.form
    have S4 : w3.heap.size ≤ w4.heap.size := (b4).size
    have Rcode_4 := Lib.hid (Rcode_3.out.below (b4) hcode_3)
    have hcode_4 : w.heap.size ≤ w4.heap.size := Nat.le_trans hcode_3 S4
    have Bw_4 := Lib.hid (Bw_3.out.trans ((b4).mono hcode_3))
    have RC_4 := Lib.hid (RC_3.out.below (b4) hC_3)
    have hC_4 : w1.heap.size ≤ w4.heap.size := Nat.le_trans hC_3 S4
    have RD_4 := Lib.hid (RD_3.out.below (b4) hD_3)
    have hD_4 : w2.heap.size ≤ w4.heap.size := Nat.le_trans hD_3 S4
    have RP_4 := Lib.hid (RP_3.out.below (b4) hP_3)
    have hP_4 : w3.heap.size ≤ w4.heap.size := Nat.le_trans hP_3 S4
    have Xc_4 := Lib.hid (Xc_3.out.below (b4) zXc_3)
    have zXc_4 : w1.heap.size < w4.heap.size := Nat.lt_of_lt_of_le zXc_3 S4
    have RL4_4 := Lib.hid (o4.reads)
    have hL4_4 : w4.heap.size ≤ w4.heap.size := Nat.le_refl _
    have c0c_4 : w4.cell? ⟨w1.heap.size, 0, none⟩ = some (.int .i64 a) := Xc_4.out.cell 0
    have c1c_4 : w4.cell? ⟨w1.heap.size, 1, none⟩ = some (.slice p1 r.length q1) := Xc_4.out.cell 1
    clear S4 Rcode_3 hcode_3 Bw_3 RC_3 hC_3 RD_3 hD_3 RP_3 hP_3 Xc_3 zXc_3 c0c_3 c1c_3
    clear o4 b4
    go_wp2_with fail
    refine (DrawIsDirect v xs w.heap.size w4 Rcode_4.out hcode_4 HX.out hxn).mono ?_
    rintro e w5 ⟨n5, u5, l5, rfl, -, -, hl5, o5, b5⟩
    obtain ⟨p5, q5, rfl⟩ := o5.form
    have S5 : w4.heap.size ≤ w5.heap.size := (b5).size
    have Rcode_5 := Lib.hid (Rcode_4.out.below (b5) hcode_4)
    have hcode_5 : w.heap.size ≤ w5.heap.size := Nat.le_trans hcode_4 S5
    have Bw_5 := Lib.hid (Bw_4.out.trans ((b5).mono hcode_4))
    have RC_5 := Lib.hid (RC_4.out.below (b5) hC_4)
    have hC_5 : w1.heap.size ≤ w5.heap.size := Nat.le_trans hC_4 S5
    have RD_5 := Lib.hid (RD_4.out.below (b5) hD_4)
    have hD_5 : w2.heap.size ≤ w5.heap.size := Nat.le_trans hD_4 S5
    have RP_5 := Lib.hid (RP_4.out.below (b5) hP_4)
    have hP_5 : w3.heap.size ≤ w5.heap.size := Nat.le_trans hP_4 S5
    have RL4_5 := Lib.hid (RL4_4.out.below (b5) hL4_4)
    have hL4_5 : w4.heap.size ≤ w5.heap.size := Nat.le_trans hL4_4 S5
    have Xc_5 := Lib.hid (Xc_4.out.below (b5) zXc_4)
    have zXc_5 : w1.heap.size < w5.heap.size := Nat.lt_of_lt_of_le zXc_4 S5
    have RL5_5 := Lib.hid (o5.reads)
    have hL5_5 : w5.heap.size ≤ w5.heap.size := Nat.le_refl _
    have c0c_5 : w5.cell? ⟨w1.heap.size, 0, none⟩ = some (.int .i64 a) := Xc_5.out.cell 0
    have c1c_5 : w5.cell? ⟨w1.heap.size, 1, none⟩ = some (.slice p1 r.length q1) := Xc_5.out.cell 1
    clear S5 Rcode_4 hcode_4 Bw_4 RC_4 hC_4 RD_4 hD_4 RP_4 hP_4 RL4_4 hL4_4 Xc_4 zXc_4 c0c_4 c1c_4
    clear o5 b5
    obtain ⟨os, hos⟩ : ∃ x, oneStep l4 s4 = x := ⟨_, rfl⟩
    have EO := Lib.hid hos
    clear hos
    obtain ⟨di, hdi⟩ : ∃ x, isDirect n5 l5 = x := ⟨_, rfl⟩
    have EI := Lib.hid hdi
    clear hdi
    as_aux_lemma =>
      have k0c := fun p : Past w5 => Past.cell c0c_5 zXc_5 p
      have k1c := fun p : Past w5 => Past.cell c1c_5 zXc_5 p
      have K1 := Lib.hid fun p : Past w5 => p.ofPairs (spec_direct a _ r w1.heap.size p.w (RC_5.out.below p.h hC_5) (Nat.le_trans hC_5 p.size))
      rw [ED.out] at K1
      have K3 := Lib.hid fun p : Past w5 => p.ofInts (spec_prem a _ r w1.heap.size p.w (RC_5.out.below p.h hC_5) (Nat.le_trans hC_5 p.size))
      rw [EP.out] at K3
      have K5 := Lib.hid fun p : Past w5 => p.of (impl_oneStep _ l4 s4 w4.heap.size p.w (RL4_5.out.below p.h hL4_5) (Nat.le_trans hL4_5 p.size) (by omega))
      rw [EO.out] at K5
      have K6 := Lib.hid fun p : Past w5 => p.of (spec_oneStep _ l4 s4 w4.heap.size p.w (RL4_5.out.below p.h hL4_5) (Nat.le_trans hL4_5 p.size))
      rw [EO.out] at K6
      have K7 := Lib.hid fun p : Past w5 => p.of (impl_isDirect n5 _ l5 w5.heap.size p.w (RL5_5.out.below p.h hL5_5) (Nat.le_trans hL5_5 p.size))
      rw [EI.out] at K7
      have K8 := Lib.hid fun p : Past w5 => p.of (spec_isDirect n5 _ l5 w5.heap.size p.w (RL5_5.out.below p.h hL5_5) (Nat.le_trans hL5_5 p.size))
      rw [EI.out] at K8
      have hqo : (os != os) = false := by simp
      have hqd : (di != di) = false := by simp
      have hqn : ((PR.length : Int) != (D.length : Int)) = false := by rw [HDP.out]; simp
      go_upto_region 8 with fail
      go_cut [65] (fun s65 wx => s65 = .bool false ∧ ∃ p : Past w5, wx = p.w)
      case first =>
        go_wp2_with fail
        refine (K1.out (Past.start w5)).mono ?_
        rintro e _ ⟨pq1, qq1, rfl, s1, rfl, hr1⟩
        go_wp2_with fail
        refine (s1.of (sameR _ _ D w2.heap.size s1.w.heap.size s1.w (RD_5.out.below s1.h hD_5) hr1 (Nat.le_trans hD_5 s1.size) (Nat.le_refl _) (by omega))).mono ?_
        rintro e _ ⟨rfl, s2, rfl⟩
        have t0 := k0c s2
        have t1 := k1c s2
        go_wp2_with fail
        refine (K3.out s2).mono ?_
        rintro e _ ⟨pq3, qq3, rfl, s3, rfl, hr3⟩
        go_wp2_with fail
        refine (s3.of (same_ _ _ PR w3.heap.size s3.w.heap.size s3.w (RP_5.out.below s3.h hP_5) hr3 (Nat.le_trans hP_5 s3.size) (Nat.le_refl _) (by omega))).mono ?_
        rintro e _ ⟨rfl, s4, rfl⟩
        go_wp2_with fail
        refine (K5.out s4).mono ?_
        rintro e _ ⟨rfl, s5, rfl⟩
        go_wp2_with fail
        refine (K6.out s5).mono ?_
        rintro e _ ⟨rfl, s6, rfl⟩
        go_wp2_with fail
        refine (K7.out s6).mono ?_
        rintro e _ ⟨rfl, s7, rfl⟩
        go_wp2_with fail
        refine (K8.out s7).mono ?_
        rintro e _ ⟨rfl, s8, rfl⟩
        go_wp2_with fail
        go_meet
        exact ⟨rfl, s8, rfl⟩
      case rest =>
      obtain ⟨rfl, z0, rfl⟩ := hcut
      clear K1 K3 K5 K6 K7 K8 hqo hqd hqn
      as_aux_lemma =>
        have HIC := Lib.hid fun p : Past w5 => p.of (spec_isCtx a _ r w1.heap.size p.w (RC_5.out.below p.h hC_5) (Nat.le_trans hC_5 p.size))
        have HST := Lib.hid fun p : Past w5 => p.ofPairs (spec_stem a _ r w1.heap.size p.w (RC_5.out.below p.h hC_5) (Nat.le_trans hC_5 p.size))
        rw [ES.out] at HST
        have hge : decide ((SB.length : Int) ≤ (D.length : Int)) = true := by simp; omega
        have hge2 : decide (SB.length ≤ D.length) = true := by simp; omega
        cases hic : isCtx a r with
        | false =>
          rw [hic] at HIC
          have HF := Lib.hid fun w => spec_full a w
          generalize full a = fa at HF
          clear HDC hic
          go_wp2_with fail
          go_loopw [10] (fun i wx => i = .int .i64 0 ∧ ∃ p : Past w5, wx = p.w) (fun _ _ => 0)
          case atStart => exact ⟨rfl, z0, rfl⟩
          case round =>
            obtain ⟨rfl, p, rfl⟩ := hrel
            have t0 := k0c p
            have t1 := k1c p
            obtain ⟨d, hd⟩ : ∃ d, decide ((0 : Int) ≤ fa) = d := ⟨_, rfl⟩
            cases d with
            | true =>
              go_wp2_with fail
              refine (HF.out _).mono ?_
              rintro e w' ⟨rfl, hw⟩
              subst w'
              go_wp2_with fail
              refine (HIC.out p).mono ?_
              rintro e _ ⟨rfl, p2, rfl⟩
              have t0 := k0c p2
              have t1 := k1c p2
              go_wp2_with fail
              refine (HST.out p2).mono ?_
              rintro e _ ⟨pq9, qq9, rfl, y1, rfl, hr9s⟩
              have hbb := Bw_5.out.trans (y1.h.mono hcode_5)
              go_wp2_with fail
              go_ret
              exact ⟨rfl, hbb⟩
            | false =>
              go_wp2_with fail
              refine (HF.out _).mono ?_
              rintro e w' ⟨rfl, hw⟩
              subst w'
              have t0 := k0c p
              have t1 := k1c p
              go_wp2_with fail
              refine (HST.out p).mono ?_
              rintro e _ ⟨pq9, qq9, rfl, y1, rfl, hr9s⟩
              have hbb := Bw_5.out.trans (y1.h.mono hcode_5)
              go_wp2_with fail
              go_ret
              exact ⟨rfl, hbb⟩
        | true =>
          rw [hic] at HIC
          have hp := isCtx_parts hic
          have hN1 : 1 ≤ 2 ^ a.toNat := Nat.pow_pos (by omega)
          have hN8 : 2 ^ a.toNat ≤ 256 := pow_le8 (by omega)
          have HF := Lib.hid fun w => spec_full a w
          rw [full_nat hp.1 (by omega)] at HF
          have HDD := Lib.hid (HDC.out hic)
          have HB := Lib.hid fun (p : Past w5) (t : Int) => p.of (impl_oneStep _ D t w2.heap.size p.w (RD_5.out.below p.h hD_5) (Nat.le_trans hD_5 p.size) (by omega))
          have HC := Lib.hid fun (p : Past w5) (t : Int) => p.of (spec_closure a _ r t w1.heap.size p.w (RC_5.out.below p.h hC_5) (Nat.le_trans hC_5 p.size))
          generalize 2 ^ a.toNat = N at hN1 hN8 HF HDD
          clear HDC hic hp
          go_wp2_with fail
          go_loopw [10] (fun i wx => ∃ (k : Nat), k ≤ N ∧ i = .int .i64 k ∧ ∃ p : Past w5, wx = p.w) (fun i _ => N - (intOf i).toNat)
          case atStart => exact ⟨0, Nat.zero_le _, rfl, z0, rfl⟩
          case round =>
            obtain ⟨k, hk, rfl, p, rfl⟩ := hrel
            have t0 := k0c p
            have t1 := k1c p
            by_cases hlt : k < N
            · have dk : decide ((k : Int) ≤ ((N - 1 : Nat) : Int)) = true := by simp; omega
              have dk2 : decide (k ≤ N - 1) = true := by simp; omega
              have HBk := Lib.hid fun q => HB.out q k
              have HCk := Lib.hid fun q => HC.out q k
              simp only [HDD.out k hlt] at HBk
              generalize closure a r (k : Int) = y at HBk HCk
              have hqy : (y != y) = false := by simp
              go_wp2_with fail
              refine (HF.out _).mono ?_
              rintro e w' ⟨rfl, hw⟩
              subst w'
              go_wp2_with fail
              refine (HIC.out p).mono ?_
              rintro e _ ⟨rfl, p2, rfl⟩
              go_wp2_with fail
              refine wp_region_pastIn p2 (by kernel_rfl) (by kernel_rfl) ?_
              repeat (go_big_quiet_step (first | with_reducible exact HBk.out _ | with_reducible exact HCk.out _))
              refine wpQuiet_nil ?_
              rintro _ ⟨p3, rfl⟩
              go_wp2_with fail
              go_roundw
              case rel => exact ⟨k + 1, by omega, by simp, p3, rfl⟩
              case measure => simp [intOf]; omega
            · have dk : decide ((k : Int) ≤ ((N - 1 : Nat) : Int)) = false := by simp; omega
              have dk2 : decide (k ≤ N - 1) = false := by simp; omega
              go_wp2_with fail
              refine (HF.out _).mono ?_
              rintro e w' ⟨rfl, hw⟩
              subst w'
              have t0 := k0c p
              have t1 := k1c p
              go_wp2_with fail
              refine (HST.out p).mono ?_
              rintro e _ ⟨pq9, qq9, rfl, y1, rfl, hr9s⟩
              have hbb := Bw_5.out.trans (y1.h.mono hcode_5)
              go_wp2_with fail
              go_ret
              exact ⟨rfl, hbb⟩
end Go.Proofs.Ythodmmckekgkdaa.LDir
