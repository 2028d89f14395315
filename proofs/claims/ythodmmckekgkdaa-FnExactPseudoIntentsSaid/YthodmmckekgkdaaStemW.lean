/-
  Chapter 10 of the model: IsBase, IsShortest.
-/
import Derived.Test.YthodmmckekgkdaaStemV
namespace Go.Proofs.Ythodmmckekgkdaa.Stem
open Go Go.RowKit Mem Sets Ctx Tab Rule Lectic
set_option maxRecDepth 100000

theorem isBase_no {a : Int} {rs : List Int} {l : List PInt} (h : (isCtx a rs && areR a l) = false) : isBase a rs l = false := by rw [isBase, h]; rfl
theorem isBase_hold {a : Int} {rs : List Int} {l : List PInt} (h : l.all (holds a rs) = false) : isBase a rs l = false := by rw [isBase, h, Bool.and_false]; rfl
set_option maxHeartbeats 6400000 in
theorem spec_isBase (a : Int) (v vl : Value) (rs : List Int) (l : List PInt) (B : Nat) (w : World) (hr : Reads w B v (ints rs)) (h2 : ReadsP w B vl l) (hB : B ≤ w.heap.size) :
    Calls Try.prog 20 #[ctx a v, vl] w fun e w' => e = .returned (.bool (isBase a rs l)) ∧ Below w.heap.size w w' := by
  obtain ⟨aa, ca, rfl⟩ := reads_form hr
  have hW := (Below.refl w.heap.size w).alloc (Nat.le_refl _) (.cells #[.int .i64 a, .slice aa rs.length ca] 26)
  have HR1 := Lib.hid (hr.below hW hB)
  have HL1 := Lib.hid (h2.below hW hB)
  have q0 : (w.alloc (.cells #[.int .i64 a, .slice aa rs.length ca] 26)).cell? ⟨w.heap.size, 0, none⟩ = some (.int .i64 a) := by simp
  have q1 : (w.alloc (.cells #[.int .i64 a, .slice aa rs.length ca] 26)).cell? ⟨w.heap.size, 1, none⟩ = some (.slice aa rs.length ca) := by simp
  have hz : w.heap.size < (w.alloc (.cells #[.int .i64 a, .slice aa rs.length ca] 26)).heap.size := by simp
  obtain ⟨al, cl, rfl⟩ := h2.form
  have hlen := h2.1
  unfold maxLen at hlen
  clear hr h2
  go_enter Try.func20, Try.ntmps20
  go_wp2_with fail
  generalize w.alloc (.cells #[.int .i64 a, .slice aa rs.length ca] 26) = W at HR1 HL1 hW q0 q1 hz ⊢
  have hBW : B ≤ W.heap.size := by omega
  have k0 := fun p : Past W => Past.cell q0 (by show w.heap.size < _; omega) p
  have k1 := fun p : Past W => Past.cell q1 (by show w.heap.size < _; omega) p
  have HBW := Lib.hid hW
  clear q0 q1 hW
  have HAR := Lib.hid fun p : Past W => p.of (spec_areRules a (.slice al l.length cl) l B p.w (HL1.out.below p.h hBW) (Nat.le_trans hBW p.size))
  have HHO := Lib.hid fun (p : Past W) (r : PInt) => p.of (spec_holds a (.slice aa rs.length ca) rs r B p.w (Past.reads HR1.out hBW p) (Nat.le_trans hBW p.size))
  have hic0 := (Past.start W).of (spec_isCtx a (.slice aa rs.length ca) rs B W HR1.out hBW)
  obtain ⟨m, hm⟩ : ∃ m, l.length = m := ⟨_, rfl⟩
  have HM := Lib.hid hm
  rw [hm] at HAR hlen HL1 ⊢
  clear hm
  refine hic0.mono ?_
  rintro e _ ⟨rfl, p, rfl⟩
  clear hic0
  have kp0 := k0 p
  have kp1 := k1 p
  cases hic : isCtx a rs with
  | false =>
    have HX : Hid (isBase a rs l = false) := Lib.hid (isBase_no (by rw [hic]; rfl))
    have hbb := HBW.out.trans (p.h.mono (by omega))
    clear hic
    go_wp2_with fail
    go_ret
    exact ⟨by rw [HX.out]; rfl, hbb⟩
  | true =>
    cases har : areR a l with
    | false =>
      have HX : Hid (isBase a rs l = false) := Lib.hid (isBase_no (by rw [hic, har]; rfl))
      rw [har] at HAR
      clear hic har
      go_wp2_with fail
      refine (HAR.out p).mono ?_
      rintro e _ ⟨rfl, p2, rfl⟩
      have hbb := HBW.out.trans (p2.h.mono (by omega))
      go_wp2_with fail
      go_ret
      exact ⟨by rw [HX.out]; rfl, hbb⟩
    | true =>
      have HX : Hid (l.all (holds a rs) = true → isBase a rs l = allFollow (stemOf a rs) l) := Lib.hid fun h => by rw [isBase, hic, har, h]; rfl
      have HST := Lib.hid fun p : Past W => l10Stem a (.slice aa rs.length ca) rs B p.w (Past.reads HR1.out hBW p) (Nat.le_trans hBW p.size) hic
      have HL8 := Lib.hid (allIn_to8 (areR_all har))
      have HS8 := Lib.hid (stemOf_8 hic)
      rw [har] at HAR
      clear hic har
      go_wp2_with fail
      refine (HAR.out p).mono ?_
      rintro e _ ⟨rfl, p2, rfl⟩
      clear HAR
      go_wp2_with fail
      go_loopw [5] (fun i wr => ∃ k : Nat, k ≤ m ∧ i = .int .i64 k ∧ Hid ((l.take k).all (holds a rs) = true) ∧ ∃ p : Past W, wr = p.w) (fun i _ => m - (intOf i).toNat)
      case atStart => exact ⟨0, Nat.zero_le _, rfl, Lib.hid rfl, p2, rfl⟩
      case round =>
        obtain ⟨k, hk, rfl, hall, p3, rfl⟩ := hrel
        have kq0 := k0 p3
        have kq1 := k1 p3
        by_cases hlt : k < m
        · have hkl : k < l.length := by rw [HM.out]; exact hlt
          have HRL : Hid (ReadsP W B (.slice al l.length cl) l) := Lib.hid (by rw [HM.out]; exact HL1.out)
          obtain ⟨b, o, rfl, hb, h0, h1⟩ := readsP_at HRL.out hkl
          have c0 := fun q : Past W => Past.cell h0 (by show b < _; omega) q
          have c1 := fun q : Past W => Past.cell h1 (by show b < _; omega) q
          have HSN := Lib.hid (all_snoc (f := holds a rs) hkl)
          have HFL := Lib.hid fun h => all_false (f := holds a rs) hkl h
          have HK := Lib.hid fun q : Past W => HHO.out q (rl l k)
          clear h0 h1
          generalize rl l k = r at c0 c1 HSN HFL HK
          obtain ⟨r0, r1⟩ := r
          simp only at c0 c1
          obtain ⟨d, hd⟩ : ∃ d, holds a rs (r0, r1) = d := ⟨_, rfl⟩
          rw [hd] at HK HSN HFL
          clear hd
          cases d with
          | true =>
            have HA : Hid ((l.take (k + 1)).all (holds a rs) = true) := Lib.hid (by rw [HSN.out, hall.out]; rfl)
            go_wp2_with fail
            refine wp_region_pastIn p3 (by kernel_rfl) (by kernel_rfl) ?_
            repeat (go_big_quiet_step (first | with_reducible exact HK.out _))
            refine wpQuiet_nil ?_
            rintro _ ⟨p4, rfl⟩
            go_wp2_with fail
            go_roundw
            case rel => exact ⟨k + 1, by omega, by simp, HA, p4, rfl⟩
            case measure => simp [intOf]; omega
          | false =>
            have HA : Hid (isBase a rs l = false) := Lib.hid (isBase_hold (HFL.out rfl))
            go_wp2_with fail
            refine wp_region_pastIn p3 (by kernel_rfl) (by kernel_rfl) ?_
            repeat (go_big_quiet_step (first | with_reducible exact HK.out _))
            refine wpQuiet_nil ?_
            rintro _ ⟨p4, rfl⟩
            have hbb := HBW.out.trans (p4.h.mono (by omega))
            go_wp2_with fail
            go_ret
            exact ⟨by rw [HA.out]; rfl, hbb⟩
        · have HA : Hid (isBase a rs l = allFollow (stemOf a rs) l) := Lib.hid (HX.out (by
            have := hall.out
            rwa [List.take_of_length_le (by have := HM.out; omega)] at this))
          have HS := Lib.hid (HST.out p3)
          have hbp := HBW.out.trans (p3.h.mono (by omega))
          have hpz := p3.size
          have HRL : Hid (ReadsP W B (.slice al l.length cl) l) := Lib.hid (by rw [HM.out]; exact HL1.out)
          go_wp2_with fail
          refine HS.out.mono ?_
          rintro e w2 ⟨u, rfl, o2, b2⟩
          have hz2 := b2.size
          have HAL := l10All u (.slice al l.length cl) (stemOf a rs) l w2.heap.size w2 o2.reads (((HRL.out.below p3.h hBW).below b2 (by omega)).mono (by omega)) (Nat.le_refl _) HS8.out HL8.out
          rw [HM.out] at HAL
          have HAH := Lib.hid HAL
          have hb2 := hbp.trans (b2.mono (by omega))
          clear HAL o2 b2
          go_wp2_with fail
          refine HAH.out.mono ?_
          rintro e w3 ⟨rfl, b3⟩
          have hbb := hb2.trans (b3.mono (by omega))
          go_wp2_with fail
          go_ret
          exact ⟨by rw [HA.out]; rfl, hbb⟩
set_option maxHeartbeats 3200000 in
theorem spec_short (a : Int) (v vl : Value) (rs : List Int) (l : List PInt) (B : Nat) (w : World) (hr : Reads w B v (ints rs)) (h2 : ReadsP w B vl l) (hB : B ≤ w.heap.size) :
    Calls Try.prog 22 #[ctx a v, vl] w fun e w' => e = .returned (.bool (isShortest a rs l)) ∧ Below w.heap.size w w' := by
  obtain ⟨aa, ca, rfl⟩ := reads_form hr
  have hW := (Below.refl w.heap.size w).alloc (Nat.le_refl _) (.cells #[.int .i64 a, .slice aa rs.length ca] 26)
  have HR1 := Lib.hid (hr.below hW hB)
  have HL1 := Lib.hid (h2.below hW hB)
  have q0 : (w.alloc (.cells #[.int .i64 a, .slice aa rs.length ca] 26)).cell? ⟨w.heap.size, 0, none⟩ = some (.int .i64 a) := by simp
  have q1 : (w.alloc (.cells #[.int .i64 a, .slice aa rs.length ca] 26)).cell? ⟨w.heap.size, 1, none⟩ = some (.slice aa rs.length ca) := by simp
  have hz : w.heap.size < (w.alloc (.cells #[.int .i64 a, .slice aa rs.length ca] 26)).heap.size := by simp
  obtain ⟨al, cl, rfl⟩ := h2.form
  clear hr h2
  go_enter Try.func22, Try.ntmps22
  go_wp2_with fail
  generalize w.alloc (.cells #[.int .i64 a, .slice aa rs.length ca] 26) = W at HR1 HL1 hW q0 q1 hz ⊢
  have hBW : B ≤ W.heap.size := by omega
  have k0 := fun p : Past W => Past.cell q0 (by show w.heap.size < _; omega) p
  have k1 := fun p : Past W => Past.cell q1 (by show w.heap.size < _; omega) p
  have HBW := Lib.hid hW
  clear q0 q1 hW
  refine ((Past.start W).of (spec_isBase a (.slice aa rs.length ca) (.slice al l.length cl) rs l B W HR1.out HL1.out hBW)).mono ?_
  rintro e _ ⟨rfl, p, rfl⟩
  have kp0 := k0 p
  have kp1 := k1 p
  cases hb : isBase a rs l with
  | false =>
    have HX : Hid (isShortest a rs l = false) := Lib.hid (by rw [isShortest, hb]; rfl)
    have hbb := HBW.out.trans (p.h.mono (by omega))
    clear hb
    go_wp2_with fail
    go_ret
    exact ⟨by rw [HX.out]; rfl, hbb⟩
  | true =>
    have hic : isCtx a rs = true := by
      cases h : isCtx a rs with
      | true => rfl
      | false => rw [isBase_no (by rw [h]; rfl)] at hb; cases hb
    have HP := Lib.hid (l10Pseudo a (.slice aa rs.length ca) rs B p.w (Past.reads HR1.out hBW p) (Nat.le_trans hBW p.size) hic)
    have HX : Hid (isShortest a rs l = (((l.length : Nat) : Int) == ((pseudo a rs).length : Int))) := Lib.hid (by
      rw [isShortest, hb, Bool.true_and, Bool.eq_iff_iff]
      simp only [decide_eq_true_eq, beq_iff_eq]
      omega)
    have hbp := HBW.out.trans (p.h.mono (by omega))
    clear hb hic
    go_wp2_with fail
    refine HP.out.mono ?_
    rintro e w2 ⟨u, rfl, o2, b2⟩
    obtain ⟨au, cu, rfl⟩ := own_form o2
    have hbb := hbp.trans (b2.mono (by have := p.size; omega))
    clear o2 b2
    go_wp2_with fail
    go_ret
    exact ⟨by rw [HX.out]; rfl, hbb⟩
end Go.Proofs.Ythodmmckekgkdaa.Stem
