/-
  Chapter 9 of the program: ClosedBy, Follows.
-/
import Derived.Test.YthodmmckekgkdaaRuleI
import Derived.Deep.RegionHeld3
namespace Go.Proofs.Ythodmmckekgkdaa.Rule
open Go Go.RowKit Mem Sets Ctx Tab
set_option maxRecDepth 100000

set_option maxHeartbeats 4000000 in
theorem impl_closedBy (v : Value) (l : List PInt) (s : Int) (B : Nat) (w : World) (hr : ReadsP w B v l) (hB : B ≤ w.heap.size) :
    Calls Try.prog 90 #[v, .int .i64 s] w fun e w' => e = .returned (.int .i64 (closedBy l s)) ∧ Below w.heap.size w w' := by
  have HS := Lib.hid fun w => impl_any s w
  cases hs : isSet 8 s with
  | false =>
    have HX : Hid (closedBy l s = s) := Lib.hid (by rw [closedBy, if_neg (by simp [hs])])
    rw [hs] at HS
    clear hs hr
    go_enter Try.func90, Try.ntmps90
    go_wp2_with fail
    refine (HS.out _).mono ?_
    rintro e w' ⟨rfl, hw⟩
    subst w'
    go_wp2_with fail
    go_ret
    exact ⟨by rw [HX.out]; rfl, Below.refl _ _⟩
  | true =>
    have HL := Lib.hid ((Past.start w).of (areRulesOf 8 v l B w hr hB))
    cases hi : allIn 8 l with
    | false =>
      have HX : Hid (closedBy l s = s) := Lib.hid (by rw [closedBy, if_neg (by simp [hi])])
      rw [hi] at HL
      rw [hs] at HS
      clear hs hi hr
      go_enter Try.func90, Try.ntmps90
      go_wp2_with fail
      refine (HS.out _).mono ?_
      rintro e w' ⟨rfl, hw⟩
      subst w'
      go_wp2_with fail
      refine HL.out.mono ?_
      rintro e _ ⟨rfl, p, rfl⟩
      have hbb := p.h
      go_wp2_with fail
      go_ret
      exact ⟨by rw [HX.out]; rfl, hbb⟩
    | true =>
      obtain ⟨s0, rfl⟩ := Int.eq_ofNat_of_zero_le (set8 hs).1
      have hs2 : s0 < 256 := by have := set8 hs; omega
      have HX : Hid (closedBy l s0 = ((cl l s0 : Nat) : Int)) := Lib.hid (by rw [closedBy, if_pos ⟨hi, hs⟩, Int.toNat_natCast])
      rw [hi] at HL
      rw [hs] at HS
      obtain ⟨a, c, rfl⟩ := hr.form
      have hlen := hr.1
      unfold maxLen at hlen
      have HR := Lib.hid hr
      obtain ⟨m, hm⟩ : ∃ m, l.length = m := ⟨_, rfl⟩
      have HM := Lib.hid hm
      have HIN := Lib.hid hi
      have HLT : Hid (∀ k, k < l.length → (rl l k).2.toNat < 2 ^ 8) := Lib.hid fun k hk => allIn_lt hi hk
      rw [hm] at HR hlen HL ⊢
      clear hr hm hs hi
      go_enter Try.func90, Try.ntmps90
      go_wp2_with fail
      refine (HS.out _).mono ?_
      rintro e w' ⟨rfl, hw⟩
      subst w'
      go_wp2_with fail
      refine HL.out.mono ?_
      rintro e _ ⟨rfl, p0, rfl⟩
      clear HS HL
      go_wp2_with fail
      go_loopw [1, 5] (fun t ch wr => ∃ (x : Nat) (b : Bool), x < 256 ∧ t = .int .i64 x ∧ ch = .bool b ∧ Hid (Le s0 x) ∧ Hid (∀ u, allR l u = true → Le s0 u → Le x u) ∧ Hid (b = false → allR l x = true) ∧ ∃ p : Past w, wr = p.w) (fun t ch _ => 2 * (256 - (intOf t).toNat) + (match ch with | .bool true => 1 | _ => 0))
      case atStart => exact ⟨s0, true, hs2, rfl, rfl, Lib.hid (Le.refl s0), Lib.hid (fun u _ h => h), Lib.hid (fun h => by cases h), p0, rfl⟩
      case round =>
        obtain ⟨x, b, hx, rfl, rfl, H1, H2, H3, p, rfl⟩ := hrel
        cases b with
        | false =>
          have HC := Lib.hid ((cl_spec HLT.out hs2).eq (Cl_of H1.out H2.out (H3.out rfl)))
          have hbb := p.h
          go_wp2_with fail
          go_ret
          exact ⟨by rw [HX.out, HC.out]; rfl, hbb⟩
        | true =>
          clear H3
          go_wp2_with fail
          go_loopw [1, 5, 20] (fun t ch i wr => ∃ (k y : Nat) (b : Bool), k ≤ m ∧ i = .int .i64 k ∧ y < 256 ∧ t = .int .i64 y ∧ ch = .bool b ∧ Hid (y = passTo l x k) ∧ Hid (b = decide (passTo l x k ≠ x)) ∧ ∃ p : Past w, wr = p.w) (fun _ _ i _ => m - (intOf i).toNat)
          case atStart => exact ⟨0, x, false, Nat.zero_le _, rfl, hx, rfl, rfl, Lib.hid rfl, Lib.hid (by simp [passTo]), p, rfl⟩
          case round =>
            obtain ⟨k, y, b, hk, rfl, hy, rfl, rfl, HY, HBb, p2, rfl⟩ := hrel
            by_cases hlt : k < m
            · have hkl : k < l.length := by rw [HM.out]; exact hlt
              obtain ⟨bk, o, rfl, hb, h0, h1⟩ := readsP_at HR.out hkl
              have kp0 := Past.cell h0 (by show bk < _; omega) p2
              have kp1 := Past.cell h1 (by show bk < _; omega) p2
              have hq := allIn_rl HIN.out hkl
              have hq1 := set8 hq.1
              have hq2 := set8 hq.2
              have HP := Lib.hid (fires_RB (rl l k) y)
              have HYS := Lib.hid fun h : fires (rl l k) (passTo l x k) = true => pass_yes h
              have HNO := Lib.hid fun h : fires (rl l k) (passTo l x k) = false => pass_no h
              have HGR := Lib.hid fun h : fires (rl l k) (passTo l x k) = true => fires_grows h
              have HLE := Lib.hid (le_pass l x k)
              rw [← HY.out] at HYS HNO HGR HLE
              clear h0 h1 hq
              generalize rl l k = r at kp0 kp1 HP HYS HNO HGR hq1 hq2
              obtain ⟨r0, r1⟩ := r
              have HF := Lib.hid fun (b : Nat) (w : World) (hb : BoxAt w b 43 #[.int .i64 r0, .int .i64 r1]) => respects_fn r0 r1 (y : Int) b w hb hq1 hq2 (by omega)
              simp only [Int.toNat_natCast] at HF
              have HRS := Lib.hid fun (p : Past w) => respecting r0 r1 p.w
              obtain ⟨d, hd⟩ : ∃ d, RB (r0, r1) y = d := ⟨_, rfl⟩
              rw [hd] at HP HF
              clear hd
              have hp2 := p2.size
              have HA := Lib.hid (BoxAt.new p2.w 43 #[.int .i64 r0, .int .i64 r1])
              have HPA : Hid (∃ p3 : Past w, p3.w = p2.w.alloc (.cells #[.int .i64 r0, .int .i64 r1] 43)) := Lib.hid ⟨p2.alloc _, rfl⟩
              go_wp2_with fail
              generalize p2.w.alloc (.cells #[.int .i64 r0, .int .i64 r1] 43) = V at HPA HA ⊢
              obtain ⟨p3, rfl⟩ := HPA.out
              clear HPA
              have HB2 := Lib.hid (HA.out.alloc (.cells #[.int .i64 r0, .int .i64 r1] 43))
              have HA2 := Lib.hid (BoxAt.new p3.w 43 #[.int .i64 r0, .int .i64 r1])
              have HPB : Hid (∃ p4 : Past w, p4.w = p3.w.alloc (.cells #[.int .i64 r0, .int .i64 r1] 43)) := Lib.hid ⟨p3.alloc _, rfl⟩
              refine (HRS.out p3).mono ?_
              rintro e w' ⟨rfl, hw⟩
              subst w'
              generalize p3.w.alloc (.cells #[.int .i64 r0, .int .i64 r1] 43) = V2 at HPB HA2 HB2 ⊢
              obtain ⟨p4, rfl⟩ := HPB.out
              clear HPB HA
              have HFF := Lib.hid (HF.out _ _ HA2.out)
              have kb1 : p4.w.cell? ⟨p2.w.heap.size, 1, none⟩ = some (.int .i64 r1) := HB2.out.cell 1
              generalize p3.w.heap.size = b3 at HFF
              go_wp2_with fail
              refine HFF.out.mono ?_
              rintro e w' ⟨rfl, hw⟩
              subst w'
              cases d with
              | true =>
                have HE := Lib.hid (HNO.out HP.out)
                go_wp2_with fail
                go_roundw
                case rel => exact ⟨k + 1, y, b, by omega, by simp, hy, rfl, rfl, Lib.hid HE.out.symm, Lib.hid (by rw [HE.out, HBb.out, ← HY.out]), p4, rfl⟩
                case measure => simp [intOf]; omega
              | false =>
                have HE := Lib.hid (HYS.out HP.out)
                have HG := Lib.hid (HGR.out HP.out)
                have hor : bits .or .i64 (y : Int) r1 = ((y ||| r1.toNat : Nat) : Int) := by
                  obtain ⟨z, rfl⟩ := Int.eq_ofNat_of_zero_le hq2.1
                  rw [or_nat' y z hy (by omega), Int.toNat_natCast]
                have hlt8 : y ||| r1.toNat < 256 := Nat.or_lt_two_pow (n := 8) hy (by omega)
                go_wp2_with fail
                go_roundw
                case rel =>
                  exact ⟨k + 1, y ||| r1.toNat, true, by omega, by simp, hlt8, rfl, rfl, Lib.hid HE.out.symm, Lib.hid (by
                    rw [HE.out, eq_comm, decide_eq_true_eq]
                    intro he
                    have := HLE.out
                    exact HG.out ((he ▸ this).antisymm le_orl)), p4, rfl⟩
                case measure => simp [intOf]; omega
            · have HK := Lib.hid (show k = l.length by have := HM.out; omega)
              have hy2 := HY.out
              rw [HK.out] at hy2
              have hb2 := HBb.out
              rw [HK.out, ← hy2] at hb2
              have HLE := Lib.hid (le_pass l x l.length)
              have HPL : Hid (∀ u, allR l u = true → Le s0 u → Le y u) := Lib.hid fun u h1 h2 => by rw [hy2]; exact pass_le h1 (H2.out u h1 h2) (Nat.le_refl _)
              have HSM := Lib.hid fun h : passTo l x l.length = x => pass_same h
              rw [← hy2] at HLE HSM
              have hle := le_num HLE.out
              have HB2 := Lib.hid hb2
              have HLX := Lib.hid (H1.out.trans HLE.out)
              clear hy2 hb2
              go_wp2_with fail
              go_roundw
              case rel => exact ⟨y, b, hy, rfl, rfl, HLX, HPL, Lib.hid (fun hb => by
                have hyx : y = x := by have := HB2.out; rw [hb] at this; simpa using this.symm
                have := HSM.out hyx
                rwa [← hyx] at this), p2, rfl⟩
              case measure =>
                have h2 := HB2.out
                by_cases hyx : y = x
                · have hbf : b = false := by rw [h2]; simp [hyx]
                  subst hbf hyx
                  simp [intOf]
                · have : x < y := by omega
                  cases b <;> simp [intOf] <;> omega
set_option maxHeartbeats 3200000 in
theorem impl_follows (v : Value) (l : List PInt) (r : PInt) (B : Nat) (w : World) (hr : ReadsP w B v l) (hB : B ≤ w.heap.size) :
    Calls Try.prog 107 #[v, mk r] w fun e w' => e = .returned (.bool (follows l r)) ∧ Below w.heap.size w w' := by
  obtain ⟨x, y⟩ := r
  have hW := (Below.refl w.heap.size w).alloc (Nat.le_refl _) (.cells #[.int .i64 x, .int .i64 y] 43)
  have q0 : (w.alloc (.cells #[.int .i64 x, .int .i64 y] 43)).cell? ⟨w.heap.size, 0, none⟩ = some (.int .i64 x) := by simp
  have q1 : (w.alloc (.cells #[.int .i64 x, .int .i64 y] 43)).cell? ⟨w.heap.size, 1, none⟩ = some (.int .i64 y) := by simp
  have hz : w.heap.size < (w.alloc (.cells #[.int .i64 x, .int .i64 y] 43)).heap.size := by simp
  have HR := Lib.hid (hr.below hW hB)
  clear hr
  go_enter Try.func107, Try.ntmps107
  go_upto_region 1 with fail
  generalize w.alloc (.cells #[.int .i64 x, .int .i64 y] 43) = W at hW q0 q1 hz HR ⊢
  have hBW : B ≤ W.heap.size := by omega
  have k0 := fun p : Past W => Past.cell q0 (by show w.heap.size < _; omega) p
  have k1 := fun p : Past W => Past.cell q1 (by show w.heap.size < _; omega) p
  have HBW := Lib.hid hW
  have H1 := Lib.hid fun p : Past W => p.of (areRulesOf 8 v l B p.w (HR.out.below p.h hBW) (Nat.le_trans hBW p.size))
  have H2 := Lib.hid fun p : Past W => p.of (isRuleOf 8 (x, y) p.w)
  clear hW q0 q1
  cases hi : allIn 8 l with
  | false =>
    have HX : Hid (follows l (x, y) = false) := Lib.hid (by rw [follows, hi]; rfl)
    rw [hi] at H1
    clear hi
    refine wp_region_past (by kernel_rfl) (by kernel_rfl) ?_
    repeat (go_big_quiet_step (first | with_reducible exact H1.out _))
    refine wpQuiet_nil ?_
    rintro _ ⟨p, rfl⟩
    have hbb := HBW.out.trans (p.h.mono (by omega))
    go_wp2_with fail
    go_ret
    exact ⟨by rw [HX.out]; rfl, hbb⟩
  | true =>
    rw [hi] at H1
    cases hq : isR 8 (x, y) with
    | false =>
      have HX : Hid (follows l (x, y) = false) := Lib.hid (by rw [follows, hq, Bool.and_false]; rfl)
      rw [hq] at H2
      clear hi hq
      refine wp_region_past (by kernel_rfl) (by kernel_rfl) ?_
      repeat (go_big_quiet_step (first | with_reducible exact H1.out _ | with_reducible exact H2.out _))
      refine wpQuiet_nil ?_
      rintro _ ⟨p, rfl⟩
      have hbb := HBW.out.trans (p.h.mono (by omega))
      go_wp2_with fail
      go_ret
      exact ⟨by rw [HX.out]; rfl, hbb⟩
    | true =>
      have hr2 := hq
      unfold isR at hr2
      rw [Bool.and_eq_true] at hr2
      have hx := set8 hr2.1
      have hy := set8 hr2.2
      obtain ⟨n, rfl⟩ := Int.eq_ofNat_of_zero_le hx.1
      have hn : n < 256 := by omega
      have hcl : cl l n < 256 := cl_lt (n := 8) (by omega) (fun k hk => allIn_lt hi hk) hn
      have HC := Lib.hid fun p : Past W => p.of (impl_closedBy v l (n : Int) B p.w (HR.out.below p.h hBW) (Nat.le_trans hBW p.size))
      rw [show closedBy l (n : Int) = ((cl l n : Nat) : Int) from by rw [closedBy, if_pos ⟨hi, hr2.1⟩, Int.toNat_natCast]] at HC
      have HX : Hid (follows l ((n : Int), y) = sub y ((cl l n : Nat) : Int)) := Lib.hid (by
        rw [follows, hi, hq, sub_le hy (by omega), Int.toNat_natCast, Int.toNat_natCast]; rfl)
      have HU := Lib.hid fun p : Past W => p.ofSame (impl_sub y ((cl l n : Nat) : Int) p.w)
      rw [hq] at H2
      generalize cl l n = c at HC HX HU hcl
      obtain ⟨d, hd⟩ : ∃ d, sub y ((c : Nat) : Int) = d := ⟨_, rfl⟩
      rw [hd] at HX HU
      clear hi hq hr2 hd
      refine wp_region_past (by kernel_rfl) (by kernel_rfl) ?_
      repeat (go_big_quiet_step (first | with_reducible exact H1.out _ | with_reducible exact H2.out _ | with_reducible exact HC.out _ | with_reducible exact HU.out _))
      refine wpQuiet_nil ?_
      rintro _ ⟨p, rfl⟩
      have hbb := HBW.out.trans (p.h.mono (by omega))
      go_wp2_with fail
      go_ret
      exact ⟨by rw [HX.out]; rfl, hbb⟩
end Go.Proofs.Ythodmmckekgkdaa.Rule
