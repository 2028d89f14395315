/-
  Chapter 9 of the program: HoldsIn.
-/
import Derived.Test.YthodmmckekgkdaaRuleI
import Derived.Deep.RegionHeld3
namespace Go.Proofs.Ythodmmckekgkdaa.Rule
open Go Go.RowKit Mem Sets Ctx Tab
set_option maxRecDepth 100000

set_option maxHeartbeats 3200000 in
theorem impl_holds (a : Int) (v : Value) (rs : List Int) (r : PInt) (B : Nat) (w : World) (hr : Reads w B v (ints rs)) (hB : B ≤ w.heap.size) :
    Calls Try.prog 62 #[ctx a v, mk r] w fun e w' => e = .returned (.bool (holds a rs r)) ∧ Below w.heap.size w w' := by
  obtain ⟨x, y⟩ := r
  obtain ⟨aa, ca, rfl⟩ := reads_form hr
  have hW := ((Below.refl w.heap.size w).alloc (Nat.le_refl _) (.cells #[.int .i64 a, .slice aa rs.length ca] 26)).alloc (by simp) (.cells #[.int .i64 x, .int .i64 y] 43)
  have HR1 := Lib.hid (hr.below hW hB)
  have q0 : ((w.alloc (.cells #[.int .i64 a, .slice aa rs.length ca] 26)).alloc (.cells #[.int .i64 x, .int .i64 y] 43)).cell? ⟨w.heap.size, 0, none⟩ = some (.int .i64 a) := by simp
  have q1 : ((w.alloc (.cells #[.int .i64 a, .slice aa rs.length ca] 26)).alloc (.cells #[.int .i64 x, .int .i64 y] 43)).cell? ⟨w.heap.size, 1, none⟩ = some (.slice aa rs.length ca) := by simp
  have q2 : ((w.alloc (.cells #[.int .i64 a, .slice aa rs.length ca] 26)).alloc (.cells #[.int .i64 x, .int .i64 y] 43)).cell? ⟨w.heap.size + 1, 0, none⟩ = some (.int .i64 x) := by simp
  have q3 : ((w.alloc (.cells #[.int .i64 a, .slice aa rs.length ca] 26)).alloc (.cells #[.int .i64 x, .int .i64 y] 43)).cell? ⟨w.heap.size + 1, 1, none⟩ = some (.int .i64 y) := by simp
  have hz : w.heap.size + 1 < ((w.alloc (.cells #[.int .i64 a, .slice aa rs.length ca] 26)).alloc (.cells #[.int .i64 x, .int .i64 y] 43)).heap.size := by simp
  clear hr
  go_enter Try.func62, Try.ntmps62
  go_wp2_with fail
  generalize ((w.alloc (.cells #[.int .i64 a, .slice aa rs.length ca] 26)).alloc (.cells #[.int .i64 x, .int .i64 y] 43)) = W at HR1 hW q0 q1 q2 q3 hz ⊢
  have hBW : B ≤ W.heap.size := by omega
  have k0 := fun p : Past W => Past.cell q0 (by show w.heap.size < _; omega) p
  have k1 := fun p : Past W => Past.cell q1 (by show w.heap.size < _; omega) p
  have k2 := fun p : Past W => Past.cell q2 (by show w.heap.size + 1 < _; omega) p
  have k3 := fun p : Past W => Past.cell q3 (by show w.heap.size + 1 < _; omega) p
  have HBW := Lib.hid hW
  clear hW q0 q1 q2 q3
  refine ((Past.start W).of (impl_isCtx a _ rs B W HR1.out hBW)).mono ?_
  rintro e _ ⟨rfl, p, rfl⟩
  have kp0 := k0 p
  have kp2 := k2 p
  have kp3 := k3 p
  cases hic : isCtx a rs with
  | false =>
    have HX : Hid (holds a rs (x, y) = false) := Lib.hid (by rw [holds, hic]; rfl)
    have hbb := HBW.out.trans (p.h.mono (by omega))
    clear hic
    go_wp2_with fail
    go_ret
    exact ⟨by rw [HX.out]; rfl, hbb⟩
  | true =>
    have HL := Lib.hid (p.of (isRuleOf a (x, y) p.w))
    cases hq : isR a (x, y) with
    | false =>
      have HX : Hid (holds a rs (x, y) = false) := Lib.hid (by rw [holds, hq, Bool.and_false]; rfl)
      rw [hq] at HL
      clear hic hq
      go_wp2_with fail
      refine HL.out.mono ?_
      rintro e _ ⟨rfl, p2, rfl⟩
      have hbb := HBW.out.trans (p2.h.mono (by omega))
      go_wp2_with fail
      go_ret
      exact ⟨by rw [HX.out]; rfl, hbb⟩
    | true =>
      have hr2 := hq
      unfold isR at hr2
      rw [Bool.and_eq_true] at hr2
      have h6 := (isCtx_parts hic).2.1
      have h8 := (isCtx_parts hic).2.2.1
      have hx := isSet_le hr2.1
      have hy := isSet_le hr2.2
      have HROW := Lib.hid fun k => row_le hic k
      have HF := Lib.hid fun (s : Int) (b : Nat) (w : World) (hb : BoxAt w b 43 #[.int .i64 x, .int .i64 y]) (hs : 0 ≤ s ∧ s ≤ 255) => respects_fn x y s b w hb hx hy hs
      have HRS := Lib.hid fun (p : Past W) => respecting x y p.w
      have HX : Hid ((holds a rs (x, y) = true) ↔ ∀ k, k < rs.length → RB (x, y) (rs.getD k 0).toNat = true) := Lib.hid (by
        rw [holds, hic, hq, Bool.true_and, Bool.true_and]
        exact holds_rows hq)
      rw [hq] at HL
      clear hic hq hr2 hx hy
      go_wp2_with fail
      refine HL.out.mono ?_
      rintro e _ ⟨rfl, p2, rfl⟩
      have kq2 := k2 p2
      have kq3 := k3 p2
      go_wp2_with fail
      refine (HRS.out p2).mono ?_
      rintro e w' ⟨rfl, hw⟩
      subst w'
      have hbx := BoxAt.new p2.w 43 #[.int .i64 x, .int .i64 y]
      have HPA : Hid (∃ p3 : Past W, p3.w = p2.w.alloc (.cells #[.int .i64 x, .int .i64 y] 43)) := Lib.hid ⟨p2.alloc _, rfl⟩
      generalize p2.w.alloc (.cells #[.int .i64 x, .int .i64 y] 43) = V at HPA hbx ⊢
      obtain ⟨p3, rfl⟩ := HPA.out
      have HBX := Lib.hid hbx
      have HRV := Lib.hid (Past.reads HR1.out hBW p3)
      have hbb := HBW.out.trans (p3.h.mono (by omega))
      have kr1 := k1 p3
      clear hbx
      go_wp2_with fail
      go_loop [23] (fun i => ∃ k : Nat, k ≤ rs.length ∧ i = .int .i64 k ∧ Hid (∀ j, j < k → RB (x, y) (rs.getD j 0).toNat = true)) (fun i => rs.length - (intOf i).toNat)
      case atStart => exact ⟨0, Nat.zero_le _, rfl, Lib.hid (fun j hj => absurd hj (by omega))⟩
      case round =>
        obtain ⟨k, hk, rfl, hall⟩ := hrel
        by_cases hlt : k < rs.length
        · obtain ⟨b, o, rfl, hb, hc⟩ : ∃ b o, aa = some ⟨b, o, none⟩ ∧ b < B ∧ p3.w.cell? ⟨b, o + k, none⟩ = some (.int .i64 (rs.getD k 0)) := by
            obtain ⟨_, a', c', hv, hcells⟩ := HRV.out
            injection hv with e1 e2 e3
            subst e1
            obtain ⟨b, o, h1, h2, h3⟩ := hcells (by simp [ints]; rintro rfl; simp at hlt)
            exact ⟨b, o, h1, h2, (h3 k (by simp [ints]; exact hlt)).trans (ints_get rs k hlt)⟩
          have HFK := Lib.hid (HF.out (rs.getD k 0) p2.w.heap.size p3.w HBX.out (HROW.out k))
          have HXF := Lib.hid fun h : RB (x, y) (rs.getD k 0).toNat = false => show holds a rs (x, y) = false by
            cases hh : holds a rs (x, y) with
            | false => rfl
            | true => rw [HX.out.1 hh k hlt] at h; cases h
          have HST := Lib.hid fun h : RB (x, y) (rs.getD k 0).toNat = true => show ∀ j, j < k + 1 → RB (x, y) (rs.getD j 0).toNat = true by
            intro j hj
            rcases Nat.lt_or_eq_of_le (Nat.le_of_lt_succ hj) with h1 | rfl
            · exact hall.out j h1
            · exact h
          generalize rs.getD k 0 = z at hc HFK HXF HST
          cases hz2 : RB (x, y) z.toNat with
          | true =>
            have HA := Lib.hid (HST.out hz2)
            rw [hz2] at HFK
            clear hz2
            go_wp2_with fail
            refine HFK.out.mono ?_
            rintro e w' ⟨rfl, hw⟩
            subst w'
            go_wp2_with fail
            go_round
            case rel => exact ⟨k + 1, by omega, by simp, HA⟩
            case measure => simp [intOf]; omega
          | false =>
            have HA := Lib.hid (HXF.out hz2)
            rw [hz2] at HFK
            clear hz2
            go_wp2_with fail
            refine HFK.out.mono ?_
            rintro e w' ⟨rfl, hw⟩
            subst w'
            go_wp2_with fail
            go_ret
            exact ⟨by rw [HA.out]; rfl, hbb⟩
        · have HA : Hid (holds a rs (x, y) = true) := Lib.hid (HX.out.2 fun j hj => hall.out j (by omega))
          go_wp2_with fail
          go_ret
          exact ⟨by rw [HA.out]; rfl, hbb⟩
end Go.Proofs.Ythodmmckekgkdaa.Rule
