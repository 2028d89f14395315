/-
  Chapter 7 of the model: reducible objects and attributes.
-/
import Derived.Test.YtbpicpapkpomhaaRedS
import Derived.Test.YtbpicpapkpomhaaAllSets
import Derived.Test.YtbpicpapkpomhaaPastI
import Derived.Deep.DeepCutAuto
namespace Go.Proofs.Ytbpicpapkpomhaa.Ctx
open Go Go.RowKit Mem Sets Elems
set_option maxRecDepth 100000

set_option maxHeartbeats 4000000 in
theorem spec_redO (a : Int) (v : Value) (rs : List Int) (g : Int) (B : Nat) (w : World) (hr : Reads w B v (ints rs)) (hB : B ≤ w.heap.size) :
    Calls Try.prog 29 #[ctx a v, .int .i64 g] w fun e w' => e = .returned (.bool (redO a rs g)) ∧ Below w.heap.size w w' := by
  obtain ⟨aa, ca, rfl⟩ := reads_form hr
  have hW := (Below.refl w.heap.size w).alloc (Nat.le_refl _) (.cells #[.int .i64 a, .slice aa rs.length ca] 26)
  have HR1 := Lib.hid (hr.below hW hB)
  have q0 : (w.alloc (.cells #[.int .i64 a, .slice aa rs.length ca] 26)).cell? ⟨w.heap.size, 0, none⟩ = some (.int .i64 a) := by simp
  have q1 : (w.alloc (.cells #[.int .i64 a, .slice aa rs.length ca] 26)).cell? ⟨w.heap.size, 1, none⟩ = some (.slice aa rs.length ca) := by simp
  have hz : w.heap.size < (w.alloc (.cells #[.int .i64 a, .slice aa rs.length ca] 26)).heap.size := by simp
  clear hr
  go_enter Try.func29, Try.ntmps29
  go_wp2_with fail
  generalize w.alloc (.cells #[.int .i64 a, .slice aa rs.length ca] 26) = W at HR1 hW q0 q1 hz ⊢
  refine (spec_isCtx a _ rs B W HR1.out (by omega)).mono ?_
  rintro e w1 ⟨rfl, b1⟩
  have hy1 := b1.size
  have p0 : w1.cell? ⟨w.heap.size, 0, none⟩ = some (.int .i64 a) := (b1.cell (p := ⟨w.heap.size, 0, none⟩) (by show w.heap.size < _; omega)).trans q0
  have p1 : w1.cell? ⟨w.heap.size, 1, none⟩ = some (.slice aa rs.length ca) := (b1.cell (p := ⟨w.heap.size, 1, none⟩) (by show w.heap.size < _; omega)).trans q1
  have HR2 := Lib.hid (HR1.out.below b1 (by omega))
  have B1 := Lib.hid (hW.trans (b1.mono (by omega)))
  have hzw : w.heap.size < w1.heap.size := by omega
  clear b1 q0 q1 hW HR1 hz
  cases hic : isCtx a rs with
  | false =>
    have HX : Hid (redO a rs g = false) := Lib.hid (by rw [redO, if_neg (by simp [hic])])
    have hbb := B1.out
    clear hic
    go_wp2_with fail
    go_ret
    exact ⟨by rw [HX.out]; rfl, hbb⟩
  | true =>
    have hl8 := (isCtx_parts hic).2.2.1
    go_wp2_with fail
    refine (l1In g 0 (rs.length - 1) _).mono ?_
    rintro e w' ⟨rfl, hw⟩
    subst w'
    by_cases hg : 0 ≤ g ∧ g ≤ (rs.length : Int) - 1
    · rw [decide_eq_true hg]
      obtain ⟨n, rfl⟩ := Int.eq_ofNat_of_zero_le hg.1
      have hn : n < rs.length := by omega
      have HX : Hid (redO a rs n = isCp (fullA a) rs n) := Lib.hid (by rw [redO, if_pos ⟨hic, by omega, by omega⟩, Int.toNat_natCast])
      have hp := isCtx_parts hic
      have HF := Lib.hid (fun w => by have := spec_full a w; rw [full_nat hp.1 (by omega)] at this; exact this)
      have hf : fullA a < 256 := by
        have := pow_le8 (n := a.toNat) (by omega)
        have := Nat.pow_pos (n := a.toNat) (show 0 < 2 by omega)
        show 2 ^ a.toNat - 1 < 256
        omega
      have HRW := Lib.hid (row_le hic)
      obtain ⟨_, _, _, hv, hcells⟩ := HR2.out
      injection hv with e1 e2 e3
      subst e1 e3
      clear e2
      obtain ⟨bk, o, rfl, hb, gca⟩ := hcells (by intro h; simp [ints] at h; subst h; simp at hn)
      have HD := Lib.hid fun j hj => (gca j (by simpa [ints] using hj)).trans (ints_get rs j hj)
      clear gca hcells
      change Hid (∀ w, Calls _ _ _ _ fun e w' => e = .returned (.int .i64 ((fullA a : Nat) : Int)) ∧ w' = w) at HF
      have hxn := HRW.out n
      have cn := HD.out n hn
      have HV : Hid (isCp (fullA a) rs n = (((cpTo (fullA a) (rs.getD n 0) rs rs.length : Nat) : Int) == rs.getD n 0)) := Lib.hid rfl
      have HY := Lib.hid fun k => cpTo_yes (f := fullA a) (x := rs.getD n 0) (xs := rs) (k := k)
      have HN := Lib.hid fun k => cpTo_no (f := fullA a) (x := rs.getD n 0) (xs := rs) (k := k)
      have H0 : Hid (fullA a = cpTo (fullA a) (rs.getD n 0) rs 0) := Lib.hid rfl
      generalize rs.getD n 0 = x at hxn cn HV HY HN H0
      generalize fullA a = f at HX HF hf HV HY HN H0
      have kn := fun p : Past w1 => Past.cell cn (by show bk < _; omega) p
      have k1 := fun p : Past w1 => Past.cell p1 (by show w.heap.size < _; omega) p
      clear hp hic hg cn
      go_wp2_with fail
      refine (HF.out _).mono ?_
      rintro e w' ⟨rfl, hw⟩
      subst w'
      go_wp2_with fail
      go_loopw [5, 6] (fun t i wr => ∃ k c : Nat, k ≤ rs.length ∧ i = .int .i64 k ∧ t = .int .i64 c ∧ c < 256 ∧ Hid (c = cpTo f x rs k) ∧ ∃ p : Past w1, wr = p.w) (fun _ i _ => rs.length - (intOf i).toNat)
      case atStart => exact ⟨0, f, Nat.zero_le _, rfl, rfl, hf, H0, Past.start w1, rfl⟩
      case round =>
        obtain ⟨k, c, hk, rfl, rfl, hc, HC, p, rfl⟩ := hrel
        by_cases hlt : k < rs.length
        · have ck := fun q : Past w1 => Past.cell (HD.out k hlt) (by show bk < _; omega) q
          have hy := HRW.out k
          have hY := Lib.hid (HY.out k)
          have hN := Lib.hid (HN.out k)
          generalize rs.getD k 0 = y at ck hy hY hN
          have hra := row_and y x hy hxn
          by_cases hyx : y = x
          · have d0 : (y != x) = false := by simp [hyx]
            have HST := Lib.hid (hN.out (fun h => h.1 hyx))
            clear hyx hra
            go_wp2_with fail
            refine wp_region_pastIn p (by kernel_rfl) (by kernel_rfl) ?_
            repeat (go_big_quiet_step (fail))
            refine wpQuiet_nil ?_
            rintro _ ⟨p2, rfl⟩
            go_wp2_with fail
            go_roundw
            case rel => exact ⟨k + 1, c, by omega, by simp, rfl, hc, Lib.hid (by rw [HST.out, ← HC.out]), p2, rfl⟩
            case measure => simp [intOf]; omega
          · have d0 : (y != x) = true := by simp [hyx]
            by_cases hs : y.toNat &&& x.toNat = x.toNat
            · have HST := Lib.hid (hY.out ⟨hyx, hs⟩)
              rw [decide_eq_true hs] at hra
              clear hyx hs
              go_wp2_with fail
              refine wp_region_pastIn p (by kernel_rfl) (by kernel_rfl) ?_
              repeat (go_big_quiet_step (fail))
              refine wpQuiet_nil ?_
              rintro _ ⟨p2, rfl⟩
              go_wp2_with fail
              go_roundw
              case rel => exact ⟨k + 1, c &&& y.toNat, by omega, by simp, by rw [and_row c y hc hy], and_lt c _ hc, Lib.hid (by rw [HST.out, ← HC.out]), p2, rfl⟩
              case measure => simp [intOf]; omega
            · have HST := Lib.hid (hN.out (fun h => hs h.2))
              rw [decide_eq_false hs] at hra
              clear hyx hs
              go_wp2_with fail
              refine wp_region_pastIn p (by kernel_rfl) (by kernel_rfl) ?_
              repeat (go_big_quiet_step (fail))
              refine wpQuiet_nil ?_
              rintro _ ⟨p2, rfl⟩
              go_wp2_with fail
              go_roundw
              case rel => exact ⟨k + 1, c, by omega, by simp, rfl, hc, Lib.hid (by rw [HST.out, ← HC.out]), p2, rfl⟩
              case measure => simp [intOf]; omega
        · have HK := Lib.hid (show k = rs.length by omega)
          have hbb := B1.out.trans (p.h.mono (by omega))
          go_wp2_with fail
          go_ret
          exact ⟨by rw [HX.out, HV.out, HC.out, HK.out]; rfl, hbb⟩
    · rw [decide_eq_false hg]
      have HX : Hid (redO a rs g = false) := Lib.hid (by rw [redO, if_neg (fun h => hg ⟨h.2.1, by omega⟩)])
      have hbb := B1.out
      clear hg hic
      go_wp2_with fail
      go_ret
      exact ⟨by rw [HX.out]; rfl, hbb⟩
set_option maxHeartbeats 4000000 in
theorem spec_redA (a : Int) (v : Value) (rs : List Int) (g : Int) (B : Nat) (w : World) (hr : Reads w B v (ints rs)) (hB : B ≤ w.heap.size) :
    Calls Try.prog 31 #[ctx a v, .int .i64 g] w fun e w' => e = .returned (.bool (redA a rs g)) ∧ Below w.heap.size w w' := by
  obtain ⟨aa, ca, rfl⟩ := reads_form hr
  have hW := (Below.refl w.heap.size w).alloc (Nat.le_refl _) (.cells #[.int .i64 a, .slice aa rs.length ca] 26)
  have HR1 := Lib.hid (hr.below hW hB)
  have q0 : (w.alloc (.cells #[.int .i64 a, .slice aa rs.length ca] 26)).cell? ⟨w.heap.size, 0, none⟩ = some (.int .i64 a) := by simp
  have q1 : (w.alloc (.cells #[.int .i64 a, .slice aa rs.length ca] 26)).cell? ⟨w.heap.size, 1, none⟩ = some (.slice aa rs.length ca) := by simp
  have hz : w.heap.size < (w.alloc (.cells #[.int .i64 a, .slice aa rs.length ca] 26)).heap.size := by simp
  clear hr
  go_enter Try.func31, Try.ntmps31
  go_wp2_with fail
  generalize w.alloc (.cells #[.int .i64 a, .slice aa rs.length ca] 26) = W at HR1 hW q0 q1 hz ⊢
  refine (spec_isCtx a _ rs B W HR1.out (by omega)).mono ?_
  rintro e w1 ⟨rfl, b1⟩
  have hy1 := b1.size
  have p0 : w1.cell? ⟨w.heap.size, 0, none⟩ = some (.int .i64 a) := (b1.cell (p := ⟨w.heap.size, 0, none⟩) (by show w.heap.size < _; omega)).trans q0
  have p1 : w1.cell? ⟨w.heap.size, 1, none⟩ = some (.slice aa rs.length ca) := (b1.cell (p := ⟨w.heap.size, 1, none⟩) (by show w.heap.size < _; omega)).trans q1
  have HR2 := Lib.hid (HR1.out.below b1 (by omega))
  have B1 := Lib.hid (hW.trans (b1.mono (by omega)))
  have hzw : w.heap.size < w1.heap.size := by omega
  clear b1 q0 q1 hW HR1 hz
  cases hic : isCtx a rs with
  | false =>
    have HX : Hid (redA a rs g = false) := Lib.hid (by rw [redA, if_neg (by simp [hic])])
    have hbb := B1.out
    clear hic
    go_wp2_with fail
    go_ret
    exact ⟨by rw [HX.out]; rfl, hbb⟩
  | true =>
    have hp := isCtx_parts hic
    have ha0 := hp.1
    have ha6 := hp.2.1
    go_wp2_with fail
    refine (l1In g 0 (a - 1) _).mono ?_
    rintro e w' ⟨rfl, hw⟩
    subst w'
    by_cases hg : 0 ≤ g ∧ g ≤ a - 1
    · rw [decide_eq_true hg]
      obtain ⟨n, rfl⟩ := Int.eq_ofNat_of_zero_le hg.1
      have hn : n < a.toNat := by omega
      have HX : Hid (redA a rs n = isCp (fullO rs) (cols a rs) n) := Lib.hid (by rw [redA, if_pos ⟨hic, by omega, by omega⟩, Int.toNat_natCast])
      have HF := Lib.hid (fun w => by have := spec_full (rs.length : Int) w; rw [full_nat (a := (rs.length : Int)) (by omega) (by omega)] at this; exact this)
      have hf : fullO rs < 256 := by
        have := pow_le8 (n := rs.length) (by omega)
        have := Nat.pow_pos (n := rs.length) (show 0 < 2 by omega)
        show 2 ^ rs.length - 1 < 256
        omega
      have hB1 : B ≤ w1.heap.size := by omega
      have HL := Lib.hid fun (p : Past w1) (m : Nat) (hm : m < a.toNat) => by
        have := p.of (l3Column a (.slice aa rs.length ca) rs m B p.w (Past.reads HR2.out hB1 p) (Nat.le_trans hB1 p.size) hic (by omega))
        rw [← cols_get hm] at this
        exact this
      have HCB : Hid (∀ m, 0 ≤ (cols a rs).getD m 0 ∧ (cols a rs).getD m 0 ≤ 255) := Lib.hid fun m => by
        by_cases hm : m < a.toNat
        · rw [cols_get hm]
          have := Nat.lt_of_lt_of_le (colTo_lt rs m rs.length) (pow_le8 hp.2.2.1)
          omega
        · rw [List.getD_eq_getElem?_getD, List.getElem?_eq_none (by rw [dualTo_length]; omega)]; simp
      have hcl : (cols a rs).length = a.toNat := dualTo_length _ _
      change Hid (∀ w, Calls _ _ _ _ fun e w' => e = .returned (.int .i64 ((fullO rs : Nat) : Int)) ∧ w' = w) at HF
      generalize cols a rs = cs at HX HL HCB hcl
      have hxn := HCB.out n
      have HLn := Lib.hid fun p : Past w1 => HL.out p n hn
      have HV : Hid (isCp (fullO rs) cs n = (((cpTo (fullO rs) (cs.getD n 0) cs cs.length : Nat) : Int) == cs.getD n 0)) := Lib.hid rfl
      have HY := Lib.hid fun k => cpTo_yes (f := fullO rs) (x := cs.getD n 0) (xs := cs) (k := k)
      have HN := Lib.hid fun k => cpTo_no (f := fullO rs) (x := cs.getD n 0) (xs := cs) (k := k)
      have H0 : Hid (fullO rs = cpTo (fullO rs) (cs.getD n 0) cs 0) := Lib.hid rfl
      generalize cs.getD n 0 = x at hxn HV HY HN H0 HLn
      generalize fullO rs = f at HX HF hf HV HY HN H0
      have HCL := Lib.hid hcl
      have k0 := fun p : Past w1 => Past.cell p0 (by show w.heap.size < _; omega) p
      have k1 := fun p : Past w1 => Past.cell p1 (by show w.heap.size < _; omega) p
      clear hp hic hg hcl
      go_wp2_with fail
      refine (HLn.out (Past.start w1)).mono ?_
      rintro e _ ⟨rfl, z1, rfl⟩
      have kz := k1 z1
      go_wp2_with fail
      refine (HF.out _).mono ?_
      rintro e w' ⟨rfl, hw⟩
      subst w'
      go_wp2_with fail
      go_loopw [6, 7] (fun t i wr => ∃ k c : Nat, k ≤ a.toNat ∧ i = .int .i64 k ∧ t = .int .i64 c ∧ c < 256 ∧ Hid (c = cpTo f x cs k) ∧ ∃ p : Past w1, wr = p.w) (fun _ i _ => a.toNat - (intOf i).toNat)
      case atStart => exact ⟨0, f, Nat.zero_le _, rfl, rfl, hf, H0, z1, rfl⟩
      case round =>
        obtain ⟨k, c, hk, rfl, rfl, hc, HC, p, rfl⟩ := hrel
        have kp0 := k0 p
        have kp1 := k1 p
        by_cases hlt : k < a.toNat
        · have hlk := HL.out p k hlt
          have hy := HCB.out k
          have hY := Lib.hid (HY.out k)
          have hN := Lib.hid (HN.out k)
          generalize cs.getD k 0 = y at hlk hy hY hN
          have HLK := Lib.hid hlk
          have hra := row_and y x hy hxn
          clear hlk
          by_cases hyx : y = x
          · have d0 : (y != x) = false := by simp [hyx]
            have HST := Lib.hid (hN.out (fun h => h.1 hyx))
            clear hyx hra
            go_wp2_with fail
            refine HLK.out.mono ?_
            rintro e _ ⟨rfl, p2, rfl⟩
            go_wp2_with fail
            go_roundw
            case rel => exact ⟨k + 1, c, by omega, by simp, rfl, hc, Lib.hid (by rw [HST.out, ← HC.out]), p2, rfl⟩
            case measure => simp [intOf]; omega
          · have d0 : (y != x) = true := by simp [hyx]
            by_cases hs : y.toNat &&& x.toNat = x.toNat
            · have HST := Lib.hid (hY.out ⟨hyx, hs⟩)
              rw [decide_eq_true hs] at hra
              clear hyx hs
              go_wp2_with fail
              refine HLK.out.mono ?_
              rintro e _ ⟨rfl, p2, rfl⟩
              go_wp2_with fail
              go_roundw
              case rel => exact ⟨k + 1, c &&& y.toNat, by omega, by simp, by rw [and_row c y hc hy], and_lt c _ hc, Lib.hid (by rw [HST.out, ← HC.out]), p2, rfl⟩
              case measure => simp [intOf]; omega
            · have HST := Lib.hid (hN.out (fun h => hs h.2))
              rw [decide_eq_false hs] at hra
              clear hyx hs
              go_wp2_with fail
              refine HLK.out.mono ?_
              rintro e _ ⟨rfl, p2, rfl⟩
              go_wp2_with fail
              go_roundw
              case rel => exact ⟨k + 1, c, by omega, by simp, rfl, hc, Lib.hid (by rw [HST.out, ← HC.out]), p2, rfl⟩
              case measure => simp [intOf]; omega
        · have HK := Lib.hid (show k = cs.length by rw [HCL.out]; omega)
          have hbb := B1.out.trans (p.h.mono (by omega))
          go_wp2_with fail
          go_ret
          exact ⟨by rw [HX.out, HV.out, HC.out, HK.out]; rfl, hbb⟩
    · rw [decide_eq_false hg]
      have HX : Hid (redA a rs g = false) := Lib.hid (by rw [redA, if_neg (fun h => hg ⟨h.2.1, by omega⟩)])
      have hbb := B1.out
      clear hg hic hp
      go_wp2_with fail
      go_ret
      exact ⟨by rw [HX.out]; rfl, hbb⟩
end Go.Proofs.Ytbpicpapkpomhaa.Ctx
