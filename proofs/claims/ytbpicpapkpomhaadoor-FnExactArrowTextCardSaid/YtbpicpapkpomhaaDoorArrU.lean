/-
  Chapter 8 of the model: the signs of arrows.
-/
import Derived.Test.YtbpicpapkpomhaaDoorArrT
import Derived.Test.YtbpicpapkpomhaaDoorArrS
namespace Go.Proofs.YtbpicpapkpomhaaDoor.Ctx
open Go Go.RowKit Mem Sets Elems Tab
set_option maxRecDepth 100000

theorem pushL (l : List UInt8) (B : ByteArray) (c : UInt8) (h : B = ⟨#[c]⟩) : Value.string (⟨l.toArray⟩ ++ B) = Value.string ⟨(l ++ [c]).toArray⟩ := by
  subst h
  have : (⟨l.toArray⟩ : ByteArray) ++ ⟨#[c]⟩ = ⟨(l ++ [c]).toArray⟩ := by apply ByteArray.ext; simp [ByteArray.data_append]
  rw [this]
set_option maxHeartbeats 3200000 in
theorem spec_arrText (a : Int) (v : Value) (rs : List Int) (B : Nat) (w : World) (hr : Reads w B v (ints rs)) (hB : B ≤ w.heap.size) :
    Calls Tryd.prog 15 #[ctx a v] w fun e w' => ∃ u, e = .returned u ∧ Mem.Own 9 w' w.heap.size w'.heap.size u (Strs.strs (arrText a rs)) ∧ Below w.heap.size w w' := by
  obtain ⟨i0, hi, hz0, hz1, hz2⟩ := info_parts Strs.infoS
  obtain ⟨aa, ca, rfl⟩ := reads_form hr
  have hW := (Below.refl w.heap.size w).alloc (Nat.le_refl _) (.cells #[.int .i64 a, .slice aa rs.length ca] 26)
  have HR1 := Lib.hid (hr.below hW hB)
  have q0 : (w.alloc (.cells #[.int .i64 a, .slice aa rs.length ca] 26)).cell? ⟨w.heap.size, 0, none⟩ = some (.int .i64 a) := by simp
  have q1 : (w.alloc (.cells #[.int .i64 a, .slice aa rs.length ca] 26)).cell? ⟨w.heap.size, 1, none⟩ = some (.slice aa rs.length ca) := by simp
  have hz : w.heap.size < (w.alloc (.cells #[.int .i64 a, .slice aa rs.length ca] 26)).heap.size := by simp
  clear hr
  go_enter Tryd.func15, Tryd.ntmps15
  go_upto_region 1 with fail
  generalize w.alloc (.cells #[.int .i64 a, .slice aa rs.length ca] 26) = W at HR1 hW q0 q1 hz ⊢
  have hBW : B ≤ W.heap.size := by omega
  have k0 := fun p : Past W => Past.cell q0 (by show w.heap.size < _; omega) p
  have k1 := fun p : Past W => Past.cell q1 (by show w.heap.size < _; omega) p
  have HBW := Lib.hid hW
  clear hW
  go_wp2_with fail
  have O0 : (W.alloc (.cells #[] 9 (0, 0))).ownsRow W.heap.size 9 1 (.slice (some ⟨W.heap.size, 0, none⟩) 0 0) 0 (Strs.strs []) := World.ownsRow_lit W #[] 0 (Nat.le_refl _) (Nat.zero_le _) rfl
  have HO0 := Lib.hid O0
  clear O0
  refine ((((Past.start W).alloc (.cells #[] 9 (0, 0)))).ofB (spec_isCtx a _ rs B _ (Past.reads HR1.out hBW ((Past.start W).alloc (.cells #[] 9 (0, 0)))) (Nat.le_trans hBW ((Past.start W).alloc (.cells #[] 9 (0, 0))).size))).mono ?_
  rintro e _ ⟨rfl, p0, rfl, b0⟩
  have HO1 := Lib.hid (owns_below HO0.out b0)
  have kp0 := k0 p0
  have kp1 := k1 p0
  clear b0
  cases hic : isCtx a rs with
  | false =>
    have HX : Hid (arrText a rs = []) := Lib.hid (by rw [arrText, if_neg (by simp [hic])])
    have hbb := HBW.out.trans (p0.h.mono (by omega))
    clear hic
    go_wp2_with fail
    go_ret
    exact ⟨_, rfl, by rw [HX.out]; exact (Own.made HO1.out).mono (by omega) (Nat.le_refl _), hbb⟩
  | true =>
    have hp := isCtx_parts hic
    obtain ⟨A, hA⟩ := Int.eq_ofNat_of_zero_le hp.1
    have hA2 : a.toNat = A := by omega
    have hA6 : A ≤ 6 := by omega
    have hl8 := hp.2.2.1
    have HX : Hid (arrText a rs = linesTo a rs rs.length) := Lib.hid (by rw [arrText, if_pos hic])
    have HD := Lib.hid fun (p : Past W) (g : Nat) (hg : g < rs.length) => p.ofB (l8Down a (.slice aa rs.length ca) rs g B p.w (Past.reads HR1.out hBW p) (Nat.le_trans hBW p.size) hic hg)
    have HU := Lib.hid fun (p : Past W) (g : Nat) (hg : g < rs.length) => p.ofB (l8Up a (.slice aa rs.length ca) rs g B p.w (Past.reads HR1.out hBW p) (Nat.le_trans hBW p.size) hic hg)
    have HDL : Hid (∀ g, g < rs.length → downN a rs g < 256) := Lib.hid fun g hg => by
      have := downOf_lt a rs g
      rwa [downOf, if_pos ⟨hic, by omega, by omega⟩, Int.toNat_natCast] at this
    have HUL : Hid (∀ g, g < rs.length → upN a rs g < 256) := Lib.hid fun g hg => by
      have := upOf_lt a rs g
      rwa [upOf, if_pos ⟨hic, by omega, by omega⟩, Int.toNat_natCast] at this
    have HRW := Lib.hid (row_le hic)
    have HL := Lib.hid fun k => linesTo_step a rs k
    have HLL := Lib.hid fun k => linesTo_length a rs k
    have HL0 : Hid (linesTo a rs 0 = []) := Lib.hid rfl
    have HK : Hid (∀ g m, knd a rs g m = if bit (rs.getD g 0) m = true then 4 else if (downN a rs g &&& upN a rs g).testBit m = true then 3 else if (downN a rs g).testBit m = true then 1 else if (upN a rs g).testBit m = true then 2 else 0) := Lib.hid fun g m => rfl
    have HT := Lib.hid fun g k => lineTo_step a rs g k
    have HTL := Lib.hid fun g k => lineTo_length a rs g k
    have HT0 : Hid (∀ g, lineTo a rs g 0 = []) := Lib.hid fun g => rfl
    rw [hA2] at HL
    change Hid (∀ (p : Past W) (g : Nat), g < rs.length → Calls _ _ _ _ fun e w' => e = .returned (.int .i64 ((upN a rs g : Nat) : Int)) ∧ ∃ q : Past W, w' = q.w ∧ Below p.w.heap.size p.w q.w) at HU
    generalize linesTo a rs = L at HL HLL HL0 HX
    generalize lineTo a rs = T at HL HT HTL HT0
    generalize knd a rs = K at HK HT
    generalize downN a rs = dn at HD HDL HK
    generalize upN a rs = un at HU HUL HK
    have HCL : Hid (∀ g, g < rs.length → ∃ bk o, aa = some ⟨bk, o, none⟩ ∧ ∀ p : Past W, p.w.cell? ⟨bk, o + g, none⟩ = some (.int .i64 (rs.getD g 0))) := Lib.hid fun g hg => by
      obtain ⟨_, _, _, hv, hcells⟩ := HR1.out
      injection hv with e1 e2 e3
      subst e1
      obtain ⟨bk, o, rfl, hb, gca⟩ := hcells (by intro h; simp [ints] at h; subst h; simp at hg)
      exact ⟨bk, o, rfl, fun p => Past.cell ((gca g (by simpa [ints] using hg)).trans (ints_get rs g hg)) (by show bk < _; omega) p⟩
    subst hA
    clear hp hic hA2
    go_wp2_with fail
    go_loopw [3, 4] (fun t i wr => ∃ (k : Nat) (v' : Value) (p : Past W), k ≤ rs.length ∧ i = .int .i64 k ∧ t = v' ∧ Hid (p.w.ownsRow W.heap.size 9 1 v' k (Strs.strs (L k))) ∧ wr = p.w) (fun _ i _ => rs.length - (intOf i).toNat)
    case atStart => exact ⟨0, _, p0, Nat.zero_le _, rfl, rfl, by rw [HL0.out]; exact HO1, rfl⟩
    case round =>
      obtain ⟨g, v', p, hg, rfl, rfl, hown, rfl⟩ := hrel
      have kq0 := k0 p
      have kq1 := k1 p
      by_cases hlt : g < rs.length
      · have HDg := Lib.hid (HD.out p g hlt)
        have HUg := Lib.hid fun q => HU.out q g hlt
        have hdl := HDL.out g hlt
        have hul := HUL.out g hlt
        have HKg := Lib.hid (HK.out g)
        have HTg := Lib.hid (HT.out g)
        have HTLg := Lib.hid (HTL.out g)
        have HT0g := Lib.hid (HT0.out g)
        have HLg := Lib.hid (HL.out g)
        obtain ⟨bk, o, rfl, hcg⟩ := HCL.out g hlt
        have hxg := HRW.out g
        generalize rs.getD g 0 = x at HKg hcg hxg
        generalize dn g = d at HDg HKg hdl
        generalize un g = u at HUg HKg hul
        generalize T g = Tg at HTg HTLg HT0g HLg
        generalize K g = Kg at HTg HKg
        go_wp2_with fail
        refine HDg.out.mono ?_
        rintro e _ ⟨rfl, p2, rfl, b2⟩
        have HO2 := Lib.hid (owns_below hown.out b2)
        have kr0 := k0 p2
        have kr1 := k1 p2
        clear b2
        go_wp2_with fail
        refine (HUg.out p2).mono ?_
        rintro e _ ⟨rfl, p3, rfl, b3⟩
        have HO3 := Lib.hid (owns_below HO2.out b3)
        have ks0 := k0 p3
        have ks1 := k1 p3
        have ksg := hcg p3
        have hz3 := p3.size
        clear b3 HDg HUg
        have HDU := Lib.hid (and_nat d u hdl hul)
        have hdul := and_lt d u hdl
        generalize d &&& u = du at HKg HDU hdul
        go_wp2_with fail
        go_loop [5, 8] (fun t i => ∃ (m : Nat) (l : List UInt8), m ≤ A ∧ i = .int .i64 m ∧ t = .string ⟨l.toArray⟩ ∧ Hid (l = Tg m) ∧ l.length = m) (fun _ i => A - (intOf i).toNat)
        case atStart => exact ⟨0, [], Nat.zero_le _, rfl, rfl, Lib.hid (HT0g.out).symm, rfl⟩
        case round =>
          obtain ⟨m, l, hm, rfl, rfl, hl, hll⟩ := hrel
          by_cases hmt : m < A
          · have HH0 := Lib.hid fun w => l2Has x m (by omega) hxg w
            have HH1 := Lib.hid fun w => l2Has ((du : Nat) : Int) m (by omega) (by omega) w
            have HH2 := Lib.hid fun w => l2Has ((d : Nat) : Int) m (by omega) (by omega) w
            have HH3 := Lib.hid fun w => l2Has ((u : Nat) : Int) m (by omega) (by omega) w
            have HKm := Lib.hid (HKg.out m)
            have HTm := Lib.hid (HTg.out m)
            have eb : ∀ y : Nat, bit (y : Int) m = y.testBit m := fun y => by
              show ((y : Int)).toNat.testBit ((m : Int)).toNat = _
              rw [Int.toNat_natCast, Int.toNat_natCast]
            rw [eb] at HH1 HH2 HH3
            rw [← HDU.out] at HH1
            have HLM := Lib.hid hll
            have hl6 : l.length ≤ 6 := by omega
            have HTT := Lib.hid fun K0 c (h1 : Kg m = K0) (h2 : UInt8.ofNat (signs.getD K0 0).toNat = c) => show Tg (m + 1) = l ++ [c] by rw [HTm.out, h1, h2, ← hl.out]
            clear eb hll
            go_wp2_with fail
            refine (HH0.out _).mono ?_
            rintro e w' ⟨rfl, hw⟩
            subst w'
            cases b0 : bit x m with
            | true =>
              go_wp2_with fail
              go_round
              case rel => exact ⟨m + 1, l ++ [120], by omega, by simp, pushL l _ 120 rfl, Lib.hid (HTT.out 4 120 (by rw [HKm.out, if_pos b0]) (by decide)).symm, by simp [HLM.out]⟩
              case measure => simp [intOf]; omega
            | false =>
              go_wp2_with fail
              refine (HH1.out _).mono ?_
              rintro e w' ⟨rfl, hw⟩
              subst w'
              cases b1 : du.testBit m with
              | true =>
                go_wp2_with fail
                go_round
                case rel => exact ⟨m + 1, l ++ [42], by omega, by simp, pushL l _ 42 rfl, Lib.hid (HTT.out 3 42 (by rw [HKm.out, if_neg (by simp [b0]), if_pos b1]) (by decide)).symm, by simp [HLM.out]⟩
                case measure => simp [intOf]; omega
              | false =>
                go_wp2_with fail
                refine (HH2.out _).mono ?_
                rintro e w' ⟨rfl, hw⟩
                subst w'
                cases b2 : d.testBit m with
                | true =>
                  go_wp2_with fail
                  go_round
                  case rel => exact ⟨m + 1, l ++ [118], by omega, by simp, pushL l _ 118 rfl, Lib.hid (HTT.out 1 118 (by rw [HKm.out, if_neg (by simp [b0]), if_neg (by simp [b1]), if_pos b2]) (by decide)).symm, by simp [HLM.out]⟩
                  case measure => simp [intOf]; omega
                | false =>
                  go_wp2_with fail
                  refine (HH3.out _).mono ?_
                  rintro e w' ⟨rfl, hw⟩
                  subst w'
                  cases b3 : u.testBit m with
                  | true =>
                    go_wp2_with fail
                    go_round
                    case rel => exact ⟨m + 1, l ++ [94], by omega, by simp, pushL l _ 94 rfl, Lib.hid (HTT.out 2 94 (by rw [HKm.out, if_neg (by simp [b0]), if_neg (by simp [b1]), if_neg (by simp [b2]), if_pos b3]) (by decide)).symm, by simp [HLM.out]⟩
                    case measure => simp [intOf]; omega
                  | false =>
                    go_wp2_with fail
                    go_round
                    case rel => exact ⟨m + 1, l ++ [46], by omega, by simp, pushL l _ 46 rfl, Lib.hid (HTT.out 0 46 (by rw [HKm.out, if_neg (by simp [b0]), if_neg (by simp [b1]), if_neg (by simp [b2]), if_neg (by simp [b3])]) (by decide)).symm, by simp [HLM.out]⟩
                    case measure => simp [intOf]; omega
          · have HMA := Lib.hid (show m = A by omega)
            have hl2 := hl.out
            rw [HMA.out] at hl2
            have HLS := Lib.hid HLg.out
            rw [← hl2] at HLS
            have hlg := HLL.out g
            generalize L g = Lg at HO3 HLS hlg
            clear hl2 hl HCL
            go_wp2_with (at_builtin; refine wpList_append_own _ rfl _ _ 32 rfl W.heap.size 9 i0 (.string ByteArray.empty) 1 16 Tryd.underlying32 hi hz0 hz1 hz2 rfl (by decide) _ _ _ rfl (HO3.out.alloc _) ⟨p3.w.heap.size, 0, none⟩ 1 1 [.string ⟨l.toArray⟩] rfl rfl ?c1 ?c2 ?c3 ?c4 ?c5 ?_)
            case c2 => rfl
            case c3 => unfold maxLen; omega
            case c4 => omega
            case c5 => omega
            intro v2 w2 hown' hgrow _
            have hown2 := Lib.hid hown'
            have hgrow2 := Lib.hid hgrow
            clear hown' hgrow
            go_wp2_with fail
            go_roundw
            case rel =>
              refine ⟨g + 1, _, ⟨w2, (p3.h.alloc p3.size _).grown hgrow2.out (by simp; omega) (fun j hj => (HO3.out.lt j hj).1)⟩, by omega, by simp, rfl, Lib.hid ?_, rfl⟩
              have := hown2.out
              rw [HLS.out]
              simpa [Strs.strs] using this
            case measure => simp [intOf]; omega
      · have HGA := Lib.hid (show g = rs.length by omega)
        have hrow := hown.out
        rw [HGA.out] at hrow
        have hbb := HBW.out.trans (p.h.mono (by omega))
        have HO := Lib.hid ((Own.made hrow).mono (lo' := w.heap.size) (by omega) (Nat.le_refl _))
        clear hrow
        go_wp2_with fail
        go_ret
        exact ⟨_, rfl, by rw [HX.out]; exact HO.out, hbb⟩
end Go.Proofs.YtbpicpapkpomhaaDoor.Ctx
