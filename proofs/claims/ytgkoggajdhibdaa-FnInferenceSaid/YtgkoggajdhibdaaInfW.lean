/-
  Chapter 11 of the model: premises without what is not needed.
-/
import Derived.Test.YtgkoggajdhibdaaInfT
namespace Go.Proofs.Ytgkoggajdhibdaa.Infer
open Go Go.RowKit Mem Sets Ctx Tab Rule Stem Lectic
set_option maxRecDepth 100000

/-- The rules without what is not needed in their premises; none where they are no rules of n elements. -/
def leftReduced (n : Int) (l : List PInt) : List PInt := if areR n l = true then leftAll l n.toNat else []
theorem leftAll_len (l : List PInt) (n : Nat) : (leftAll l n).length = l.length := by simp [leftAll]
theorem leftAll_take {l : List PInt} {n k : Nat} (hk : k < l.length) : (leftAll l n).take (k + 1) = (leftAll l n).take k ++ [(((leftTo l (rl l k).2.toNat (rl l k).1.toNat n : Nat) : Int), (rl l k).2)] := by
  have hkl : k < (leftAll l n).length := by rw [leftAll_len]; exact hk
  rw [List.take_add_one, List.getElem?_eq_getElem hkl]
  have : (leftAll l n)[k] = leftR l n (rl l k) := by
    rw [rl, List.getD_eq_getElem?_getD, List.getElem?_eq_getElem hk]; simp [leftAll]
  rw [this]; rfl
theorem and_two_pow : ∀ s : Nat, s < 256 → ∀ e : Nat, e < 8 → bits .and .i64 (s : Int) (wrap64 (2 ^ e)) = ((if s.testBit e = true then 2 ^ e else 0 : Nat) : Int) := by decide +kernel
theorem pow_le_bit : ∀ s : Nat, s < 256 → ∀ e : Nat, e < 8 → s.testBit e = true → 2 ^ e ≤ s ∧ 0 < 2 ^ e := by decide +kernel
/-- What the test of element e says. -/
theorem left_yes {l : List PInt} {y x e : Nat} (h1 : (leftTo l y x e).testBit e = true) (h2 : y &&& Rule.cl l (leftTo l y x e - 2 ^ e) = y) : leftTo l y x (e + 1) = leftTo l y x e - 2 ^ e := by rw [leftTo_succ, if_pos ⟨h1, h2⟩]
theorem left_no1 {l : List PInt} {y x e : Nat} (h1 : (leftTo l y x e).testBit e = false) : leftTo l y x (e + 1) = leftTo l y x e := by rw [leftTo_succ, if_neg (fun h => by rw [h1] at h; exact Bool.false_ne_true h.1)]
theorem left_no2 {l : List PInt} {y x e : Nat} (h2 : ¬ y &&& Rule.cl l (leftTo l y x e - 2 ^ e) = y) : leftTo l y x (e + 1) = leftTo l y x e := by rw [leftTo_succ, if_neg (fun h => h2 h.2)]
theorem andE' (x s : Int) (hx : 0 ≤ x ∧ x ≤ 255) (hs : 0 ≤ s ∧ s ≤ 255) : (bits .and .i64 x s == s) = decide (s.toNat &&& x.toNat = s.toNat) := by
  have h := andR x s hx hs
  rw [bne] at h
  cases h1 : (bits .and .i64 x s == s) <;> rw [h1] at h <;> simpa using h
set_option maxHeartbeats 12800000 in
theorem spec_left (n : Int) (v : Value) (l : List PInt) (B : Nat) (w : World) (hr : ReadsP w B v l) (hB : B ≤ w.heap.size) :
    Calls Try.prog 46 #[.int .i64 n, v] w fun e w' => ∃ u, e = .returned (.tuple #[u, .bool (areR n l)]) ∧ OwnP 43 w' w.heap.size w'.heap.size u (leftReduced n l) ∧ Below w.heap.size w w' := by
  obtain ⟨j0, jnf, jz0, jz1, jz2⟩ := info_parts PRule.infoT
  have HA := Lib.hid (((Past.start w).alloc (.cells #[] 43)).ofB (spec_areRules n v l B (w.alloc (.cells #[] 43)) (hr.below ((Past.start w).alloc (.cells #[] 43)).h hB) (Nat.le_trans hB ((Past.start w).alloc (.cells #[] 43)).size)))
  have HL0 := Lib.hid (World.ownsRow_lit (e := 43) (size := 2) w #[] 0 (Nat.le_refl _) (Nat.zero_le _) rfl)
  have hzz : w.heap.size < (w.alloc (.cells #[] 43)).heap.size := by simp
  cases ha : areR n l with
  | false =>
    have HX : Hid (leftReduced n l = []) := Lib.hid (by rw [leftReduced, if_neg (by rw [ha]; decide)])
    rw [ha] at HA
    clear ha hr
    go_enter Try.func46, Try.ntmps46
    go_wp2_with fail
    refine HA.out.mono ?_
    rintro e _ ⟨rfl, p, rfl, b2⟩
    have HO := Lib.hid ((OwnP.made (l := []) HL0.out).below b2 (Nat.le_refl _))
    have hzp := b2.size
    have hbb := p.h
    clear b2
    go_wp2_with fail
    go_ret2
    exact ⟨_, rfl, by rw [HX.out]; exact HO.out.mono (Nat.le_refl _) hzp, hbb⟩
  | true =>
    have hnn := areR_nn ha
    obtain ⟨n, rfl⟩ := Int.eq_ofNat_of_zero_le hnn.1
    have hn6 : n ≤ 6 := by omega
    have hl40 := hnn.2.2
    have HX : Hid (leftReduced (n : Int) l = leftAll l n) := Lib.hid (by rw [leftReduced, if_pos ha, Int.toNat_natCast])
    have h8 := allIn_to8 (areR_all ha)
    have HC := Lib.hid fun (q : Past w) (x : Nat) (hx : x < 256) => Rule.l9Closed v l x B q.w (hr.below q.h hB) (Nat.le_trans hB q.size) h8 hx
    have HCC : Hid (∀ x, x < 256 → Rule.cl l x < 256) := Lib.hid fun x hx => cl_lt (n := 8) (by omega) (fun k hk => allIn_lt h8 hk) hx
    have H8 := Lib.hid h8
    have HTK := Lib.hid fun (k : Nat) (hk : k < l.length) => leftAll_take (n := n) hk
    have HTL := Lib.hid (leftAll_len l n)
    have HRD := Lib.hid fun q : Past w => hr.below q.h hB
    obtain ⟨a, c, rfl⟩ := hr.form
    obtain ⟨m, hm⟩ : ∃ m, l.length = m := ⟨_, rfl⟩
    have HM := Lib.hid hm
    rw [ha] at HA
    rw [hm] at HA hl40 HTL HRD HC ⊢
    clear ha hr h8 hm hnn
    go_enter Try.func46, Try.ntmps46
    go_wp2_with fail
    refine HA.out.mono ?_
    rintro e _ ⟨rfl, p0, rfl, b2⟩
    have HO0 := Lib.hid (rowP_same HL0.out fun g hg => b2.block g (HL0.out.lt g hg).2)
    clear b2 HL0 HA
    go_wp2_with fail
    go_loopw [6, 7] (fun ov kv wr => ∃ (k : Nat) (v0 : Value) (p : Past w), k ≤ m ∧ kv = .int .i64 k ∧ ov = v0 ∧ Hid (p.w.ownsRow w.heap.size 43 2 v0 k (prs ((leftAll l n).take k))) ∧ wr = p.w) (fun _ kv _ => m - (intOf kv).toNat)
    case atStart => exact ⟨0, _, p0, Nat.zero_le _, rfl, rfl, HO0, rfl⟩
    case round =>
      obtain ⟨k, v0, p, hk, rfl, rfl, hown, rfl⟩ := hrel
      by_cases hlt : k < m
      · have hkl : k < l.length := by rw [HM.out]; exact hlt
        obtain ⟨b, o, rfl, hb, h0, h1⟩ := readsP_at (by have := HRD.out p; rw [← HM.out] at this; exact this) hkl
        have hrr := allIn_rl H8.out hkl
        have hr0 := set8 hrr.1
        have hr1 := set8 hrr.2
        have htk := HTK.out k hkl
        have hpz := p.size
        clear hrr
        generalize rl l k = rr at h0 h1 hr0 hr1 htk
        obtain ⟨r0, r1⟩ := rr
        simp only at hr0 hr1 h0 h1
        obtain ⟨x, rfl⟩ := Int.eq_ofNat_of_zero_le hr0.1
        obtain ⟨y, rfl⟩ := Int.eq_ofNat_of_zero_le hr1.1
        simp only [Int.toNat_natCast] at htk
        have hx : x < 256 := by omega
        have hy : y < 256 := by omega
        have HTK2 := Lib.hid htk
        have HLE : Hid (∀ e, e ≤ 6 → leftTo l y x e < 256) := Lib.hid fun e he => by have := le_num (leftTo_le l (y := y) hx e (by omega)); omega
        have HBX := Lib.hid (BoxAt.new p.w 43 #[.int .i64 (x : Int), .int .i64 (y : Int)])
        have HP1 : Hid (∃ q : Past p.w, q.w = p.w.alloc (.cells #[.int .i64 (x : Int), .int .i64 (y : Int)] 43)) := Lib.hid ⟨(Past.start p.w).alloc _, rfl⟩
        clear htk
        go_upto_region 8 with fail
        generalize p.w.alloc (.cells #[.int .i64 (x : Int), .int .i64 (y : Int)] 43) = V at HBX HP1 ⊢
        obtain ⟨q1, rfl⟩ := HP1.out
        clear HP1 h0 h1
        go_wp2_with fail
        go_loopw [9] (fun ev wr => ∃ (e : Nat) (q : Past p.w), e ≤ n ∧ ev = .int .i64 e ∧ Hid (BoxAt q.w p.w.heap.size 43 #[.int .i64 ((leftTo l y x e : Nat) : Int), .int .i64 (y : Int)]) ∧ wr = q.w) (fun ev _ => n - (intOf ev).toNat)
        case atStart => exact ⟨0, q1, Nat.zero_le _, rfl, HBX, rfl⟩
        case round =>
          obtain ⟨e, q, he, rfl, HB, rfl⟩ := hrel
          by_cases hen : e < n
          · have hs := HLE.out e (by omega)
            have c0 : q.w.cell? ⟨p.w.heap.size, 0, none⟩ = some (.int .i64 ((leftTo l y x e : Nat) : Int)) := HB.out.cell 0
            have c1 : q.w.cell? ⟨p.w.heap.size, 1, none⟩ = some (.int .i64 (y : Int)) := HB.out.cell 1
            have hbz := HB.out.lt
            have HAND := Lib.hid (and_two_pow _ hs e (by omega))
            have HPB := Lib.hid (pow_le_bit _ hs e (by omega))
            have HY := Lib.hid (left_yes (l := l) (y := y) (x := x) (e := e))
            have HN1 := Lib.hid (left_no1 (l := l) (y := y) (x := x) (e := e))
            have HN2 := Lib.hid (left_no2 (l := l) (y := y) (x := x) (e := e))
            have HBQ := Lib.hid HB.out
            have hwsh : (1 : Int) = 1 := rfl
            generalize leftTo l y x e = s at hs c0 HAND HPB HY HN1 HN2 HBQ
            have d0 := fun z : Past q.w => Past.cell c0 hbz z
            have d1 := fun z : Past q.w => Past.cell c1 hbz z
            have hqz := q.size
            cases htb : s.testBit e with
            | false =>
              have hand := HAND.out
              rw [if_neg (by rw [htb]; decide)] at hand
              have HE := Lib.hid (HN1.out htb)
              have hws : IntKind.i64.wrap ((s : Int) - ((0 : Nat) : Int)) = (s : Int) := by rw [IntKind.wrap_i64]; omega
              have hss : ((s : Int) != (s : Int)) = false := by simp
              clear htb
              go_wp2_with fail
              refine wp_region_past (by kernel_rfl) (by kernel_rfl) ?_
              repeat (go_big_quiet_step (fail))
              refine wpQuiet_nil ?_
              rintro _ ⟨z, rfl⟩
              have HBZ := Lib.hid (HBQ.out.below z.h hbz)
              go_wp2_with fail
              go_roundw
              case rel => exact ⟨e + 1, up q z, by omega, by simp, Lib.hid (by rw [HE.out]; exact HBZ.out), rfl⟩
              case measure => simp [intOf]; omega
            | true =>
              have hand := HAND.out
              rw [if_pos htb] at hand
              have hpb := HPB.out htb
              have HE1 := Lib.hid (HY.out htb)
              clear htb HAND HPB HY HN1
              generalize 2 ^ e = t at hand hpb HE1 HN2
              have hws : IntKind.i64.wrap ((s : Int) - ((t : Nat) : Int)) = ((s - t : Nat) : Int) := by rw [IntKind.wrap_i64]; omega
              have hst : s - t < 256 := by omega
              have hss : (((s - t : Nat) : Int) != (s : Int)) = true := by simp; omega
              have hcl := HCC.out _ hst
              have HCZ := Lib.hid fun z : Past q.w => z.of (HC.out (up p (up q z)) (s - t) hst)
              have hdd : (bits .and .i64 ((Rule.cl l (s - t) : Nat) : Int) (y : Int) == (y : Int)) = decide (y &&& Rule.cl l (s - t) = y) := by
                rw [andE' _ _ (by omega) (by omega)]; simp only [Int.toNat_natCast]
              generalize s - t = s2 at hws hst hss hcl HCZ hdd HE1 HN2
              generalize Rule.cl l s2 = cc at hcl HCZ hdd HE1 HN2
              by_cases hyc : y &&& cc = y
              · rw [decide_eq_true hyc] at hdd
                have HE := Lib.hid (HE1.out hyc)
                clear hyc
                go_wp2_with fail
                refine wp_region_past (by kernel_rfl) (by kernel_rfl) ?_
                repeat (go_big_quiet_step (first | with_reducible exact HCZ.out _))
                refine wpQuiet_nil ?_
                rintro _ ⟨z, rfl⟩
                have HBZ := Lib.hid ((HBQ.out.below z.h hbz).set 0 (.int .i64 (s2 : Int)))
                have e0 := d0 z
                have f0 : z.w.frozen? ⟨p.w.heap.size, 0, none⟩ = false := (HBQ.out.below z.h hbz).free 0
                go_wp2_with fail
                go_roundw
                case rel => exact ⟨e + 1, (up q z).set ⟨p.w.heap.size, 0, none⟩ (Nat.le_refl _) (.int .i64 (s2 : Int)), by omega, by simp, Lib.hid (by rw [HE.out]; exact HBZ.out), rfl⟩
                case measure => simp [intOf]; omega
              · rw [decide_eq_false hyc] at hdd
                have HE := Lib.hid (HN2.out hyc)
                clear hyc
                go_wp2_with fail
                refine wp_region_past (by kernel_rfl) (by kernel_rfl) ?_
                repeat (go_big_quiet_step (first | with_reducible exact HCZ.out _))
                refine wpQuiet_nil ?_
                rintro _ ⟨z, rfl⟩
                have HBZ := Lib.hid (HBQ.out.below z.h hbz)
                go_wp2_with fail
                go_roundw
                case rel => exact ⟨e + 1, up q z, by omega, by simp, Lib.hid (by rw [HE.out]; exact HBZ.out), rfl⟩
                case measure => simp [intOf]; omega
          · have hen2 : e = n := by omega
            subst hen2
            have c0 : q.w.cell? ⟨p.w.heap.size, 0, none⟩ = some (.int .i64 ((leftTo l y x e : Nat) : Int)) := HB.out.cell 0
            have c1 : q.w.cell? ⟨p.w.heap.size, 1, none⟩ = some (.int .i64 (y : Int)) := HB.out.cell 1
            have HO3 := Lib.hid (rowP_same hown.out fun g hg => q.h.block g (hown.out.lt g hg).2)
            have hqz := q.size
            generalize leftTo l y x e = s at c0 HTK2
            have HK1 : Hid (k + 1 ≤ maxLen) := Lib.hid (by unfold maxLen; omega)
            have HK2 : Hid ((k + 1) * 16 ≤ 140737488355328) := Lib.hid (by omega)
            clear hown
            go_wp2_with (at_builtin; refine wpList_append_own _ rfl _ _ 28 rfl w.heap.size 43 j0 (.agg #[.int .i64 0, .int .i64 0]) 2 16 Try.underlying28 jnf jz0 jz1 jz2 rfl (by decide) _ _ _ rfl (HO3.out.alloc _) ⟨q.w.heap.size, 0, none⟩ 1 1 (prs [((s : Int), (y : Int))]) rfl rfl (newsQ _ _ _ _) (oneQ _) HK1.out HK2.out (by simp; omega) ?_)
            intro v4 w4 hown4 hgrow _
            have HP4 : Hid (∃ q4 : Past w, q4.w = w4) := Lib.hid ⟨⟨w4, ((up p q).h.alloc (up p q).size _).grown hgrow ((up p q).alloc _).size (fun j hj => (HO3.out.lt j hj).1)⟩, rfl⟩
            obtain ⟨q4, rfl⟩ := HP4.out
            have HO4 := Lib.hid hown4
            clear hown4 hgrow HP4
            go_wp2_with fail
            go_roundw
            case rel => exact ⟨k + 1, _, q4, by omega, by simp, rfl, Lib.hid (by rw [HTK2.out, prs_app]; exact HO4.out), rfl⟩
            case measure => simp [intOf]; omega
      · have hkm : k = m := by omega
        subst hkm
        have hrow := hown.out
        rw [List.take_of_length_le (by rw [HTL.out]; exact Nat.le_refl _)] at hrow
        have HO := Lib.hid (show OwnP 43 p.w w.heap.size p.w.heap.size _ (leftAll l n) from OwnP.made hrow)
        have hbb := p.h
        obtain ⟨av, cv, hov⟩ := rowP_form hown.out
        subst hov
        clear hrow
        go_wp2_with fail
        go_ret2
        exact ⟨_, rfl, by rw [HX.out]; exact HO.out, hbb⟩
end Go.Proofs.Ytgkoggajdhibdaa.Infer
