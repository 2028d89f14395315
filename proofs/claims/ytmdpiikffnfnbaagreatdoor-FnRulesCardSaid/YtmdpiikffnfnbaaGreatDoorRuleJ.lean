/-
  Chapter 9 of the program: texts of rules.
-/
import Derived.Test.YtmdpiikffnfnbaaGreatDoorRuleI
import Derived.Test.YtmdpiikffnfnbaaGreatDoorRuleU
import Derived.Test.YtmdpiikffnfnbaaGreatDoorJoin
import Derived.BigQuiet
namespace Go.Proofs.YtmdpiikffnfnbaaGreatDoor.Rule
open Go Go.RowKit Mem Sets Ctx Tab Elems Text Joins Strs Cuts Parse
set_option maxRecDepth 100000

set_option maxHeartbeats 1600000 in
theorem impl_ruleText (p : PInt) (w : World) :
    Calls Tryz.prog 27 #[mk p] w fun e w' => e = .returned (.string ⟨(ruleText p).toArray⟩) ∧ Below w.heap.size w w' := by
  obtain ⟨x, y⟩ := p
  have hW := (Below.refl w.heap.size w).alloc (Nat.le_refl _) (.cells #[.int .i64 x, .int .i64 y] 28)
  have q0 : (w.alloc (.cells #[.int .i64 x, .int .i64 y] 28)).cell? ⟨w.heap.size, 0, none⟩ = some (.int .i64 x) := by simp
  have q1 : (w.alloc (.cells #[.int .i64 x, .int .i64 y] 28)).cell? ⟨w.heap.size, 1, none⟩ = some (.int .i64 y) := by simp
  have hz : w.heap.size < (w.alloc (.cells #[.int .i64 x, .int .i64 y] 28)).heap.size := by simp
  go_enter Tryz.func27, Tryz.ntmps27
  go_wp2_with fail
  generalize w.alloc (.cells #[.int .i64 x, .int .i64 y] 28) = W at hW q0 q1 hz ⊢
  have k0 := fun p : Past W => Past.cell q0 (by show w.heap.size < _; omega) p
  have k1 := fun p : Past W => Past.cell q1 (by show w.heap.size < _; omega) p
  have HBW := Lib.hid hW
  have HL := Lib.hid ((Past.start W).of (isRuleOf 8 (x, y) W))
  clear hW
  cases hr : isR 8 (x, y) with
  | false =>
    have HX : Hid (ruleText (x, y) = []) := Lib.hid ((ruleText_nil _).2 hr)
    rw [hr] at HL
    clear hr
    refine HL.out.mono ?_
    rintro e _ ⟨rfl, p, rfl⟩
    have hbb := HBW.out.trans (p.h.mono (by omega))
    go_wp2_with fail
    go_ret
    exact ⟨by rw [HX.out]; rfl, hbb⟩
  | true =>
    have HX : Hid (ruleText (x, y) = setText x ++ 62 :: setText y) := Lib.hid (by rw [ruleText, if_pos hr])
    have HT1 := Lib.hid (fun w => impl_text x w)
    have HT2 := Lib.hid (fun w => impl_text y w)
    have hlx := setText_le x
    have hly := setText_le y
    generalize setText x = tx at HX HT1 hlx
    generalize setText y = ty at HX HT2 hly
    have hn1 : ¬ 9223372036854775807 < tx.length + 1 := by omega
    have hn2 : ¬ 9223372036854775807 < tx.length + 1 + ty.length := by omega
    rw [hr] at HL
    clear hr
    refine HL.out.mono ?_
    rintro e _ ⟨rfl, p, rfl⟩
    have HP1 := Lib.hid (fun p : Past W => p.of (HT1.out p.w))
    have HP2 := Lib.hid (fun p : Past W => p.of (HT2.out p.w))
    go_wp2_with fail
    refine wp_region_pastIn p (by kernel_rfl) (by kernel_rfl) ?_
    repeat (go_big_quiet_step (first | with_reducible exact HP1.out _ | with_reducible exact HP2.out _))
    refine wpQuiet_nil ?_
    rintro _ ⟨p2, rfl⟩
    have hbb := HBW.out.trans (p2.h.mono (by omega))
    go_wp2_with fail
    go_ret
    exact ⟨by rw [HX.out, ← join_text62 tx ty _ rfl]; rfl, hbb⟩
theorem texts_set (l : List PInt) (ys : List Value) (k : Nat) (hk : k < l.length) (hy : k < ys.length) (x : PInt) (hx : rl l k = x) :
    (strs (ruleTexts (l.take k)) ++ ys.drop k).set k (.string ⟨(ruleText x).toArray⟩) = strs (ruleTexts (l.take (k + 1))) ++ ys.drop (k + 1) := by
  subst hx
  have hl : (strs (ruleTexts (l.take k))).length = k := by simp [strs, ruleTexts]; omega
  rw [texts_step l k hk, List.set_append_right _ _ (by rw [hl]; exact Nat.le_refl _), List.drop_eq_getElem_cons hy, hl, Nat.sub_self, List.set_cons_zero, List.append_assoc, List.singleton_append]
set_option maxHeartbeats 3200000 in
theorem impl_rulesText (v : Value) (l : List PInt) (B : Nat) (w : World) (hr : ReadsP w B v l) (hB : B ≤ w.heap.size) (hn : l.length ≤ 1000) :
    Calls Tryz.prog 17 #[v] w fun e w' => e = .returned (.string ⟨(rulesText l).toArray⟩) ∧ Below w.heap.size w w' := by
  obtain ⟨i0, hi, hz0, hz1, hz2⟩ := info_parts infoS
  have HL := Lib.hid ((Past.start w).of (areRulesOf 8 v l B w hr hB))
  obtain ⟨a, c, rfl⟩ := hr.form
  have HR := Lib.hid hr
  obtain ⟨m, hm⟩ : ∃ m, l.length = m := ⟨_, rfl⟩
  have HM := Lib.hid hm
  rw [hm] at HR hn HL ⊢
  cases hin : allIn 8 l with
  | false =>
    have hne : l ≠ [] := by rintro rfl; cases hin
    have HX : Hid (rulesText l = []) := Lib.hid (by rw [rulesText, if_neg hne, if_neg (by simp [hin])])
    rw [hin] at HL
    clear hr hm hin hne
    go_enter Tryz.func17, Tryz.ntmps17
    go_wp2_with fail
    refine HL.out.mono ?_
    rintro e _ ⟨rfl, p, rfl⟩
    have hbb := p.h
    go_wp2_with fail
    go_ret
    exact ⟨by rw [HX.out]; rfl, hbb⟩
  | true =>
    rw [hin] at HL
    by_cases h0 : m = 0
    · have hd : ((m : Int) == 0) = true := by simp [h0]
      have HX : Hid (rulesText l = [110, 111, 110, 101]) := Lib.hid (by rw [rulesText, if_pos (List.length_eq_zero_iff.1 (by omega))])
      clear hr hm h0 hin
      go_enter Tryz.func17, Tryz.ntmps17
      go_wp2_with fail
      refine HL.out.mono ?_
      rintro e _ ⟨rfl, p, rfl⟩
      have hbb := p.h
      go_wp2_with fail
      go_ret
      exact ⟨by rw [HX.out]; rfl, hbb⟩
    · have hd : ((m : Int) == 0) = false := by simp [h0]
      have hne : l ≠ [] := by rintro rfl; simp at hm; omega
      have HNE := Lib.hid hne
      have HX : Hid (rulesText l = joined (ruleTexts l) [32]) := Lib.hid (by rw [rulesText, if_neg hne, if_pos hin])
      clear hr hm h0 hin hne
      go_enter Tryz.func17, Tryz.ntmps17
      go_wp2_with fail
      refine HL.out.mono ?_
      rintro e _ ⟨rfl, p0, rfl⟩
      clear HL
      go_wp2_with (at_make; refine wpList_make_full _ rfl _ _ 69 rfl p0.w.heap.size 9 i0 (.string ByteArray.empty) 1 Tryz.underlying69 hi hz0 hz1 .i64 .i64 _ _ m rfl rfl rfl rfl (by rw [hz2]; omega) (by unfold maxLen; omega) (Nat.le_refl _) ?_; intro w0 hown0 hgrow0)
      have H0 := Lib.hid hown0
      have HP1 : Hid (∃ p1 : Past w, p1.w = w0) := Lib.hid ⟨⟨w0, p0.h.grown hgrow0 p0.size (fun q hq => by cases hq)⟩, rfl⟩
      clear hown0 hgrow0
      obtain ⟨p1, rfl⟩ := HP1.out
      have hsz : (madeCells (Value.string ByteArray.empty).cells (m * 1)).toList.length = m := by simp [size_madeCells]
      have HSZ := Lib.hid hsz
      clear hsz HP1
      generalize (madeCells (Value.string ByteArray.empty).cells (m * 1)).toList = ys at H0 HSZ
      have hg0 := p0.size
      generalize p0.w.heap.size = g at H0 hg0
      go_loopw [17] (fun i wr => ∃ k : Nat, k ≤ m ∧ i = .int .i64 k ∧ Hid (wr.ownsRow g 9 1 (.slice (some ⟨g, 0, none⟩) m m) m (strs (ruleTexts (l.take k)) ++ ys.drop k)) ∧ ∃ p : Past w, wr = p.w) (fun i _ => m - (intOf i).toNat)
      case atStart => exact ⟨0, Nat.zero_le _, rfl, Lib.hid (by simpa [ruleTexts] using H0.out), p1, rfl⟩
      case round =>
        obtain ⟨k, hk, rfl, hown, p, rfl⟩ := hrel
        by_cases hlt : k < m
        · have hkl : k < l.length := by rw [HM.out]; exact hlt
          obtain ⟨b, o, rfl, hb, h0, h1⟩ := readsP_at HR.out hkl
          have kp0 := Past.cell h0 (by show b < _; omega) p
          have kp1 := Past.cell h1 (by show b < _; omega) p
          have HST := Lib.hid (texts_set l ys k hkl (by rw [HSZ.out]; exact hlt))
          have HT := Lib.hid fun q : Past w => q.ofB (impl_ruleText (rl l k) q.w)
          clear h0 h1
          generalize rl l k = r at kp0 kp1 HT HST
          obtain ⟨r0, r1⟩ := r
          have HST2 := Lib.hid (HST.out _ rfl)
          clear HST
          generalize ruleText (r0, r1) = t at HT HST2
          have hown1 := hown.out.alloc (.cells #[.int .i64 r0, .int .i64 r1] 28)
          have HPA : Hid (∃ p3 : Past w, p3.w = p.w.alloc (.cells #[.int .i64 r0, .int .i64 r1] 28)) := Lib.hid ⟨p.alloc _, rfl⟩
          go_wp2_with fail
          generalize p.w.alloc (.cells #[.int .i64 r0, .int .i64 r1] 28) = V at HPA hown1 ⊢
          obtain ⟨p3, rfl⟩ := HPA.out
          refine (HT.out p3).mono ?_
          rintro e _ ⟨rfl, p2, rfl, b2⟩
          have hown2 := rowP_same hown1 fun k hk => b2.block k (hown1.lt k hk).2
          have hlen : (strs (ruleTexts (l.take k)) ++ ys.drop k).length = m := by
            have h1 := HSZ.out; have h2 := HM.out
            simp [strs, ruleTexts]; omega
          have hsome : ∃ u, p2.w.cell? ⟨g, k, none⟩ = some u := by
            rw [hown2.cellAt k (by omega)]
            exact ⟨_, List.getElem?_eq_getElem (by omega)⟩
          obtain ⟨u, c2⟩ := hsome
          have hfz : p2.w.frozen? ⟨g, k, none⟩ = false := hown2.frozenAt k
          have st := Lib.hid (hown2.stored k (.string ⟨t.toArray⟩))
          have hgl := (hown2.lt g rfl)
          clear b2 hown2 hown1 hlen hown
          go_wp2_with fail
          go_roundw
          case rel =>
            refine ⟨k + 1, by omega, by simp, Lib.hid ?_, ⟨_, p2.h.grown st.out.2 p2.size fun q hq => by cases hq; exact hg0⟩, rfl⟩
            have := st.out.1
            rwa [HST2.out] at this
          case measure => simp [intOf]; omega
        · have HK := Lib.hid (show k = l.length by have := HM.out; omega)
          have hfull : strs (ruleTexts (l.take k)) ++ ys.drop k = strs (ruleTexts l) := by rw [HK.out, List.take_length, List.drop_of_length_le (by rw [HSZ.out, HM.out]; exact Nat.le_refl _), List.append_nil]
          have O := hown.out
          rw [hfull] at O
          have O2 := Own.made O
          have hjl := join_texts_le l
          have hj := sl_join _ (ruleTexts l) [32] p.w.heap.size p.w O2.reads O2.capOk (Nat.le_refl _) (by simpa [ruleTexts] using HNE.out) (by simp [ruleTexts]; have := HM.out; omega) (by have := HM.out; omega)
          have HE : Hid (joined (ruleTexts l) [32] = Lib.join (ruleTexts l) [32]) := Lib.hid (by
            unfold joined
            rw [if_neg]
            have := HM.out
            omega)
          have HJ := Lib.hid (p.of hj)
          clear O O2 hfull hj hjl hown
          go_wp2_with fail
          refine HJ.out.mono ?_
          rintro e _ ⟨rfl, p2, rfl⟩
          have hbb := p2.h
          go_wp2_with fail
          go_ret
          exact ⟨by rw [HX.out, HE.out]; rfl, hbb⟩
end Go.Proofs.YtmdpiikffnfnbaaGreatDoor.Rule
