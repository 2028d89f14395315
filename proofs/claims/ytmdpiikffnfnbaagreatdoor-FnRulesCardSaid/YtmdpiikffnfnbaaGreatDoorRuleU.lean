/-
  Chapter 9 of the model: texts of rules.
-/
import Derived.Test.YtmdpiikffnfnbaaGreatDoorRuleS
import Derived.Test.YtmdpiikffnfnbaaGreatDoorRuleT
import Derived.BigQuiet
namespace Go.Proofs.YtmdpiikffnfnbaaGreatDoor.Rule
open Go Go.RowKit Mem Sets Ctx Tab Elems Text Joins Strs Cuts Parse
set_option maxRecDepth 100000

theorem join_text62 (l r : List UInt8) (B : ByteArray) (h : B = ⟨#[62]⟩) : Value.string (⟨l.toArray⟩ ++ B ++ ⟨r.toArray⟩) = Value.string ⟨(l ++ 62 :: r).toArray⟩ := by
  subst h
  rw [show l ++ 62 :: r = l ++ [62] ++ r by simp]
  congr 1
set_option maxHeartbeats 1600000 in
theorem spec_ruleText (p : PInt) (w : World) :
    Calls Tryz.prog 28 #[mk p] w fun e w' => e = .returned (.string ⟨(ruleText p).toArray⟩) ∧ Below w.heap.size w w' := by
  obtain ⟨x, y⟩ := p
  have hW := (Below.refl w.heap.size w).alloc (Nat.le_refl _) (.cells #[.int .i64 x, .int .i64 y] 28)
  have q0 : (w.alloc (.cells #[.int .i64 x, .int .i64 y] 28)).cell? ⟨w.heap.size, 0, none⟩ = some (.int .i64 x) := by simp
  have q1 : (w.alloc (.cells #[.int .i64 x, .int .i64 y] 28)).cell? ⟨w.heap.size, 1, none⟩ = some (.int .i64 y) := by simp
  have hz : w.heap.size < (w.alloc (.cells #[.int .i64 x, .int .i64 y] 28)).heap.size := by simp
  go_enter Tryz.func28, Tryz.ntmps28
  go_wp2_with fail
  generalize w.alloc (.cells #[.int .i64 x, .int .i64 y] 28) = W at hW q0 q1 hz ⊢
  have k0 := fun p : Past W => Past.cell q0 (by show w.heap.size < _; omega) p
  have k1 := fun p : Past W => Past.cell q1 (by show w.heap.size < _; omega) p
  have HBW := Lib.hid hW
  have HL := Lib.hid ((Past.start W).of (l9Rule 8 (x, y) W))
  clear hW
  cases hr : isR 8 (x, y) with
  | false =>
    have HX : Hid (ruleText (x, y) = []) := Lib.hid ((ruleText_nil _).2 hr)
    rw [hr] at HL
    clear hr
    refine HL.out.mono ?_
    rintro e _ ⟨rfl, p, rfl⟩
    have hbb := HBW.out.trans (p.h.mono (by omega))
    go_wp2_with fail
    go_ret
    exact ⟨by rw [HX.out]; rfl, hbb⟩
  | true =>
    have HX : Hid (ruleText (x, y) = setText x ++ 62 :: setText y) := Lib.hid (by rw [ruleText, if_pos hr])
    have HT1 := Lib.hid (fun w => spec_text x w)
    have HT2 := Lib.hid (fun w => spec_text y w)
    have hlx := setText_le x
    have hly := setText_le y
    generalize setText x = tx at HX HT1 hlx
    generalize setText y = ty at HX HT2 hly
    have hn1 : ¬ 9223372036854775807 < tx.length + 1 := by omega
    have hn2 : ¬ 9223372036854775807 < tx.length + 1 + ty.length := by omega
    rw [hr] at HL
    clear hr
    refine HL.out.mono ?_
    rintro e _ ⟨rfl, p, rfl⟩
    have HP1 := Lib.hid (fun p : Past W => p.of (HT1.out p.w))
    have HP2 := Lib.hid (fun p : Past W => p.of (HT2.out p.w))
    go_wp2_with fail
    refine wp_region_pastIn p (by kernel_rfl) (by kernel_rfl) ?_
    repeat (go_big_quiet_step (first | with_reducible exact HP1.out _ | with_reducible exact HP2.out _))
    refine wpQuiet_nil ?_
    rintro _ ⟨p2, rfl⟩
    have hbb := HBW.out.trans (p2.h.mono (by omega))
    go_wp2_with fail
    go_ret
    exact ⟨by rw [HX.out, ← join_text62 tx ty _ rfl]; rfl, hbb⟩
theorem texts_step (l : List PInt) (k : Nat) (hk : k < l.length) : strs (ruleTexts (l.take (k + 1))) = strs (ruleTexts (l.take k)) ++ [.string ⟨(ruleText (rl l k)).toArray⟩] := by
  rw [List.take_add_one, List.getElem?_eq_getElem hk, rl, List.getD_eq_getElem?_getD, List.getElem?_eq_getElem hk]
  simp only [ruleTexts, strs, List.map_append, Option.toList_some, List.map_cons, List.map_nil, Option.getD_some]
set_option maxHeartbeats 3200000 in
theorem spec_rulesText (v : Value) (l : List PInt) (B : Nat) (w : World) (hr : ReadsP w B v l) (hB : B ≤ w.heap.size) (hn : l.length ≤ 1048576) :
    Calls Tryz.prog 26 #[v] w fun e w' => e = .returned (.string ⟨(rulesText l).toArray⟩) ∧ Below w.heap.size w w' := by
  obtain ⟨i0, hi, hz0, hz1, hz2⟩ := info_parts infoS
  obtain ⟨a, c, rfl⟩ := hr.form
  have HR := Lib.hid hr
  obtain ⟨m, hm⟩ : ∃ m, l.length = m := ⟨_, rfl⟩
  have HM := Lib.hid hm
  rw [hm] at HR hn ⊢
  by_cases h0 : m = 0
  · have hd : ((m : Int) == 0) = true := by simp [h0]
    have HX : Hid (rulesText l = [110, 111, 110, 101]) := Lib.hid (by rw [rulesText, if_pos (List.length_eq_zero_iff.1 (by omega))])
    clear hr hm h0
    go_enter Tryz.func26, Tryz.ntmps26
    go_wp2_with fail
    go_ret
    exact ⟨by rw [HX.out]; rfl, Below.refl _ _⟩
  · have hd : ((m : Int) == 0) = false := by simp [h0]
    have hne : l ≠ [] := by rintro rfl; simp at hm; omega
    have HX : Hid (allIn 8 l = true → rulesText l = joined (ruleTexts l) [32]) := Lib.hid fun h => by rw [rulesText, if_neg hne, if_pos h]
    have HX0 : Hid (allIn 8 l = false → rulesText l = []) := Lib.hid fun h => by rw [rulesText, if_neg hne, if_neg (by simp [h])]
    clear hr hm h0 hne
    go_enter Tryz.func26, Tryz.ntmps26
    go_wp2_with fail
    go_loopw [3, 4] (fun t i wr => ∃ (k : Nat) (t0 : Value) (p : Past w), k ≤ m ∧ i = .int .i64 k ∧ t = t0 ∧ Hid ((l.take k).all (isR 8) = true) ∧ Hid (p.w.ownsRow w.heap.size 9 1 t0 k (strs (ruleTexts (l.take k)))) ∧ wr = p.w) (fun _ i _ => m - (intOf i).toNat)
    case atStart => exact ⟨0, _, (Past.start w).alloc _, Nat.zero_le _, rfl, rfl, Lib.hid rfl, Lib.hid (World.ownsRow_lit w #[] 0 (Nat.le_refl _) (Nat.zero_le _) rfl), rfl⟩
    case round =>
      obtain ⟨k, t0, p, hk, rfl, rfl, hall, hown, rfl⟩ := hrel
      by_cases hlt : k < m
      · have hkl : k < l.length := by rw [HM.out]; exact hlt
        obtain ⟨b, o, rfl, hb, h0, h1⟩ := readsP_at HR.out hkl
        have c0 := fun q : Past w => Past.cell h0 (by show b < _; omega) q
        have c1 := fun q : Past w => Past.cell h1 (by show b < _; omega) q
        have HT := Lib.hid fun q : Past w => q.ofB (spec_ruleText (rl l k) q.w)
        have HS := Lib.hid fun h => allIn_step (n := 8) hkl hall.out h
        have HF := Lib.hid fun h => allIn_bad (n := 8) (l := l) (k := k) hkl h
        have HST := Lib.hid (texts_step l k hkl)
        have HN := Lib.hid (ruleText_nil (rl l k))
        have hle := ruleText_le (rl l k)
        have hp0 := p.size
        clear h0 h1
        generalize rl l k = q at c0 c1 HT HS HF HST HN hle
        generalize ruleText q = t at HT HST HN hle
        have kp0 := c0 p
        have kp1 := c1 p
        go_wp2_with fail
        refine (HT.out p).mono ?_
        rintro e _ ⟨rfl, p2, rfl, b2⟩
        have HO2 := Lib.hid (rowP_same hown.out fun k hk => b2.block k (hown.out.lt k hk).2)
        have kq0 := c0 p2
        have kq1 := c1 p2
        clear b2
        cases ht : (t == []) with
        | true =>
          have hbb := p2.h
          have HE := Lib.hid (HX0.out (HF.out (HN.out.1 (by simpa using ht))))
          go_wp2_with fail
          go_ret
          exact ⟨by rw [HE.out]; rfl, hbb⟩
        | false =>
          have HA := Lib.hid (HS.out (by
            cases hq : isR 8 q with
            | true => rfl
            | false => rw [HN.out.2 hq] at ht; cases ht))
          have hp2 := p2.size
          go_wp2_with fail
          refine (HT.out p2).mono ?_
          rintro e _ ⟨rfl, p3, rfl, b3⟩
          have HO3 := Lib.hid (rowP_same HO2.out fun k hk => b3.block k (HO2.out.lt k hk).2)
          have hp3 := p3.size
          clear b3
          go_wp2_with (at_builtin; refine wpList_append_own _ rfl _ _ 69 rfl w.heap.size 9 i0 (.string ByteArray.empty) 1 16 Tryz.underlying69 hi hz0 hz1 hz2 rfl (by decide) _ _ _ rfl (HO3.out.alloc _) ⟨p3.w.heap.size, 0, none⟩ 1 1 [.string ⟨t.toArray⟩] rfl rfl ?c1 ?c2 ?c3 ?c4 ?c5 ?_)
          case c1 =>
            intro j u hj
            match j, hj with
            | 0, hj => simp at hj; subst hj; simp [Addr.add]
          case c2 => intro u hu; simp at hu; subst hu; rfl
          case c3 => unfold maxLen; omega
          case c4 => omega
          case c5 => simp; omega
          intro v2 w2 hown' hgrow _
          have hown2 := Lib.hid hown'
          have hgrow2 := Lib.hid hgrow
          clear hown' hgrow
          go_wp2_with fail
          go_roundw
          case rel =>
            refine ⟨k + 1, _, ⟨w2, (p3.h.alloc p3.size _).grown hgrow2.out (by simp; omega) (fun j hj => (HO3.out.lt j hj).1)⟩, by omega, by simp, rfl, HA, Lib.hid ?_, rfl⟩
            rw [HST.out]
            exact hown2.out
          case measure => simp [intOf]; omega
      · have HK := Lib.hid (show k = l.length by have := HM.out; omega)
        have hrow := hown.out
        rw [HK.out, List.take_length] at hrow
        have ho := (Own.made hrow).reads
        have hall2 : allIn 8 l = true := by
          have := hall.out
          rwa [HK.out, List.take_length] at this
        have HE := Lib.hid (HX.out hall2)
        have hj := spec_join _ (ruleTexts l) [32] p.w.heap.size p.w ho (Nat.le_refl _) (by simp [ruleTexts]; have := HM.out; omega) (by simp) (fun j hj => by
          have h2 : (ruleTexts l).getD j [] = ruleText (rl l j) := by
            have h3 : j < l.length := by simpa [ruleTexts] using hj
            rw [List.getD_eq_getElem?_getD, rl, List.getD_eq_getElem?_getD, List.getElem?_eq_getElem h3]
            simp [ruleTexts, h3]
          rw [h2]
          have := ruleText_le (rl l j)
          omega)
        have HJ := Lib.hid (p.of hj)
        clear hrow ho hall2 hj
        go_wp2_with fail
        refine HJ.out.mono ?_
        rintro e _ ⟨rfl, p2, rfl⟩
        have hbb := p2.h
        go_wp2_with fail
        go_ret
        exact ⟨by rw [HE.out]; rfl, hbb⟩
end Go.Proofs.YtmdpiikffnfnbaaGreatDoor.Rule
