/-
  Chapter 9 of the program: rules, what respects them, what is closed by them.
-/
import Derived.Test.YthodmmckekgkdaaRuleS
namespace Go.Proofs.Ythodmmckekgkdaa.Rule
open Go Go.RowKit Mem Sets Ctx Tab
set_option maxRecDepth 100000

theorem sub_le {x s : Int} (hx : 0 ≤ x ∧ x ≤ 255) (hs : 0 ≤ s ∧ s ≤ 255) : sub x s = decide (x.toNat &&& s.toNat = x.toNat) := by
  rw [sub, isSet8_true hx, isSet8_true hs, subB, andL x s hx hs]; rfl
theorem RB_sub {x y s : Int} (hx : 0 ≤ x ∧ x ≤ 255) (hy : 0 ≤ y ∧ y ≤ 255) (hs : 0 ≤ s ∧ s ≤ 255) : RB (x, y) s.toNat = (!sub x s || sub y s) := by
  rw [sub_le hx hs, sub_le hy hs, RB]
  by_cases h : x.toNat &&& s.toNat = x.toNat <;> simp [h]
theorem fires_RB (p : PInt) (s : Nat) : fires p s = !RB p s := by
  cases h : RB p s with
  | true => rw [fires_no.2 h]; rfl
  | false =>
    cases hf : fires p s with
    | true => rfl
    | false => rw [fires_no.1 hf] at h; cases h
theorem isRuleOf (n : Int) (p : PInt) (w : World) :
    Calls Try.prog 105 #[.int .i64 n, mk p] w fun e w' => e = .returned (.bool (isR n p)) ∧ Below w.heap.size w w' := by
  obtain ⟨x, y⟩ := p
  cases h : isSet n x with
  | false =>
    have HX : Hid (isR n (x, y) = false) := Lib.hid (by rw [isR, h]; rfl)
    go_enter Try.func105, Try.ntmps105
    go_wp2_with fail
    refine (impl_isSet n x _).mono ?_
    rintro e w' ⟨rfl, hw⟩
    subst w'
    rw [h]
    go_wp2_with fail
    go_ret
    exact ⟨by rw [HX.out]; rfl, (Below.refl _ _).alloc (Nat.le_refl _) _⟩
  | true =>
    have HX : Hid (isR n (x, y) = isSet n y) := Lib.hid (by rw [isR, h]; rfl)
    go_enter Try.func105, Try.ntmps105
    go_wp2_with fail
    refine (impl_isSet n x _).mono ?_
    rintro e w' ⟨rfl, hw⟩
    subst w'
    rw [h]
    go_wp2_with fail
    refine (impl_isSet n y _).mono ?_
    rintro e w' ⟨rfl, hw⟩
    subst w'
    go_wp2_with fail
    go_ret
    exact ⟨by rw [HX.out]; rfl, (Below.refl _ _).alloc (Nat.le_refl _) _⟩
set_option maxHeartbeats 1600000 in
theorem areRulesOf (n : Int) (v : Value) (l : List PInt) (B : Nat) (w : World) (hr : ReadsP w B v l) (hB : B ≤ w.heap.size) :
    Calls Try.prog 86 #[.int .i64 n, v] w fun e w' => e = .returned (.bool (allIn n l)) ∧ Below w.heap.size w w' := by
  obtain ⟨a, c, rfl⟩ := hr.form
  have hlen := hr.1
  unfold maxLen at hlen
  have HR := Lib.hid hr
  obtain ⟨m, hm⟩ : ∃ m, l.length = m := ⟨_, rfl⟩
  have HM := Lib.hid hm
  rw [hm] at HR hlen ⊢
  clear hr hm
  go_enter Try.func86, Try.ntmps86
  go_wp2_with fail
  go_loopw [9] (fun i wr => ∃ k : Nat, k ≤ m ∧ i = .int .i64 k ∧ Hid ((l.take k).all (isR n) = true) ∧ ∃ p : Past w, wr = p.w) (fun i _ => m - (intOf i).toNat)
  case atStart => exact ⟨0, Nat.zero_le _, rfl, Lib.hid rfl, Past.start w, rfl⟩
  case round =>
    obtain ⟨k, hk, rfl, hall, p, rfl⟩ := hrel
    by_cases hlt : k < m
    · obtain ⟨b, o, rfl, hb, h0, h1⟩ := readsP_at HR.out (k := k) (by rw [HM.out]; exact hlt)
      have c0 := Past.cell h0 (by show b < _; omega) p
      have c1 := Past.cell h1 (by show b < _; omega) p
      have HL := Lib.hid fun p : Past w => p.of (isRuleOf n (rl l k) p.w)
      have HS := Lib.hid fun h => allIn_step (n := n) (by rw [HM.out]; exact hlt) hall.out h
      have HF := Lib.hid fun h => allIn_bad (n := n) (l := l) (k := k) (by rw [HM.out]; exact hlt) h
      clear h0 h1
      generalize rl l k = q at c0 c1 HL HS HF
      obtain ⟨q0, q1⟩ := q
      cases hq : isR n (q0, q1) with
      | true =>
        have HA := Lib.hid (HS.out hq)
        rw [hq] at HL
        clear hq
        go_wp2_with fail
        refine (HL.out (p.alloc _)).mono ?_
        rintro e _ ⟨rfl, p2, rfl⟩
        go_wp2_with fail
        go_roundw
        case rel => exact ⟨k + 1, by omega, by simp, HA, p2, rfl⟩
        case measure => simp [intOf]; omega
      | false =>
        have HA := Lib.hid (HF.out hq)
        rw [hq] at HL
        clear hq
        go_wp2_with fail
        refine (HL.out (p.alloc _)).mono ?_
        rintro e _ ⟨rfl, p2, rfl⟩
        have hbb := p2.h
        go_wp2_with fail
        go_ret
        exact ⟨by rw [HA.out]; rfl, hbb⟩
    · have HA : Hid (allIn n l = true) := Lib.hid (by
        have := hall.out
        rwa [List.take_of_length_le (by have := HM.out; omega)] at this)
      have hbb := p.h
      go_wp2_with fail
      go_ret
      exact ⟨by rw [HA.out]; rfl, hbb⟩
set_option maxHeartbeats 1600000 in
theorem impl_areRules (n : Int) (v : Value) (l : List PInt) (B : Nat) (w : World) (hr : ReadsP w B v l) (hB : B ≤ w.heap.size) :
    Calls Try.prog 61 #[.int .i64 n, v] w fun e w' => e = .returned (.bool (areR n l)) ∧ Below w.heap.size w w' := by
  have HL := Lib.hid (areRulesOf n v l B w hr hB)
  obtain ⟨a, c, rfl⟩ := hr.form
  obtain ⟨m, hm⟩ : ∃ m, l.length = m := ⟨_, rfl⟩
  have HX : Hid (areR n l = (decide (0 ≤ n) && (decide (n ≤ 6) && (decide ((m : Int) ≤ 40) && allIn n l)))) := Lib.hid (by
    rw [areR, ← hm]
    by_cases h1 : 0 ≤ n <;> by_cases h2 : n ≤ 6 <;> by_cases h3 : l.length ≤ 40 <;> simp [h1, h2, h3, Bool.and_comm] <;> omega)
  rw [hm] at HL ⊢
  clear hr hm
  by_cases h1 : 0 ≤ n
  · by_cases h2 : n ≤ 6
    · by_cases h3 : (m : Int) ≤ 40
      · rw [decide_eq_true h1, decide_eq_true h2, decide_eq_true h3] at HX
        have d3 : decide ((m : Int) ≤ 40) = true := decide_eq_true h3
        go_enter Try.func61, Try.ntmps61
        go_wp2_with fail
        refine HL.out.mono ?_
        rintro e w' ⟨rfl, hbb⟩
        go_wp2_with fail
        go_ret
        exact ⟨by rw [HX.out]; rfl, hbb⟩
      · rw [decide_eq_true h1, decide_eq_true h2, decide_eq_false h3] at HX
        have d3 : decide ((m : Int) ≤ 40) = false := decide_eq_false h3
        clear HL
        go_enter Try.func61, Try.ntmps61
        go_wp2_with fail
        go_ret
        exact ⟨by rw [HX.out]; rfl, Below.refl _ _⟩
    · rw [decide_eq_true h1, decide_eq_false h2] at HX
      clear HL
      go_enter Try.func61, Try.ntmps61
      go_wp2_with fail
      go_ret
      exact ⟨by rw [HX.out]; rfl, Below.refl _ _⟩
  · rw [decide_eq_false h1] at HX
    clear HL
    go_enter Try.func61, Try.ntmps61
    go_wp2_with fail
    go_ret
    exact ⟨by rw [HX.out]; rfl, Below.refl _ _⟩
theorem respects_fn (x y s : Int) (b : Nat) (w : World) (hb : BoxAt w b 43 #[.int .i64 x, .int .i64 y]) (hx : 0 ≤ x ∧ x ≤ 255) (hy : 0 ≤ y ∧ y ≤ 255) (hs : 0 ≤ s ∧ s ≤ 255) :
    Calls Try.prog 122 #[.int .i64 s, .pointer (some ⟨b, 0, none⟩)] w fun e w' => e = .returned (.bool (RB (x, y) s.toNat)) ∧ w' = w := by
  have c0 : w.cell? ⟨b, 0, none⟩ = some (.int .i64 x) := hb.cell 0
  have c1 : w.cell? ⟨b, 1, none⟩ = some (.int .i64 y) := hb.cell 1
  have HX := Lib.hid (RB_sub hx hy hs)
  have H1 := Lib.hid (impl_sub x s w)
  have H2 := Lib.hid (impl_sub y s w)
  obtain ⟨d1, h1⟩ : ∃ d, sub x s = d := ⟨_, rfl⟩
  obtain ⟨d2, h2⟩ : ∃ d, sub y s = d := ⟨_, rfl⟩
  rw [h1] at H1 HX
  rw [h2] at H2 HX
  clear hb hx hy hs h1 h2
  cases d1 with
  | true =>
    go_enter Try.func122, Try.ntmps122
    go_wp2_with fail
    refine H1.out.mono ?_
    rintro e w' ⟨rfl, hw⟩
    subst w'
    go_wp2_with fail
    refine H2.out.mono ?_
    rintro e w' ⟨rfl, hw⟩
    subst w'
    go_wp2_with fail
    go_ret
    exact ⟨by rw [HX.out]; rfl, rfl⟩
  | false =>
    go_enter Try.func122, Try.ntmps122
    go_wp2_with fail
    refine H1.out.mono ?_
    rintro e w' ⟨rfl, hw⟩
    subst w'
    go_wp2_with fail
    go_ret
    exact ⟨by rw [HX.out]; rfl, rfl⟩
theorem respecting (x y : Int) (w : World) :
    Calls Try.prog 106 #[mk (x, y)] w fun e w' => e = .returned (.func (.func 122) #[] #[.pointer (some ⟨w.heap.size, 0, none⟩)]) ∧ w' = w.alloc (.cells #[.int .i64 x, .int .i64 y] 43) := by
  go_enter Try.func106, Try.ntmps106
  go_wp2_with fail
  go_ret
  exact ⟨rfl, rfl⟩
end Go.Proofs.Ythodmmckekgkdaa.Rule
