/-
  Chapter 11 of the program: proofs and whether they are right.
-/
import Derived.Test.YtgkoggajdhibdaaInfK
import Derived.Test.YtgkoggajdhibdaaInfV
namespace Go.Proofs.Ytgkoggajdhibdaa.Infer
open Go Go.RowKit Mem Sets Ctx Tab Rule Stem Lectic
set_option maxRecDepth 100000

theorem follows_no1 {l : List PInt} {r : PInt} (h : allIn 8 l = false) : follows l r = false := by rw [follows, h]; rfl
theorem follows_no2 {l : List PInt} {r : PInt} (h : isR 8 r = false) : follows l r = false := by rw [follows, h, Bool.and_false]; rfl
theorem proofOf_no {l : List PInt} {r : PInt} (h : follows l r = false) : proofOf l r = [] := by rw [proofOf, if_neg (by rw [h]; decide)]
set_option maxHeartbeats 6400000 in
theorem impl_proof (v : Value) (l : List PInt) (r : PInt) (B : Nat) (w : World) (hr : ReadsP w B v l) (hB : B ≤ w.heap.size) :
    Calls Try.prog 37 #[v, Rule.mk r] w fun e w' => ∃ u, e = .returned (.tuple #[u, .bool (follows l r)]) ∧ OwnP 104 w' w.heap.size w'.heap.size u (proofOf l r) ∧ Below w.heap.size w w' := by
  obtain ⟨x, y⟩ := r
  have hW := (Below.refl w.heap.size w).alloc (Nat.le_refl _) (.cells #[.int .i64 x, .int .i64 y] 43)
  have q0 : (w.alloc (.cells #[.int .i64 x, .int .i64 y] 43)).cell? ⟨w.heap.size, 0, none⟩ = some (.int .i64 x) := by simp
  have q1 : (w.alloc (.cells #[.int .i64 x, .int .i64 y] 43)).cell? ⟨w.heap.size, 1, none⟩ = some (.int .i64 y) := by simp
  have hz : w.heap.size < (w.alloc (.cells #[.int .i64 x, .int .i64 y] 43)).heap.size := by simp
  have HR := Lib.hid (hr.below hW hB)
  obtain ⟨a, c, rfl⟩ := hr.form
  clear hr
  go_enter Try.func37, Try.ntmps37
  go_wp2_with fail
  generalize w.alloc (.cells #[.int .i64 x, .int .i64 y] 43) = W at hW q0 q1 hz HR ⊢
  have hBW : B ≤ W.heap.size := by omega
  have k0 := fun p : Past W => Past.cell q0 (by show w.heap.size < _; omega) p
  have k1 := fun p : Past W => Past.cell q1 (by show w.heap.size < _; omega) p
  have HBW := Lib.hid hW
  have HA := Lib.hid ((Past.start W).of (areRulesOf 8 (.slice a l.length c) l B W HR.out hBW))
  have HQ := Lib.hid fun p : Past W => p.of (isRuleOf 8 (x, y) p.w)
  have HOL := Lib.hid fun p : Past W => OwnP.made (l := []) (n := 0) (World.ownsRow_nil p.w w.heap.size 104 2)
  clear hW q0 q1
  cases h8 : allIn 8 l with
  | false =>
    have HFA := Lib.hid (follows_no1 (r := (x, y)) h8)
    have HX := Lib.hid (proofOf_no HFA.out)
    rw [h8] at HA
    clear h8
    refine HA.out.mono ?_
    rintro e _ ⟨rfl, p, rfl⟩
    have hbb := HBW.out.trans (p.h.mono (by omega))
    go_wp2_with fail
    go_ret2
    exact ⟨_, by rw [HFA.out]; rfl, by rw [HX.out]; exact HOL.out p, hbb⟩
  | true =>
    rw [h8] at HA
    cases hq : isR 8 (x, y) with
    | false =>
      have HFA := Lib.hid (follows_no2 (l := l) hq)
      have HX := Lib.hid (proofOf_no HFA.out)
      rw [hq] at HQ
      clear h8 hq
      refine HA.out.mono ?_
      rintro e _ ⟨rfl, p, rfl⟩
      have kp0 := k0 p
      have kp1 := k1 p
      go_wp2_with fail
      refine (HQ.out p).mono ?_
      rintro e _ ⟨rfl, p2, rfl⟩
      have hbb := HBW.out.trans (p2.h.mono (by omega))
      go_wp2_with fail
      go_ret2
      exact ⟨_, by rw [HFA.out]; rfl, by rw [HX.out]; exact HOL.out p2, hbb⟩
    | true =>
      have hq2 := hq
      unfold isR at hq2
      rw [Bool.and_eq_true] at hq2
      have hx := set8 hq2.1
      have hy := set8 hq2.2
      obtain ⟨s0, rfl⟩ := Int.eq_ofNat_of_zero_le hx.1
      obtain ⟨t, rfl⟩ := Int.eq_ofNat_of_zero_le hy.1
      have hs0 : s0 < 256 := by omega
      have ht : t < 256 := by omega
      have hfo : follows l ((s0 : Int), (t : Int)) = decide (t &&& Rule.cl l s0 = t) := by
        rw [follows, h8, hq]; simp only [Int.toNat_natCast]; rfl
      have HP : Hid (∀ h : t &&& Rule.cl l s0 = t, proofOf l ((s0 : Int), (t : Int)) = steps l t 256 s0) := Lib.hid fun h => by
        rw [proofOf, if_pos (by rw [hfo]; exact decide_eq_true h)]; simp only [Int.toNat_natCast]
      have HFO := Lib.hid hfo
      have HST := Lib.hid fun p : Past W => impl_steps (.slice a l.length c) l s0 t B p.w (HR.out.below p.h hBW) (Nat.le_trans hBW p.size) h8 hs0 ht
      rw [hq] at HQ
      clear h8 hq hq2 hfo
      refine HA.out.mono ?_
      rintro e _ ⟨rfl, p, rfl⟩
      have kp0 := k0 p
      have kp1 := k1 p
      go_wp2_with fail
      refine (HQ.out p).mono ?_
      rintro e _ ⟨rfl, p2, rfl⟩
      have kq0 := k0 p2
      have kq1 := k1 p2
      go_wp2_with fail
      refine (HST.out p2).mono ?_
      rintro e w3 ⟨u, s, dn, rfl, o3, b3, hs, hiff, hdn⟩
      have HP3 : Hid (∃ p3 : Past W, p3.w = w3) := Lib.hid ⟨⟨w3, p2.h.trans (b3.mono p2.size)⟩, rfl⟩
      have hp2z := p2.size
      have HO3 := Lib.hid (o3.mono (lo' := w.heap.size) (by omega) (Nat.le_refl _))
      have HDN := Lib.hid hdn
      have HIF := Lib.hid hiff
      obtain ⟨p3, rfl⟩ := HP3.out
      obtain ⟨au, cu, rfl⟩ := HO3.out.form
      have kr1 := k1 p3
      have HSU := Lib.hid (by have := impl_sub (t : Int) (s : Int) p3.w; rw [sub_nat ht hs] at this; exact this : Calls Try.prog 102 #[.int .i64 (t : Int), .int .i64 (s : Int)] p3.w fun e w' => e = .returned (.bool (decide (t &&& s = t))) ∧ w' = p3.w)
      have hbb := HBW.out.trans (p3.h.mono (by omega))
      clear o3 b3 hdn hiff HP3
      by_cases hts : t &&& s = t
      · have HFA : Hid (follows l ((s0 : Int), (t : Int)) = true) := Lib.hid (by rw [HFO.out]; exact decide_eq_true (HIF.out.1 hts))
        have HX : Hid (proofOf l ((s0 : Int), (t : Int)) = dn) := Lib.hid (by rw [HP.out (HIF.out.1 hts), HDN.out hts])
        rw [decide_eq_true hts] at HSU
        clear hts
        go_wp2_with fail
        refine HSU.out.mono ?_
        rintro e w' ⟨rfl, hw⟩
        subst w'
        go_wp2_with fail
        go_ret2
        exact ⟨_, by rw [HFA.out]; rfl, by rw [HX.out]; exact HO3.out, hbb⟩
      · have HFA : Hid (follows l ((s0 : Int), (t : Int)) = false) := Lib.hid (by rw [HFO.out]; exact decide_eq_false fun h => hts (HIF.out.2 h))
        have HX := Lib.hid (proofOf_no HFA.out)
        rw [decide_eq_false hts] at HSU
        clear hts
        go_wp2_with fail
        refine HSU.out.mono ?_
        rintro e w' ⟨rfl, hw⟩
        subst w'
        go_wp2_with fail
        go_ret2
        exact ⟨_, by rw [HFA.out]; rfl, by rw [HX.out]; exact HOL.out p3, hbb⟩
theorem stepOk_no {l : List PInt} {s : Nat} {p : PInt} (h : ¬ (0 ≤ p.1 ∧ p.1 ≤ (l.length : Int) - 1)) : stepOk l s p = false := by rw [stepOk, decide_eq_false h]; rfl
theorem stepOk_nat {l : List PInt} {s j : Nat} {z : Int} (h : j < l.length) : stepOk l s ((j : Int), z) = stepIn (rl l j) s z := by
  rw [stepOk, decide_eq_true (show 0 ≤ ((j : Int), z).1 ∧ ((j : Int), z).1 ≤ (l.length : Int) - 1 from ⟨by show (0 : Int) ≤ (j : Int); omega, by show (j : Int) ≤ _; omega⟩)]
  show (true && stepIn (rl l ((j : Int)).toNat) s z) = _
  rw [Int.toNat_natCast]; rfl
theorem eq_dec (x : Int) (z : Nat) : (x == (z : Int)) = decide (x = (z : Int)) := by
  by_cases h : x = (z : Int) <;> simp [h]
set_option maxHeartbeats 3200000 in
theorem impl_right (v : Value) (l : List PInt) (s : Nat) (st : PInt) (B : Nat) (w : World) (hr : ReadsP w B v l) (hB : B ≤ w.heap.size) (h8 : allIn 8 l = true) (hs : s < 256) :
    Calls Try.prog 115 #[v, .int .i64 (s : Int), PStep.mk st] w fun e w' => e = .returned (.bool (stepOk l s st)) ∧ Below w.heap.size w w' := by
  obtain ⟨g, z⟩ := st
  have hW := (Below.refl w.heap.size w).alloc (Nat.le_refl _) (.cells #[.int .i64 g, .int .i64 z] 104)
  have q0 : (w.alloc (.cells #[.int .i64 g, .int .i64 z] 104)).cell? ⟨w.heap.size, 0, none⟩ = some (.int .i64 g) := by simp
  have q1 : (w.alloc (.cells #[.int .i64 g, .int .i64 z] 104)).cell? ⟨w.heap.size, 1, none⟩ = some (.int .i64 z) := by simp
  have hz : w.heap.size < (w.alloc (.cells #[.int .i64 g, .int .i64 z] 104)).heap.size := by simp
  have HR := Lib.hid (hr.below hW hB)
  obtain ⟨a, c, rfl⟩ := hr.form
  have hlen := hr.1
  unfold maxLen at hlen
  clear hr
  by_cases hg : 0 ≤ g ∧ g ≤ (l.length : Int) - 1
  · obtain ⟨j, rfl⟩ := Int.eq_ofNat_of_zero_le hg.1
    have hj : j < l.length := by omega
    have HX := Lib.hid (stepOk_nat (s := s) (z := z) hj)
    have d1 : decide ((j : Int) < 0) = false := by simp
    have d2 : decide ((l.length : Int) ≤ (j : Int)) = false := by simp; omega
    have hjl : (j : Int) < (l.length : Int) := by omega
    have hrr := allIn_rl h8 hj
    have hr0 := set8 hrr.1
    have hr1 := set8 hrr.2
    clear hrr h8 hg
    go_enter Try.func115, Try.ntmps115
    go_upto_region 1 with fail
    generalize w.alloc (.cells #[.int .i64 (j : Int), .int .i64 z] 104) = W at hW q0 q1 hz HR ⊢
    have HBW := Lib.hid hW
    obtain ⟨b, o, rfl, hb, h0, h1⟩ := readsP_at HR.out hj
    clear hW
    generalize rl l j = rr at h0 h1 hr0 hr1 HX
    obtain ⟨r0, r1⟩ := rr
    simp only at hr0 hr1 h0 h1
    obtain ⟨u, rfl⟩ := Int.eq_ofNat_of_zero_le hr0.1
    obtain ⟨t1, rfl⟩ := Int.eq_ofNat_of_zero_le hr1.1
    rw [stepIn_nat] at HX
    have hor := or_nat' s t1 hs (by omega)
    have hsu := fun w => (by have := impl_sub (u : Int) (s : Int) w; rw [sub_nat (by omega) hs] at this; exact this : Calls Try.prog 102 #[.int .i64 (u : Int), .int .i64 (s : Int)] w fun e w' => e = .returned (.bool (decide (u &&& s = u))) ∧ w' = w)
    have HSU := Lib.hid hsu
    have e2 := eq_dec z (s ||| t1)
    generalize s ||| t1 = s2 at hor HX e2
    obtain ⟨f1, hf1⟩ : ∃ f, decide (u &&& s = u) = f := ⟨_, rfl⟩
    obtain ⟨f2, hf2⟩ : ∃ f, decide (z = (s2 : Int)) = f := ⟨_, rfl⟩
    rw [hf1] at HX HSU
    rw [hf2] at HX e2
    have hbx := Lib.hid (HBW.out.alloc (by omega) (.cells #[.int .i64 (u : Int), .int .i64 (t1 : Int)] 43))
    have a0 : (W.alloc (.cells #[.int .i64 (u : Int), .int .i64 (t1 : Int)] 43)).cell? ⟨w.heap.size, 0, none⟩ = some (.int .i64 (j : Int)) := (World.cell?_alloc_lt W _ _ (by show w.heap.size < _; omega)).trans q0
    have a1 : (W.alloc (.cells #[.int .i64 (u : Int), .int .i64 (t1 : Int)] 43)).cell? ⟨w.heap.size, 1, none⟩ = some (.int .i64 z) := (World.cell?_alloc_lt W _ _ (by show w.heap.size < _; omega)).trans q1
    clear hf1 hf2 hsu
    cases f1 with
    | false =>
      go_wp2_with fail
      refine (HSU.out _).mono ?_
      rintro e w' ⟨rfl, hw⟩
      subst w'
      go_wp2_with fail
      go_ret
      exact ⟨by rw [HX.out]; rfl, hbx.out⟩
    | true =>
      go_wp2_with fail
      refine (HSU.out _).mono ?_
      rintro e w' ⟨rfl, hw⟩
      subst w'
      go_wp2_with fail
      go_ret
      exact ⟨by rw [HX.out]; rfl, hbx.out⟩
  · have HX := Lib.hid (stepOk_no (s := s) (p := (g, z)) hg)
    by_cases hg0 : g < 0
    · have d1 : decide (g < 0) = true := decide_eq_true hg0
      clear hg h8
      go_enter Try.func115, Try.ntmps115
      go_upto_region 1 with fail
      generalize w.alloc (.cells #[.int .i64 g, .int .i64 z] 104) = W at hW q0 q1 hz HR ⊢
      go_wp2_with fail
      go_ret
      exact ⟨by rw [HX.out]; rfl, hW⟩
    · have d1 : decide (g < 0) = false := decide_eq_false hg0
      have d2 : decide ((l.length : Int) ≤ g) = true := by simp; omega
      clear hg h8
      go_enter Try.func115, Try.ntmps115
      go_upto_region 1 with fail
      generalize w.alloc (.cells #[.int .i64 g, .int .i64 z] 104) = W at hW q0 q1 hz HR ⊢
      go_wp2_with fail
      go_ret
      exact ⟨by rw [HX.out]; rfl, hW⟩
set_option maxHeartbeats 6400000 in
theorem impl_check (v vs : Value) (l ps : List PInt) (r : PInt) (B : Nat) (w : World) (hr : ReadsP w B v l) (hs : ReadsP w B vs ps) (hB : B ≤ w.heap.size) :
    Calls Try.prog 50 #[v, Rule.mk r, vs] w fun e w' => e = .returned (.bool (checkProof l r ps)) ∧ Below w.heap.size w w' := by
  obtain ⟨x, y⟩ := r
  have hW := (Below.refl w.heap.size w).alloc (Nat.le_refl _) (.cells #[.int .i64 x, .int .i64 y] 43)
  have q0 : (w.alloc (.cells #[.int .i64 x, .int .i64 y] 43)).cell? ⟨w.heap.size, 0, none⟩ = some (.int .i64 x) := by simp
  have q1 : (w.alloc (.cells #[.int .i64 x, .int .i64 y] 43)).cell? ⟨w.heap.size, 1, none⟩ = some (.int .i64 y) := by simp
  have hz : w.heap.size < (w.alloc (.cells #[.int .i64 x, .int .i64 y] 43)).heap.size := by simp
  have HR := Lib.hid (hr.below hW hB)
  have HRS := Lib.hid (hs.below hW hB)
  obtain ⟨a, c, rfl⟩ := hr.form
  obtain ⟨as1, cs1, rfl⟩ := hs.form
  have hlen2 := hs.1
  unfold maxLen at hlen2
  clear hr hs
  go_enter Try.func50, Try.ntmps50
  go_wp2_with fail
  generalize w.alloc (.cells #[.int .i64 x, .int .i64 y] 43) = W at hW q0 q1 hz HR HRS ⊢
  have hBW : B ≤ W.heap.size := by omega
  have k0 := fun p : Past W => Past.cell q0 (by show w.heap.size < _; omega) p
  have k1 := fun p : Past W => Past.cell q1 (by show w.heap.size < _; omega) p
  have HBW := Lib.hid hW
  have HA := Lib.hid ((Past.start W).of (areRulesOf 8 (.slice a l.length c) l B W HR.out hBW))
  have HQ := Lib.hid fun p : Past W => p.of (isRuleOf 8 (x, y) p.w)
  clear hW q0 q1
  cases h8 : allIn 8 l with
  | false =>
    have HX := Lib.hid (checkProof_no1 (r := (x, y)) (ps := ps) h8)
    rw [h8] at HA
    clear h8
    refine HA.out.mono ?_
    rintro e _ ⟨rfl, p, rfl⟩
    have hbb := HBW.out.trans (p.h.mono (by omega))
    go_wp2_with fail
    go_ret
    exact ⟨by rw [HX.out]; rfl, hbb⟩
  | true =>
    rw [h8] at HA
    cases hq : isR 8 (x, y) with
    | false =>
      have HX := Lib.hid (checkProof_no2 (l := l) (ps := ps) hq)
      rw [hq] at HQ
      clear h8 hq
      refine HA.out.mono ?_
      rintro e _ ⟨rfl, p, rfl⟩
      have kp0 := k0 p
      have kp1 := k1 p
      go_wp2_with fail
      refine (HQ.out p).mono ?_
      rintro e _ ⟨rfl, p2, rfl⟩
      have hbb := HBW.out.trans (p2.h.mono (by omega))
      go_wp2_with fail
      go_ret
      exact ⟨by rw [HX.out]; rfl, hbb⟩
    | true =>
      have HX := Lib.hid (checkProof_yes (ps := ps) h8 hq)
      have hq2 := hq
      unfold isR at hq2
      rw [Bool.and_eq_true] at hq2
      have hx := set8 hq2.1
      have hy := set8 hq2.2
      obtain ⟨s0, rfl⟩ := Int.eq_ofNat_of_zero_le hx.1
      obtain ⟨t, rfl⟩ := Int.eq_ofNat_of_zero_le hy.1
      have hs0 : s0 < 256 := by omega
      have ht : t < 256 := by omega
      simp only [Int.toNat_natCast] at HX
      have H8 := Lib.hid h8
      have HRT := Lib.hid fun (p : Past W) (s : Nat) (hs : s < 256) (st : PInt) => p.ofB (impl_right (.slice a l.length c) l s st B p.w (HR.out.below p.h hBW) (Nat.le_trans hBW p.size) h8 hs)
      rw [hq] at HQ
      clear h8 hq hq2
      obtain ⟨n, hn⟩ : ∃ n, ps.length = n := ⟨_, rfl⟩
      have HN := Lib.hid hn
      rw [hn] at HRS hlen2 ⊢
      clear hn
      refine HA.out.mono ?_
      rintro e _ ⟨rfl, p, rfl⟩
      have kp0 := k0 p
      have kp1 := k1 p
      go_wp2_with fail
      refine (HQ.out p).mono ?_
      rintro e _ ⟨rfl, p2, rfl⟩
      have kq0 := k0 p2
      have kq1 := k1 p2
      clear kp0 kp1 HA HQ
      go_wp2_with fail
      go_loopw [7, 22] (fun sv kv wr => ∃ (s k : Nat) (p : Past W), s < 256 ∧ sv = .int .i64 s ∧ k ≤ n ∧ kv = .int .i64 k ∧ Hid (checkProof l ((s0 : Int), (t : Int)) ps = ends t (chk l s (ps.drop k))) ∧ wr = p.w) (fun _ kv _ => n - (intOf kv).toNat)
      case atStart => exact ⟨s0, 0, p2, hs0, rfl, Nat.zero_le _, rfl, HX, rfl⟩
      case round =>
        obtain ⟨s, k, p, hs, rfl, hk, rfl, HC, rfl⟩ := hrel
        by_cases hlt : k < n
        · have hkl : k < ps.length := by rw [HN.out]; exact hlt
          obtain ⟨b, o, rfl, hb, h0, h1⟩ := readsP_at (by have := HRS.out; rw [← HN.out] at this; exact this) hkl
          have cp0 := Past.cell h0 (by show b < _; omega) p
          have cp1 := Past.cell h1 (by show b < _; omega) p
          have HCS := Lib.hid (chk_step (l := l) (s := s) hkl)
          have HSI := Lib.hid fun j (hj : j < l.length) => allIn_rl H8.out hj
          clear h0 h1
          generalize rl ps k = st at cp0 cp1 HCS
          obtain ⟨g, z⟩ := st
          simp only at cp0 cp1
          have HO := Lib.hid (HRT.out (p.alloc (.cells #[.int .i64 g, .int .i64 z] 104)) s hs (g, z))
          have hpz := p.size
          have hb1 : (p.w.alloc (.cells #[.int .i64 g, .int .i64 z] 104)).cell? ⟨p.w.heap.size, 1, none⟩ = some (.int .i64 z) := by simp
          cases hok : stepOk l s (g, z) with
          | false =>
            have HE : Hid (checkProof l ((s0 : Int), (t : Int)) ps = false) := Lib.hid (by rw [HC.out, HCS.out, hok]; rfl)
            rw [hok] at HO
            clear hok
            go_wp2_with fail
            refine HO.out.mono ?_
            rintro e _ ⟨rfl, p3, rfl, -⟩
            have hbb := HBW.out.trans (p3.h.mono (by omega))
            go_wp2_with fail
            go_ret
            exact ⟨by rw [HE.out]; rfl, hbb⟩
          | true =>
            have hin := hok
            rw [stepOk, Bool.and_eq_true, decide_eq_true_eq, stepIn, Bool.and_eq_true, decide_eq_true_eq, decide_eq_true_eq] at hin
            obtain ⟨⟨hg0, hg1⟩, -, hzz⟩ := hin
            simp only at hg0 hg1 hzz
            have hgl : g.toNat < l.length := by omega
            have hlt8 := allIn_lt H8.out hgl
            have HE : Hid (checkProof l ((s0 : Int), (t : Int)) ps = ends t (chk l (s ||| (rl l g.toNat).2.toNat) (ps.drop (k + 1)))) := Lib.hid (by rw [HC.out, HCS.out, hok]; rfl)
            have hs2 : s ||| (rl l g.toNat).2.toNat < 256 := Nat.or_lt_two_pow (n := 8) hs hlt8
            rw [hok] at HO
            clear hok hlt8
            generalize s ||| (rl l g.toNat).2.toNat = s2 at hzz HE hs2
            subst hzz
            go_wp2_with fail
            refine HO.out.mono ?_
            rintro e _ ⟨rfl, p3, rfl, b3⟩
            have cq1 : p3.w.cell? ⟨p.w.heap.size, 1, none⟩ = some (.int .i64 (s2 : Int)) := (b3.cell (p := ⟨p.w.heap.size, 1, none⟩) (by show p.w.heap.size < (p.w.alloc _).heap.size; simp)).trans hb1
            clear b3
            go_wp2_with fail
            go_roundw
            case rel => exact ⟨s2, k + 1, p3, hs2, rfl, by omega, by simp, HE, rfl⟩
            case measure => simp [intOf]; omega
        · have HE : Hid (checkProof l ((s0 : Int), (t : Int)) ps = decide (t &&& s = t)) := Lib.hid (by
            rw [HC.out, chk_end (by have := HN.out; omega)]; rfl)
          have HSU := Lib.hid (by have := impl_sub (t : Int) (s : Int) p.w; rw [sub_nat ht hs] at this; exact this : Calls Try.prog 102 #[.int .i64 (t : Int), .int .i64 (s : Int)] p.w fun e w' => e = .returned (.bool (decide (t &&& s = t))) ∧ w' = p.w)
          have hbb := HBW.out.trans (p.h.mono (by omega))
          have kp0 := k0 p
          have kp1 := k1 p
          go_wp2_with fail
          refine HSU.out.mono ?_
          rintro e w' ⟨rfl, hw⟩
          subst w'
          go_wp2_with fail
          go_ret
          exact ⟨by rw [HE.out]; rfl, hbb⟩
end Go.Proofs.Ytgkoggajdhibdaa.Infer
