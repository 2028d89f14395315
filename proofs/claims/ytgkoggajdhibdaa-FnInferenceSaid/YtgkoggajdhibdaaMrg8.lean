/-
  Chapter 11 of the model: proofs.
-/
import Derived.Test.YtgkoggajdhibdaaInfT
import Derived.Test.YtgkoggajdhibdaaPStep
namespace Go.Proofs.Ytgkoggajdhibdaa.Infer
open Go Go.RowKit Mem Sets Ctx Tab Rule Stem Lectic
set_option maxRecDepth 100000

theorem andE (x s : Int) (hx : 0 ≤ x ∧ x ≤ 255) (hs : 0 ≤ s ∧ s ≤ 255) : (bits .and .i64 x s == s) = decide (s.toNat &&& x.toNat = s.toNat) := by
  have h := andR x s hx hs
  rw [bne] at h
  cases h1 : (bits .and .i64 x s == s) <;> rw [h1] at h <;> simpa using h
theorem steps_done {l : List PInt} {t f s : Nat} (h : t &&& s = t) : steps l t f s = [] := by
  cases f with
  | zero => rfl
  | succ f => rw [steps, if_pos h]
theorem steps_more {l : List PInt} {t f s : Nat} (h : ¬ t &&& s = t) : steps l t (f + 1) s = (((badAt l s : Nat) : Int), ((s ||| (rl l (badAt l s)).2.toNat : Nat) : Int)) :: steps l t f (s ||| (rl l (badAt l s)).2.toNat) := by rw [steps, if_neg h]
theorem resp_RB {p : PInt} {s : Nat} (hp : isR 8 p = true) (hs : s < 256) : resp p (s : Int) = RB p s := by
  rw [resp, hp, isSet8_true (by omega), Int.toNat_natCast]; rfl
set_option maxHeartbeats 6400000 in
theorem spec_proof (v : Value) (l : List PInt) (r : PInt) (B : Nat) (w : World) (hr : ReadsP w B v l) (hB : B ≤ w.heap.size) :
    Calls Try.prog 38 #[v, Rule.mk r] w fun e w' => ∃ u, e = .returned (.tuple #[u, .bool (follows l r)]) ∧ OwnP 104 w' w.heap.size w'.heap.size u (proofOf l r) ∧ Below w.heap.size w w' := by
  obtain ⟨i0, hinf, hz0, hz1, hz2⟩ := info_parts PStep.infoT
  obtain ⟨x, y⟩ := r
  have hW := (Below.refl w.heap.size w).alloc (Nat.le_refl _) (.cells #[.int .i64 x, .int .i64 y] 43)
  have q0 : (w.alloc (.cells #[.int .i64 x, .int .i64 y] 43)).cell? ⟨w.heap.size, 0, none⟩ = some (.int .i64 x) := by simp
  have q1 : (w.alloc (.cells #[.int .i64 x, .int .i64 y] 43)).cell? ⟨w.heap.size, 1, none⟩ = some (.int .i64 y) := by simp
  have hz : w.heap.size < (w.alloc (.cells #[.int .i64 x, .int .i64 y] 43)).heap.size := by simp
  have HR := Lib.hid (hr.below hW hB)
  obtain ⟨a, c, rfl⟩ := hr.form
  have hlen := hr.1
  unfold maxLen at hlen
  clear hr
  go_enter Try.func38, Try.ntmps38
  go_upto_region 1 with fail
  generalize w.alloc (.cells #[.int .i64 x, .int .i64 y] 43) = W at hW q0 q1 hz HR ⊢
  have hBW : B ≤ W.heap.size := by omega
  have k0 := fun p : Past W => Past.cell q0 (by show w.heap.size < _; omega) p
  have k1 := fun p : Past W => Past.cell q1 (by show w.heap.size < _; omega) p
  have HBW := Lib.hid hW
  have HL0 := Lib.hid (World.ownsRow_lit (e := 104) (size := 2) W #[] 0 (Nat.le_refl _) (Nat.zero_le _) rfl)
  have HF := Lib.hid (((Past.start W).alloc (.cells #[] 104)).ofB (spec_follows (.slice a l.length c) l (x, y) B (W.alloc (.cells #[] 104)) (HR.out.below ((Past.start W).alloc (.cells #[] 104)).h hBW) (Nat.le_trans hBW ((Past.start W).alloc (.cells #[] 104)).size)))
  have ka0 := k0 ((Past.start W).alloc (.cells #[] 104))
  have ka1 := k1 ((Past.start W).alloc (.cells #[] 104))
  clear hW q0 q1
  cases hf : follows l (x, y) with
  | false =>
    have HX : Hid (proofOf l (x, y) = []) := Lib.hid (by rw [proofOf, if_neg (by rw [hf]; decide)])
    have HFA := Lib.hid hf
    rw [hf] at HF
    clear hf
    go_wp2_with fail
    refine HF.out.mono ?_
    rintro e _ ⟨rfl, p, rfl, b2⟩
    have HO := Lib.hid ((OwnP.made (l := []) HL0.out).below b2 (Nat.le_refl _))
    have hzp := b2.size
    have hbb := HBW.out.trans (p.h.mono (by omega))
    clear b2
    go_wp2_with fail
    go_ret2
    exact ⟨_, by rw [HFA.out]; rfl, by rw [HX.out]; exact HO.out.mono (by omega) hzp, hbb⟩
  | true =>
    have hf0 := hf
    rw [follows, Bool.and_eq_true, Bool.and_eq_true, decide_eq_true_eq, and_le'] at hf0
    obtain ⟨⟨h8, hq⟩, hle⟩ := hf0
    have hq2 := hq
    unfold isR at hq2
    rw [Bool.and_eq_true] at hq2
    have hx := set8 hq2.1
    have hy := set8 hq2.2
    obtain ⟨s0, rfl⟩ := Int.eq_ofNat_of_zero_le hx.1
    obtain ⟨t, rfl⟩ := Int.eq_ofNat_of_zero_le hy.1
    have hs0 : s0 < 256 := by omega
    have ht : t < 256 := by omega
    have HX : Hid (proofOf l ((s0 : Int), (t : Int)) = steps l t 256 s0) := Lib.hid (by rw [proofOf, if_pos hf]; simp only [Int.toNat_natCast])
    have HCL := Lib.hid (cl_spec (fun k hk => allIn_lt h8 hk) (s := s0) hs0)
    simp only [Int.toNat_natCast] at hle
    have HLE : Hid (Le t (Rule.cl l s0)) := Lib.hid hle
    generalize Rule.cl l s0 = cc at HCL HLE
    have H8 := Lib.hid h8
    have HFA := Lib.hid hf
    rw [hf] at HF
    clear hf h8 hq hq2 hle
    obtain ⟨m, hm⟩ : ∃ m, l.length = m := ⟨_, rfl⟩
    have HM := Lib.hid hm
    rw [hm] at HR HF hlen ⊢
    clear hm
    go_wp2_with fail
    refine HF.out.mono ?_
    rintro e _ ⟨rfl, p, rfl, b2⟩
    have HO := Lib.hid (rowP_same HL0.out fun g hg => b2.block g (HL0.out.lt g hg).2)
    have kp0 := k0 p
    have kp1 := k1 p
    clear b2 HF HL0 ka0 ka1
    go_wp2_with fail
    go_loopw [6, 7] (fun ov sv wr => ∃ (f s : Nat) (dn : List PInt) (v0 : Value) (p : Past W), s < 256 ∧ sv = .int .i64 s ∧ ov = v0 ∧ Hid (Cl l s cc) ∧ Hid (dn ++ steps l t f s = steps l t 256 s0) ∧ f + dn.length = 256 ∧ 256 - s ≤ f ∧ Hid (p.w.ownsRow W.heap.size 104 2 v0 dn.length (prs dn)) ∧ wr = p.w) (fun _ sv _ => 256 - (intOf sv).toNat)
    case atStart => exact ⟨256, s0, [], _, p, hs0, rfl, rfl, HCL, Lib.hid rfl, rfl, by omega, HO, rfl⟩
    case round =>
      obtain ⟨f, s, dn, v0, p, hs, rfl, rfl, HC, HD, hfl, hfs, hown, rfl⟩ := hrel
      have kp0 := k0 p
      have kp1 := k1 p
      have hdd : (bits .and .i64 (s : Int) (t : Int) != (t : Int)) = !decide (t &&& s = t) := by
        rw [andR (s : Int) (t : Int) (by omega) (by omega)]; simp only [Int.toNat_natCast]
      by_cases hts : t &&& s = t
      · rw [decide_eq_true hts] at hdd
        have HE : Hid (proofOf l ((s0 : Int), (t : Int)) = dn) := Lib.hid (by rw [HX.out, ← HD.out, steps_done hts, List.append_nil])
        have HO2 := Lib.hid (OwnP.made hown.out)
        have hbb := HBW.out.trans (p.h.mono (by omega))
        obtain ⟨av, cv, hov⟩ := rowP_form hown.out
        subst hov
        clear hts
        go_wp2_with fail
        go_ret2
        exact ⟨_, by rw [HFA.out]; rfl, by rw [HE.out]; exact HO2.out.mono (by omega) (Nat.le_refl _), hbb⟩
      · rw [decide_eq_false hts] at hdd
        obtain ⟨f, rfl⟩ : ∃ f', f = f' + 1 := ⟨f - 1, by omega⟩
        obtain ⟨hbad, hbl, hC2, hlt2, -⟩ := steps_step H8.out hs HC.out hts HLE.out
        have hst := HD.out
        rw [steps_more hts] at hst
        have HB := Lib.hid fun k (hk : k < badAt l s) => badAt_before hk
        have HBB := Lib.hid (badAt_bad hbad)
        have hpz := p.size
        have HIN := Lib.hid fun k (hk : k < l.length) => List.all_eq_true.1 H8.out _ (rl_mem hk)
        have HST := Lib.hid hst
        have HC2 := Lib.hid hC2
        have htl := allIn_lt H8.out hbl
        clear hst hC2 hts hbad
        obtain ⟨bi, hbi⟩ : ∃ bi, badAt l s = bi := ⟨_, rfl⟩
        rw [hbi] at HB HBB HST HC2 hbl htl hlt2
        clear hbi HD
        have hbm : bi < m := by have := HM.out; omega
        go_wp2_with fail
        go_loopw [8] (fun kv wr => ∃ (i : Nat) (q : Past W), i ≤ bi ∧ kv = .int .i64 i ∧ Hid (Below p.w.heap.size p.w q.w) ∧ wr = q.w) (fun kv _ => bi - (intOf kv).toNat)
        case atStart => exact ⟨0, p, Nat.zero_le _, rfl, Lib.hid (Below.refl _ _), rfl⟩
        case round =>
          obtain ⟨i, q, hi, rfl, HPQ, rfl⟩ := hrel
          have him : i < l.length := by omega
          have him2 : i < m := by omega
          obtain ⟨b, o, rfl, hb, h0, h1⟩ := readsP_at (by have := HR.out; rw [← HM.out] at this; exact this) him
          have c0 := fun q : Past W => Past.cell h0 (by show b < _; omega) q
          have c1 := fun q : Past W => Past.cell h1 (by show b < _; omega) q
          have hri := HIN.out i him
          have HRS := Lib.hid (q.ofB (spec_resp (rl l i) (s : Int) q.w))
          rw [resp_RB hri hs] at HRS
          have hqz := HPQ.out.size
          have kq0 := c0 q
          have kq1 := c1 q
          by_cases hib : i < bi
          · rw [HB.out i hib] at HRS
            clear h0 h1 hri
            generalize rl l i = ri at c0 c1 kq0 kq1 HRS
            obtain ⟨r0, r1⟩ := ri
            go_wp2_with fail
            refine HRS.out.mono ?_
            rintro e _ ⟨rfl, q2, rfl, b3⟩
            have HP2 := Lib.hid (HPQ.out.trans (b3.mono hqz))
            clear b3
            go_wp2_with fail
            go_roundw
            case rel => exact ⟨i + 1, q2, by omega, by simp, HP2, rfl⟩
            case measure => simp [intOf]; omega
          · have hib2 : i = bi := by omega
            subst hib2
            rw [HBB.out] at HRS
            have hrr := allIn_rl H8.out him
            have hr1 := set8 hrr.2
            clear h0 h1 hri hrr hib
            generalize rl l i = ri at c0 c1 kq0 kq1 HRS HST HC2 htl hlt2 hr1
            obtain ⟨r0, r1⟩ := ri
            simp only at hr1
            obtain ⟨z, rfl⟩ := Int.eq_ofNat_of_zero_le hr1.1
            simp only [Int.toNat_natCast] at HST HC2 htl hlt2
            have hor := or_nat' s z hs (by omega)
            have hs2 : s ||| z < 256 := Nat.or_lt_two_pow (n := 8) hs htl
            go_wp2_with fail
            refine HRS.out.mono ?_
            rintro e _ ⟨rfl, q2, rfl, b3⟩
            have HP2 := Lib.hid (HPQ.out.trans (b3.mono hqz))
            have kr1 := c1 q2
            have HO3 := Lib.hid (rowP_same hown.out fun g hg => HP2.out.block g (hown.out.lt g hg).2)
            have hq2z := q2.size
            generalize s ||| z = s2 at hor hs2 HST HC2 hlt2
            have HK1 : Hid (dn.length + 1 ≤ maxLen) := Lib.hid (by unfold maxLen; omega)
            have HK2 : Hid ((dn.length + 1) * 16 ≤ 140737488355328) := Lib.hid (by omega)
            clear b3 hown
            go_wp2_with (at_builtin; refine wpList_append_own _ rfl _ _ 46 rfl W.heap.size 104 i0 (.agg #[.int .i64 0, .int .i64 0]) 2 16 Try.underlying46 hinf hz0 hz1 hz2 rfl (by decide) _ _ _ rfl (HO3.out.alloc _) ⟨q2.w.heap.size, 0, none⟩ 1 1 (prs [((i : Int), (s2 : Int))]) rfl rfl (newsQ _ _ _ _) (oneQ _) HK1.out HK2.out (by simp; omega) ?_)
            intro v4 w4 hown4 hgrow _
            have HP4 : Hid (∃ q4 : Past W, q4.w = w4) := Lib.hid ⟨⟨w4, (q2.h.alloc q2.size _).grown hgrow (q2.alloc _).size (fun j hj => (HO3.out.lt j hj).1)⟩, rfl⟩
            obtain ⟨q4, rfl⟩ := HP4.out
            have HO4 := Lib.hid hown4
            clear hown4 hgrow HP4
            go_wp2_with fail
            go_roundw
            case rel => exact ⟨f, s2, dn ++ [((i : Int), (s2 : Int))], _, q4, hs2, rfl, rfl, HC2, Lib.hid (by rw [List.append_assoc]; exact HST.out), by rw [List.length_append]; simp; omega, by omega, Lib.hid (by rw [List.length_append, prs_app]; exact HO4.out), rfl⟩
            case measure => simp [intOf]; omega
end Go.Proofs.Ytgkoggajdhibdaa.Infer

namespace Go.Proofs.Ytgkoggajdhibdaa.Infer
open Go Go.RowKit Mem Sets Ctx Tab Rule Stem Lectic
set_option maxRecDepth 100000

theorem checkProof_no1 {l : List PInt} {r : PInt} {ps : List PInt} (h : allIn 8 l = false) : checkProof l r ps = false := by rw [checkProof, h]; rfl
theorem checkProof_no2 {l : List PInt} {r : PInt} {ps : List PInt} (h : isR 8 r = false) : checkProof l r ps = false := by rw [checkProof, h]; cases allIn 8 l <;> rfl
theorem checkProof_yes {l : List PInt} {r : PInt} {ps : List PInt} (h1 : allIn 8 l = true) (h2 : isR 8 r = true) : checkProof l r ps = ends r.2.toNat (chk l r.1.toNat ps) := by rw [checkProof, h1, h2]; rfl
/-- A step that is right; what it is asked. -/
def stepIn (r : PInt) (s : Nat) (z : Int) : Bool := decide (r.1.toNat &&& s = r.1.toNat) && decide (z = ((s ||| r.2.toNat : Nat) : Int))
theorem stepIn_nat (u t s : Nat) (z : Int) : stepIn ((u : Int), (t : Int)) s z = (decide (u &&& s = u) && decide (z = ((s ||| t : Nat) : Int))) := rfl
def stepOk (l : List PInt) (s : Nat) (p : PInt) : Bool := decide (0 ≤ p.1 ∧ p.1 ≤ (l.length : Int) - 1) && stepIn (rl l p.1.toNat) s p.2
theorem chk_step {l : List PInt} {s k : Nat} {ps : List PInt} (hk : k < ps.length) : chk l s (ps.drop k) = if stepOk l s (rl ps k) = true then chk l (s ||| (rl l (rl ps k).1.toNat).2.toNat) (ps.drop (k + 1)) else none := by
  have e : ps.drop k = rl ps k :: ps.drop (k + 1) := by
    rw [rl, List.getD_eq_getElem?_getD, List.getElem?_eq_getElem hk, Option.getD_some, List.getElem_cons_drop]
  rw [e, chk]
  have hiff : (0 ≤ (rl ps k).1 ∧ (rl ps k).1 < (l.length : Int) ∧ (rl l (rl ps k).1.toNat).1.toNat &&& s = (rl l (rl ps k).1.toNat).1.toNat ∧ (rl ps k).2 = ((s ||| (rl l (rl ps k).1.toNat).2.toNat : Nat) : Int)) ↔ stepOk l s (rl ps k) = true := by
    unfold stepOk stepIn
    rw [Bool.and_eq_true, Bool.and_eq_true, decide_eq_true_eq, decide_eq_true_eq, decide_eq_true_eq]
    constructor
    · rintro ⟨h1, h2, h3, h4⟩; exact ⟨⟨h1, by omega⟩, h3, h4⟩
    · rintro ⟨⟨h1, h2⟩, h3, h4⟩; exact ⟨h1, by omega, h3, h4⟩
  by_cases h : stepOk l s (rl ps k) = true
  · rw [if_pos h, if_pos (hiff.2 h)]
  · rw [if_neg h, if_neg (fun h2 => h (hiff.1 h2))]
theorem chk_end {l : List PInt} {s k : Nat} {ps : List PInt} (hk : ps.length ≤ k) : chk l s (ps.drop k) = some s := by rw [List.drop_of_length_le hk]; rfl
theorem neq_dec (x : Int) (z : Nat) : (x != (z : Int)) = !decide (x = (z : Int)) := by
  by_cases h : x = (z : Int) <;> simp [h]
set_option maxHeartbeats 6400000 in
theorem spec_check (v vs : Value) (l ps : List PInt) (r : PInt) (B : Nat) (w : World) (hr : ReadsP w B v l) (hs : ReadsP w B vs ps) (hB : B ≤ w.heap.size) :
    Calls Try.prog 51 #[v, Rule.mk r, vs] w fun e w' => e = .returned (.bool (checkProof l r ps)) ∧ Below w.heap.size w w' := by
  obtain ⟨x, y⟩ := r
  have hW := (Below.refl w.heap.size w).alloc (Nat.le_refl _) (.cells #[.int .i64 x, .int .i64 y] 43)
  have q0 : (w.alloc (.cells #[.int .i64 x, .int .i64 y] 43)).cell? ⟨w.heap.size, 0, none⟩ = some (.int .i64 x) := by simp
  have q1 : (w.alloc (.cells #[.int .i64 x, .int .i64 y] 43)).cell? ⟨w.heap.size, 1, none⟩ = some (.int .i64 y) := by simp
  have hz : w.heap.size < (w.alloc (.cells #[.int .i64 x, .int .i64 y] 43)).heap.size := by simp
  have HR := Lib.hid (hr.below hW hB)
  have HRS := Lib.hid (hs.below hW hB)
  obtain ⟨a, c, rfl⟩ := hr.form
  obtain ⟨as1, cs1, rfl⟩ := hs.form
  have hlen := hr.1
  have hlen2 := hs.1
  unfold maxLen at hlen hlen2
  clear hr hs
  go_enter Try.func51, Try.ntmps51
  go_upto_region 1 with fail
  generalize w.alloc (.cells #[.int .i64 x, .int .i64 y] 43) = W at hW q0 q1 hz HR HRS ⊢
  have hBW : B ≤ W.heap.size := by omega
  have k0 := fun p : Past W => Past.cell q0 (by show w.heap.size < _; omega) p
  have k1 := fun p : Past W => Past.cell q1 (by show w.heap.size < _; omega) p
  have HBW := Lib.hid hW
  have HA := Lib.hid ((Past.start W).of (Rule.l9Sets (.slice a l.length c) l B W HR.out hBW))
  have HQ := Lib.hid fun p : Past W => p.of (Rule.l9Rule 8 (x, y) p.w)
  clear hW q0 q1
  cases h8 : allIn 8 l with
  | false =>
    have HX := Lib.hid (checkProof_no1 (r := (x, y)) (ps := ps) h8)
    rw [h8] at HA
    clear h8
    go_wp2_with fail
    refine HA.out.mono ?_
    rintro e _ ⟨rfl, p, rfl⟩
    have hbb := HBW.out.trans (p.h.mono (by omega))
    go_wp2_with fail
    go_ret
    exact ⟨by rw [HX.out]; rfl, hbb⟩
  | true =>
    rw [h8] at HA
    cases hq : isR 8 (x, y) with
    | false =>
      have HX := Lib.hid (checkProof_no2 (l := l) (ps := ps) hq)
      rw [hq] at HQ
      clear h8 hq
      go_wp2_with fail
      refine HA.out.mono ?_
      rintro e _ ⟨rfl, p, rfl⟩
      have kp0 := k0 p
      have kp1 := k1 p
      go_wp2_with fail
      refine (HQ.out p).mono ?_
      rintro e _ ⟨rfl, p2, rfl⟩
      have hbb := HBW.out.trans (p2.h.mono (by omega))
      go_wp2_with fail
      go_ret
      exact ⟨by rw [HX.out]; rfl, hbb⟩
    | true =>
      have HX := Lib.hid (checkProof_yes (ps := ps) h8 hq)
      have hq2 := hq
      unfold isR at hq2
      rw [Bool.and_eq_true] at hq2
      have hx := set8 hq2.1
      have hy := set8 hq2.2
      obtain ⟨s0, rfl⟩ := Int.eq_ofNat_of_zero_le hx.1
      obtain ⟨t, rfl⟩ := Int.eq_ofNat_of_zero_le hy.1
      have hs0 : s0 < 256 := by omega
      have ht : t < 256 := by omega
      simp only [Int.toNat_natCast] at HX
      have H8 := Lib.hid h8
      rw [hq] at HQ
      clear h8 hq hq2
      obtain ⟨m, hm⟩ : ∃ m, l.length = m := ⟨_, rfl⟩
      obtain ⟨n, hn⟩ : ∃ n, ps.length = n := ⟨_, rfl⟩
      have HM := Lib.hid hm
      have HN := Lib.hid hn
      rw [hm] at HR HA hlen ⊢
      rw [hn] at HRS hlen2 ⊢
      have hwl : IntKind.i64.wrap ((m : Int) - 1) = (m : Int) - 1 := by rw [IntKind.wrap_i64]; omega
      clear hm hn
      go_wp2_with fail
      refine HA.out.mono ?_
      rintro e _ ⟨rfl, p, rfl⟩
      have kp0 := k0 p
      have kp1 := k1 p
      go_wp2_with fail
      refine (HQ.out p).mono ?_
      rintro e _ ⟨rfl, p2, rfl⟩
      have kq0 := k0 p2
      have kq1 := k1 p2
      clear kp0 kp1 HA HQ
      go_wp2_with fail
      go_loopw [7, 8] (fun sv kv wr => ∃ (s k : Nat) (p : Past W), s < 256 ∧ sv = .int .i64 s ∧ k ≤ n ∧ kv = .int .i64 k ∧ Hid (checkProof l ((s0 : Int), (t : Int)) ps = ends t (chk l s (ps.drop k))) ∧ wr = p.w) (fun _ kv _ => n - (intOf kv).toNat)
      case atStart => exact ⟨s0, 0, p2, hs0, rfl, Nat.zero_le _, rfl, HX, rfl⟩
      case round =>
        obtain ⟨s, k, p, hs, rfl, hk, rfl, HC, rfl⟩ := hrel
        by_cases hlt : k < n
        · have hkl : k < ps.length := by rw [HN.out]; exact hlt
          obtain ⟨b, o, rfl, hb, h0, h1⟩ := readsP_at (by have := HRS.out; rw [← HN.out] at this; exact this) hkl
          have c0 := fun q : Past W => Past.cell h0 (by show b < _; omega) q
          have c1 := fun q : Past W => Past.cell h1 (by show b < _; omega) q
          have cp0 := c0 p
          have HCS := Lib.hid (chk_step (l := l) (s := s) hkl)
          clear h0 h1
          generalize rl ps k = st at c0 c1 cp0 HCS
          obtain ⟨g, z⟩ := st
          simp only at c0 c1 cp0
          have HI := Lib.hid fun p : Past W => p.ofSame (l1In g 0 ((m : Int) - 1) p.w)
          have HOK : Hid (stepOk l s (g, z) = (decide (0 ≤ g ∧ g ≤ (m : Int) - 1) && stepIn (rl l g.toNat) s z)) := Lib.hid (by rw [stepOk, HM.out])
          by_cases hg : 0 ≤ g ∧ g ≤ (m : Int) - 1
          · rw [decide_eq_true hg] at HI HOK
            obtain ⟨j, rfl⟩ := Int.eq_ofNat_of_zero_le hg.1
            have hj : j < l.length := by have := HM.out; omega
            have hjm : j < m := by omega
            simp only [Int.toNat_natCast] at HOK HCS
            obtain ⟨b2, o2, rfl, hb2, h0, h1⟩ := readsP_at (by have := HR.out; rw [← HM.out] at this; exact this) hj
            have d0 := fun q : Past W => Past.cell h0 (by show b2 < _; omega) q
            have d1 := fun q : Past W => Past.cell h1 (by show b2 < _; omega) q
            have hrr := allIn_rl H8.out hj
            have hr0 := set8 hrr.1
            have hr1 := set8 hrr.2
            clear h0 h1 hrr hg
            generalize rl l j = rr at d0 d1 HOK HCS hr0 hr1
            obtain ⟨r0, r1⟩ := rr
            simp only at hr0 hr1 d0 d1
            obtain ⟨u, rfl⟩ := Int.eq_ofNat_of_zero_le hr0.1
            obtain ⟨t1, rfl⟩ := Int.eq_ofNat_of_zero_le hr1.1
            rw [stepIn_nat] at HOK
            simp only [Int.toNat_natCast] at HCS
            have hor := or_nat' s t1 hs (by omega)
            have hs2 : s ||| t1 < 256 := Nat.or_lt_two_pow (n := 8) hs (by omega)
            have e1 : (bits .and .i64 (u : Int) (s : Int) != (u : Int)) = !decide (u &&& s = u) := by
              rw [andN (u : Int) (s : Int) (by omega) (by omega)]; simp only [Int.toNat_natCast]; by_cases h : u &&& s = u <;> simp [h]
            have e2 := neq_dec z (s ||| t1)
            generalize s ||| t1 = s2 at hor hs2 HOK HCS e2
            obtain ⟨f1, hf1⟩ : ∃ f, decide (u &&& s = u) = f := ⟨_, rfl⟩
            obtain ⟨f2, hf2⟩ : ∃ f, decide (z = (s2 : Int)) = f := ⟨_, rfl⟩
            rw [hf1] at e1 HOK
            rw [hf2] at e2 HOK
            clear hf1
            cases f1 with
            | false =>
              have HE : Hid (checkProof l ((s0 : Int), (t : Int)) ps = false) := Lib.hid (by rw [HC.out, HCS.out, HOK.out]; rfl)
              go_wp2_with fail
              refine wp_region_pastIn p (by kernel_rfl) (by kernel_rfl) ?_
              repeat (go_big_quiet_step (first | with_reducible exact HI.out _))
              refine wpQuiet_nil ?_
              rintro _ ⟨p3, rfl⟩
              have hbb := HBW.out.trans (p3.h.mono (by omega))
              go_wp2_with fail
              go_ret
              exact ⟨by rw [HE.out]; rfl, hbb⟩
            | true =>
              cases f2 with
              | false =>
                have HE : Hid (checkProof l ((s0 : Int), (t : Int)) ps = false) := Lib.hid (by rw [HC.out, HCS.out, HOK.out]; rfl)
                go_wp2_with fail
                refine wp_region_pastIn p (by kernel_rfl) (by kernel_rfl) ?_
                repeat (go_big_quiet_step (first | with_reducible exact HI.out _))
                refine wpQuiet_nil ?_
                rintro _ ⟨p3, rfl⟩
                have hbb := HBW.out.trans (p3.h.mono (by omega))
                go_wp2_with fail
                go_ret
                exact ⟨by rw [HE.out]; rfl, hbb⟩
              | true =>
                have HE : Hid (checkProof l ((s0 : Int), (t : Int)) ps = ends t (chk l s2 (ps.drop (k + 1)))) := Lib.hid (by rw [HC.out, HCS.out, HOK.out]; rfl)
                have hzs : z = (s2 : Int) := of_decide_eq_true hf2
                go_wp2_with fail
                refine wp_region_pastIn p (by kernel_rfl) (by kernel_rfl) ?_
                repeat (go_big_quiet_step (first | with_reducible exact HI.out _))
                refine wpQuiet_nil ?_
                rintro _ ⟨p3, rfl⟩
                have cq1 := c1 p3
                go_wp2_with fail
                go_roundw
                case rel => exact ⟨s2, k + 1, p3, hs2, by first | rfl | rw [hzs], by omega, by simp, HE, rfl⟩
                case measure => simp [intOf]; omega
          · rw [decide_eq_false hg] at HI HOK
            have HE : Hid (checkProof l ((s0 : Int), (t : Int)) ps = false) := Lib.hid (by rw [HC.out, HCS.out, HOK.out]; rfl)
            clear hg
            go_wp2_with fail
            refine wp_region_pastIn p (by kernel_rfl) (by kernel_rfl) ?_
            repeat (go_big_quiet_step (first | with_reducible exact HI.out _))
            refine wpQuiet_nil ?_
            rintro _ ⟨p3, rfl⟩
            have hbb := HBW.out.trans (p3.h.mono (by omega))
            go_wp2_with fail
            go_ret
            exact ⟨by rw [HE.out]; rfl, hbb⟩
        · have HE : Hid (checkProof l ((s0 : Int), (t : Int)) ps = (bits .and .i64 (s : Int) (t : Int) == (t : Int))) := Lib.hid (by
            rw [HC.out, chk_end (by have := HN.out; omega), andE (s : Int) (t : Int) (by omega) (by omega)]
            simp only [Int.toNat_natCast]; rfl)
          have hbb := HBW.out.trans (p.h.mono (by omega))
          have kp0 := k0 p
          have kp1 := k1 p
          go_wp2_with fail
          go_ret
          exact ⟨by rw [HE.out]; rfl, hbb⟩
end Go.Proofs.Ytgkoggajdhibdaa.Infer
