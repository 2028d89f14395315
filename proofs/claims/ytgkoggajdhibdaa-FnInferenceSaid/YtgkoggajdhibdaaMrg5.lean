/-
  Chapter 11 of the program: the first rule that a set does not respect, the steps toward a goal, proofs.
-/
import Derived.Test.YtgkoggajdhibdaaMrg8
import Derived.Test.YtgkoggajdhibdaaRuleI3
import Derived.Deep.RegionHeld3
import Derived.Shelf.Abstract
namespace Go.Proofs.Ytgkoggajdhibdaa.Infer
open Go Go.RowKit Mem Sets Ctx Tab Rule Stem Lectic
set_option maxRecDepth 100000

/-- The place of the first rule of which f holds; -1 if there is none. -/
def idx (f : PInt → Bool) (l : List PInt) : Int := if l.findIdx f < l.length then ((l.findIdx f : Nat) : Int) else -1
theorem rl_get {l : List PInt} {k : Nat} (hk : k < l.length) : l[k] = rl l k := by
  rw [rl, List.getD_eq_getElem?_getD, List.getElem?_eq_getElem hk]; rfl
theorem idx_hit {f : PInt → Bool} {l : List PInt} {k : Nat} (hk : k < l.length) (h : f (rl l k) = true) (hb : ∀ j, j < k → f (rl l j) = false) : idx f l = (k : Int) := by
  have : l.findIdx f = k := (List.findIdx_eq hk).2 ⟨by rw [rl_get hk]; exact h, fun j hj => by rw [rl_get (by omega), hb j hj]⟩
  rw [idx, this, if_pos hk]
theorem idx_miss {f : PInt → Bool} {l : List PInt} (hb : ∀ j, j < l.length → f (rl l j) = false) : idx f l = -1 := by
  rw [idx, if_neg]
  intro h
  have h1 := List.findIdx_getElem (w := h)
  rw [rl_get h, hb _ h] at h1; cases h1
set_option maxHeartbeats 1600000 in
theorem indexR (v : Value) (l : List PInt) (B : Nat) (w : World) (hr : ReadsP w B v l) (hB : B ≤ w.heap.size) (g : FuncId) (lb : Array Value) (f : PInt → Bool) (eg : ∀ args w, (callFunc g args).run Try.prog w = .ok (.enter g args) w)
    (HF : ∀ (p : Past w) (k : Nat), k < l.length → Calls Try.prog g (#[Rule.mk (rl l k)] ++ lb) p.w fun e w' => e = .returned (.bool (f (rl l k))) ∧ Below p.w.heap.size p.w w') :
    Calls Try.prog 155 #[v, .func (.func g) #[] lb] w fun e w' => e = .returned (.int .i64 (idx f l)) ∧ Below w.heap.size w w' := by
  obtain ⟨a, c, rfl⟩ := hr.form
  have hlen := hr.1
  unfold maxLen at hlen
  have HR := Lib.hid hr
  have HFH := Lib.hid fun (p : Past w) (k : Nat) (hk : k < l.length) => p.of (HF p k hk)
  obtain ⟨m, hm⟩ : ∃ m, l.length = m := ⟨_, rfl⟩
  have HM := Lib.hid hm
  rw [hm] at HR hlen ⊢
  clear hr hm HF
  go_enter Try.func155, Try.ntmps155
  go_wp2_with fail
  go_loopw [8] (fun i wr => ∃ (k : Nat) (q : Past w), k ≤ m ∧ i = .int .i64 k ∧ Hid (∀ j, j < k → f (rl l j) = false) ∧ wr = q.w) (fun i _ => m - (intOf i).toNat)
  case atStart => exact ⟨0, Past.start w, Nat.zero_le _, rfl, Lib.hid (fun j hj => by omega), rfl⟩
  case round =>
    obtain ⟨k, q, hk, rfl, HALL, rfl⟩ := hrel
    by_cases hlt : k < m
    · have hkl : k < l.length := by rw [HM.out]; exact hlt
      obtain ⟨b, o, rfl, hb, h0, h1⟩ := readsP_at HR.out hkl
      have c0 := Past.cell h0 (by show b < _; omega) q
      have c1 := Past.cell h1 (by show b < _; omega) q
      have HO := Lib.hid (HFH.out q k hkl)
      have HIT := Lib.hid fun h => idx_hit (f := f) hkl h HALL.out
      have HNX : Hid (f (rl l k) = false → ∀ j, j < k + 1 → f (rl l j) = false) := Lib.hid fun h j hj => by
        rcases Nat.lt_or_eq_of_le (Nat.le_of_lt_succ hj) with h1 | rfl
        · exact HALL.out j h1
        · exact h
      clear h0 h1
      generalize rl l k = r at c0 c1 HO HIT HNX
      obtain ⟨r0, r1⟩ := r
      cases hf : f (r0, r1) with
      | true =>
        have HE := Lib.hid (HIT.out hf)
        rw [hf] at HO
        clear hf
        go_wp2_with fail
        refine HO.out.mono ?_
        rintro e _ ⟨rfl, q2, rfl⟩
        have hbb := q2.h
        go_wp2_with fail
        go_ret
        exact ⟨by rw [HE.out]; rfl, hbb⟩
      | false =>
        have HE := Lib.hid (HNX.out hf)
        rw [hf] at HO
        clear hf
        go_wp2_with fail
        refine HO.out.mono ?_
        rintro e _ ⟨rfl, q2, rfl⟩
        go_wp2_with fail
        go_roundw
        case rel => exact ⟨k + 1, q2, by omega, by simp, HE, rfl⟩
        case measure => simp [intOf]; omega
    · have HE := Lib.hid (idx_miss (f := f) (l := l) fun j hj => HALL.out j (by have := HM.out; omega))
      have hbb := q.h
      go_wp2_with fail
      go_ret
      exact ⟨by rw [HE.out]; rfl, hbb⟩
set_option maxHeartbeats 1600000 in
theorem broken_fn (x y s : Int) (b : Nat) (w : World) (h0 : w.cell? ⟨b, 0, none⟩ = some (.int .i64 s)) (hb : b < w.heap.size) (hx : 0 ≤ x ∧ x ≤ 255) (hy : 0 ≤ y ∧ y ≤ 255) (hs : 0 ≤ s ∧ s ≤ 255) :
    Calls Try.prog 156 #[Rule.mk (x, y), .pointer (some ⟨b, 0, none⟩)] w fun e w' => e = .returned (.bool (!RB (x, y) s.toNat)) ∧ Below w.heap.size w w' := by
  have hW := (Below.refl w.heap.size w).alloc (Nat.le_refl _) (.cells #[.int .i64 x, .int .i64 y] 43)
  have q0 : (w.alloc (.cells #[.int .i64 x, .int .i64 y] 43)).cell? ⟨w.heap.size, 0, none⟩ = some (.int .i64 x) := by simp
  have q1 : (w.alloc (.cells #[.int .i64 x, .int .i64 y] 43)).cell? ⟨w.heap.size, 1, none⟩ = some (.int .i64 y) := by simp
  have q2 : (w.alloc (.cells #[.int .i64 x, .int .i64 y] 43)).cell? ⟨b, 0, none⟩ = some (.int .i64 s) := (hW.cell (p := ⟨b, 0, none⟩) hb).trans h0
  have hz : w.heap.size < (w.alloc (.cells #[.int .i64 x, .int .i64 y] 43)).heap.size := by simp
  go_enter Try.func156, Try.ntmps156
  go_upto_region 1 with fail
  generalize w.alloc (.cells #[.int .i64 x, .int .i64 y] 43) = W at hW q0 q1 q2 hz ⊢
  have HRS := Lib.hid (respecting x y W.drew)
  have HFN := Lib.hid (respects_fn x y s W.heap.size (W.alloc (.cells #[.int .i64 x, .int .i64 y] 43)).drew (BoxAt.new W 43 #[.int .i64 x, .int .i64 y]).drew hx hy hs)
  have HD := Lib.hid ((Past.start W).alloc (.cells #[.int .i64 x, .int .i64 y] 43)).drew.h
  have HBW := Lib.hid hW
  have d0 : W.drew.cell? ⟨w.heap.size, 0, none⟩ = some (.int .i64 x) := q0
  have d1 : W.drew.cell? ⟨w.heap.size, 1, none⟩ = some (.int .i64 y) := q1
  have d2 : W.drew.cell? ⟨b, 0, none⟩ = some (.int .i64 s) := q2
  have e0 := Past.cell q0 (by show w.heap.size < _; omega) ((Past.start W).alloc (.cells #[.int .i64 x, .int .i64 y] 43)).drew
  have e1 := Past.cell q1 (by show w.heap.size < _; omega) ((Past.start W).alloc (.cells #[.int .i64 x, .int .i64 y] 43)).drew
  have e2 := Past.cell q2 (by show b < _; omega) ((Past.start W).alloc (.cells #[.int .i64 x, .int .i64 y] 43)).drew
  clear hW h0 q0 q1 q2 hx hy hs
  obtain ⟨d, hd⟩ : ∃ d, RB (x, y) s.toNat = d := ⟨_, rfl⟩
  rw [hd] at HFN
  have HDD := Lib.hid hd
  clear hd
  go_region_held3 (fun wx => wx.cell? ⟨w.heap.size, 0, none⟩ = some (.int .i64 x) ∧ wx.cell? ⟨w.heap.size, 1, none⟩ = some (.int .i64 y) ∧ wx.cell? ⟨b, 0, none⟩ = some (.int .i64 s))
    (first | with_reducible exact ⟨d0, d1, d2⟩ | with_reducible exact ⟨e0, e1, e2⟩ | fail)
    (first
      | (go_at_call 134; (with_reducible refine HRS.out.mono ?_); rintro e w' ⟨rfl, hw⟩; subst w')
      | (go_at_call 151; (with_reducible refine HFN.out.mono ?_); rintro e w' ⟨rfl, hw⟩; subst w') | fail)
  have hbb := HBW.out.trans (HD.out.mono (by omega))
  go_wp2_with fail
  go_ret
  exact ⟨by rw [HDD.out]; rfl, hbb⟩
/-- Where the first rule stands that a set does not respect. -/
def brokenAt (l : List PInt) (s : Nat) : Int := if allR l s = true then -1 else ((badAt l s : Nat) : Int)
theorem idx_broken (l : List PInt) (s : Nat) : idx (fun r => !RB r s) l = brokenAt l s := by
  unfold brokenAt
  cases h : allR l s with
  | true =>
    rw [if_pos rfl]
    refine idx_miss fun j hj => ?_
    have := allR_mem.1 h _ (rl_mem hj)
    show (!RB (rl l j) s) = false
    rw [this]; rfl
  | false =>
    rw [if_neg (by decide)]
    refine idx_hit (badAt_lt h) ?_ fun j hj => ?_
    · show (!RB (rl l (badAt l s)) s) = true
      rw [badAt_bad h]; rfl
    · show (!RB (rl l j) s) = false
      rw [badAt_before hj]; rfl
set_option maxHeartbeats 1600000 in
theorem impl_broken (v : Value) (l : List PInt) (s : Nat) (B : Nat) (w : World) (hr : ReadsP w B v l) (hB : B ≤ w.heap.size) (h8 : allIn 8 l = true) (hs : s < 256) :
    Calls Try.prog 138 #[v, .int .i64 (s : Int)] w fun e w' => e = .returned (.int .i64 (brokenAt l s)) ∧ Below w.heap.size w w' := by
  have hW := (Below.refl w.heap.size w).alloc (Nat.le_refl _) (.cells #[.int .i64 (s : Int)] 3)
  have q0 : (w.alloc (.cells #[.int .i64 (s : Int)] 3)).cell? ⟨w.heap.size, 0, none⟩ = some (.int .i64 (s : Int)) := by simp
  have hz : w.heap.size < (w.alloc (.cells #[.int .i64 (s : Int)] 3)).heap.size := by simp
  have HI := Lib.hid (indexR v l B (w.alloc (.cells #[.int .i64 (s : Int)] 3)) (hr.below hW hB) (by omega) 156 #[.pointer (some ⟨w.heap.size, 0, none⟩)] (fun r => !RB r s) (enters_of Try.func156 (by kernel_rfl) rfl) (fun p k hk => by
    have hrr := allIn_rl h8 hk
    have h1 := set8 hrr.1
    have h2 := set8 hrr.2
    generalize rl l k = r at h1 h2
    obtain ⟨x, y⟩ := r
    exact broken_fn x y (s : Int) w.heap.size p.w (Past.cell q0 (by show w.heap.size < _; omega) p) (by have := p.size; omega) h1 h2 (by omega)))
  rw [idx_broken] at HI
  obtain ⟨a, c, rfl⟩ := hr.form
  clear hr h8
  go_enter Try.func138, Try.ntmps138
  go_wp2_with fail
  refine HI.out.mono ?_
  rintro e w' ⟨rfl, hb⟩
  have hbb := hW.trans (hb.mono (by omega))
  go_wp2_with fail
  go_ret
  exact ⟨rfl, hbb⟩
/-- A step toward a goal, wherever there is a rule that is not respected. -/
theorem step_more {l : List PInt} {s c : Nat} (hb : allR l s = false) (hc : Cl l s c) : Cl l (s ||| (rl l (badAt l s)).2.toNat) c ∧ s < s ||| (rl l (badAt l s)).2.toNat := by
  have hl := badAt_lt hb
  have hbad := badAt_bad hb
  have h1 : Le (rl l (badAt l s)).1.toNat s ∧ ¬ Le (rl l (badAt l s)).2.toNat s := by
    have := mt RB_iff.2 (by rw [hbad]; decide)
    exact Classical.not_imp.1 this
  have h2 : Le (rl l (badAt l s)).2.toNat c := allR_iff.1 hc.all _ (rl_mem hl) (h1.1.trans hc.le)
  refine ⟨⟨fun j hj => ?_, hc.all, fun u hu hsu => hc.least u hu (le_orl.trans hsu)⟩, ?_⟩
  · rw [Nat.testBit_or, Bool.or_eq_true] at hj
    rcases hj with hj | hj
    · exact hc.le j hj
    · exact h2 j hj
  · refine le_ne_lt le_orl fun he => h1.2 fun j hj => ?_
    rw [← he, Nat.testBit_or, hj, Bool.or_true]
theorem sub_nat {t s : Nat} (ht : t < 256) (hs : s < 256) : sub (t : Int) (s : Int) = decide (t &&& s = t) := by
  rw [sub_le (by omega) (by omega)]; simp only [Int.toNat_natCast]
set_option maxHeartbeats 6400000 in
theorem impl_steps (v : Value) (l : List PInt) (s0 t : Nat) (B : Nat) (w : World) (hr : ReadsP w B v l) (hB : B ≤ w.heap.size) (h8 : allIn 8 l = true) (hs0 : s0 < 256) (ht : t < 256) :
    Calls Try.prog 101 #[v, .int .i64 (s0 : Int), .int .i64 (t : Int)] w fun e w' => ∃ (u : Value) (s : Nat) (dn : List PInt), e = .returned (.tuple #[u, .int .i64 (s : Int)]) ∧ OwnP 104 w' w.heap.size w'.heap.size u dn ∧ Below w.heap.size w w' ∧ s < 256 ∧ (t &&& s = t ↔ t &&& Rule.cl l s0 = t) ∧ (t &&& s = t → dn = steps l t 256 s0) := by
  obtain ⟨i0, hinf, hz0, hz1, hz2⟩ := info_parts PStep.infoT
  have HCL := Lib.hid (cl_spec (fun k hk => allIn_lt h8 hk) (s := s0) hs0)
  generalize Rule.cl l s0 = cc at HCL ⊢
  have HIB := Lib.hid fun (p : Past w) (s : Nat) (hs : s < 256) => p.ofB (impl_broken v l s B p.w (hr.below p.h hB) (Nat.le_trans hB p.size) h8 hs)
  have HS := Lib.hid fun (s : Nat) (hs : s < 256) (w : World) => (by have := impl_sub (t : Int) (s : Int) w; rw [sub_nat ht hs] at this; exact this : Calls Try.prog 102 #[.int .i64 (t : Int), .int .i64 (s : Int)] w fun e w' => e = .returned (.bool (decide (t &&& s = t))) ∧ w' = w)
  have H8 := Lib.hid h8
  have HR := Lib.hid hr
  obtain ⟨a, c, rfl⟩ := hr.form
  have hlen := hr.1
  unfold maxLen at hlen
  obtain ⟨m, hm⟩ : ∃ m, l.length = m := ⟨_, rfl⟩
  have HM := Lib.hid hm
  rw [hm] at HR HIB hlen ⊢
  clear hr h8 hm
  go_enter Try.func101, Try.ntmps101
  go_wp2_with fail
  go_loopw [8, 9] (fun ov sv wr => ∃ (f s : Nat) (dn : List PInt) (v0 : Value) (p : Past w), s < 256 ∧ sv = .int .i64 s ∧ ov = v0 ∧ Hid (Cl l s cc) ∧ Hid (Le t cc → dn ++ steps l t f s = steps l t 256 s0) ∧ f + dn.length = 256 ∧ 256 - s ≤ f ∧ Hid (p.w.ownsRow w.heap.size 104 2 v0 dn.length (prs dn)) ∧ wr = p.w) (fun _ sv _ => 256 - (intOf sv).toNat)
  case atStart => exact ⟨256, s0, [], _, Past.start w, hs0, rfl, rfl, HCL, Lib.hid (fun _ => rfl), rfl, by omega, Lib.hid (World.ownsRow_nil _ _ _ _), rfl⟩
  case round =>
    obtain ⟨f, s, dn, v0, p, hs, rfl, rfl, HC, HD, hfl, hfs, hown, rfl⟩ := hrel
    have HSS := Lib.hid (HS.out s hs p.w)
    obtain ⟨av, cv, hov⟩ := rowP_form hown.out
    subst hov
    by_cases hts : t &&& s = t
    · rw [decide_eq_true hts] at HSS
      have hle : Le t cc := (and_le'.1 hts).trans HC.out.le
      have HE1 : Hid (t &&& s = t ↔ t &&& cc = t) := Lib.hid ⟨fun _ => and_le'.2 hle, fun _ => hts⟩
      have HE2 : Hid (dn = steps l t 256 s0) := Lib.hid (by have := HD.out hle; rw [steps_done hts, List.append_nil] at this; exact this)
      have HO2 := Lib.hid (OwnP.made hown.out)
      have hbb := p.h
      clear hts hle
      go_wp2_with fail
      refine HSS.out.mono ?_
      rintro e w' ⟨rfl, hw⟩
      subst w'
      go_wp2_with fail
      go_ret2
      exact ⟨_, s, dn, rfl, HO2.out, hbb, hs, HE1.out, fun _ => HE2.out⟩
    · rw [decide_eq_false hts] at HSS
      have HNT := Lib.hid hts
      have HBR := Lib.hid (HIB.out p s hs)
      obtain ⟨f, rfl⟩ : ∃ f', f = f' + 1 := ⟨f - 1, by omega⟩
      clear hts
      cases hall : allR l s with
      | true =>
        have hcs : cc = s := HC.out.eq ⟨Le.refl s, hall, fun u _ h => h⟩
        have hbk : brokenAt l s = -1 := by rw [brokenAt, if_pos hall]
        rw [hbk] at HBR
        have HE1 : Hid (t &&& s = t ↔ t &&& cc = t) := Lib.hid (by rw [hcs])
        clear hall hcs hbk
        go_wp2_with fail
        refine HSS.out.mono ?_
        rintro e w' ⟨rfl, hw⟩
        subst w'
        go_wp2_with fail
        refine HBR.out.mono ?_
        rintro e _ ⟨rfl, q, rfl, b2⟩
        have HO2 := Lib.hid (OwnP.made (rowP_same hown.out fun g hg => b2.block g (hown.out.lt g hg).2))
        have hbb := q.h
        clear b2
        go_wp2_with fail
        go_ret2
        exact ⟨_, s, dn, rfl, HO2.out, hbb, hs, HE1.out, fun h => absurd h HNT.out⟩
      | false =>
        have hbl := badAt_lt hall
        have hmore := step_more hall HC.out
        have hbk : brokenAt l s = ((badAt l s : Nat) : Int) := by rw [brokenAt, if_neg (by rw [hall]; decide)]
        rw [hbk] at HBR
        have hst := HD.out
        rw [steps_more HNT.out] at hst
        have HST := Lib.hid hst
        have HC2 := Lib.hid hmore.1
        have hlt2 := hmore.2
        have hrr := allIn_rl H8.out hbl
        have hr1 := set8 hrr.2
        have htl := allIn_lt H8.out hbl
        clear hst hmore hall hbk hrr HD
        obtain ⟨bi, hbi⟩ : ∃ bi, badAt l s = bi := ⟨_, rfl⟩
        rw [hbi] at HBR HST HC2 hlt2 hr1 htl hbl
        have hbm : bi < m := by have := HM.out; omega
        clear hbi
        obtain ⟨b, o, rfl, hb, h0, h1⟩ := readsP_at (by have := HR.out; rw [← HM.out] at this; exact this) hbl
        have c1 := fun q : Past w => Past.cell h1 (by show b < _; omega) q
        clear h0 h1
        generalize rl l bi = ri at c1 HST HC2 htl hlt2 hr1
        obtain ⟨r0, r1⟩ := ri
        simp only at hr1 c1
        obtain ⟨z, rfl⟩ := Int.eq_ofNat_of_zero_le hr1.1
        simp only [Int.toNat_natCast] at HST HC2 htl hlt2
        have hor := or_nat' s z hs (by omega)
        have hs2 : s ||| z < 256 := Nat.or_lt_two_pow (n := 8) hs htl
        have hng : decide ((bi : Int) < 0) = false := by simp
        go_wp2_with fail
        refine HSS.out.mono ?_
        rintro e w' ⟨rfl, hw⟩
        subst w'
        go_wp2_with fail
        refine HBR.out.mono ?_
        rintro e _ ⟨rfl, q2, rfl, b3⟩
        have kr1 := c1 q2
        have HO3 := Lib.hid (rowP_same hown.out fun g hg => b3.block g (hown.out.lt g hg).2)
        have hq2z := q2.size
        generalize s ||| z = s2 at hor hs2 HST HC2 hlt2
        have HK1 : Hid (dn.length + 1 ≤ maxLen) := Lib.hid (by unfold maxLen; omega)
        have HK2 : Hid ((dn.length + 1) * 16 ≤ 140737488355328) := Lib.hid (by omega)
        clear b3 hown
        go_wp2_with (at_builtin; refine wpList_append_own _ rfl _ _ 46 rfl w.heap.size 104 i0 (.agg #[.int .i64 0, .int .i64 0]) 2 16 Try.underlying46 hinf hz0 hz1 hz2 rfl (by decide) _ _ _ rfl (HO3.out.alloc _) ⟨q2.w.heap.size, 0, none⟩ 1 1 (prs [((bi : Int), (s2 : Int))]) rfl rfl (newsQ _ _ _ _) (oneQ _) HK1.out HK2.out (by simp; omega) ?_)
        intro v4 w4 hown4 hgrow _
        have HP4 : Hid (∃ q4 : Past w, q4.w = w4) := Lib.hid ⟨⟨w4, (q2.h.alloc q2.size _).grown hgrow (q2.alloc _).size (fun j hj => (HO3.out.lt j hj).1)⟩, rfl⟩
        obtain ⟨q4, rfl⟩ := HP4.out
        have HO4 := Lib.hid hown4
        clear hown4 hgrow HP4
        go_wp2_with fail
        go_roundw
        case rel => exact ⟨f, s2, dn ++ [((bi : Int), (s2 : Int))], _, q4, hs2, rfl, rfl, HC2, Lib.hid (fun h => by rw [List.append_assoc]; exact HST.out h), by rw [List.length_append]; simp; omega, by omega, Lib.hid (by rw [List.length_append, prs_app]; exact HO4.out), rfl⟩
        case measure => simp [intOf]; omega
end Go.Proofs.Ytgkoggajdhibdaa.Infer

namespace Go.Proofs.Ytgkoggajdhibdaa.Infer
open Go Go.RowKit Mem Sets Ctx Tab Rule Stem Lectic
set_option maxRecDepth 100000

theorem follows_no1 {l : List PInt} {r : PInt} (h : allIn 8 l = false) : follows l r = false := by rw [follows, h]; rfl
theorem follows_no2 {l : List PInt} {r : PInt} (h : isR 8 r = false) : follows l r = false := by rw [follows, h, Bool.and_false]; rfl
theorem proofOf_no {l : List PInt} {r : PInt} (h : follows l r = false) : proofOf l r = [] := by rw [proofOf, if_neg (by rw [h]; decide)]
set_option maxHeartbeats 6400000 in
theorem impl_proof (v : Value) (l : List PInt) (r : PInt) (B : Nat) (w : World) (hr : ReadsP w B v l) (hB : B ≤ w.heap.size) :
    Calls Try.prog 37 #[v, Rule.mk r] w fun e w' => ∃ u, e = .returned (.tuple #[u, .bool (follows l r)]) ∧ OwnP 104 w' w.heap.size w'.heap.size u (proofOf l r) ∧ Below w.heap.size w w' := by
  obtain ⟨x, y⟩ := r
  have hW := (Below.refl w.heap.size w).alloc (Nat.le_refl _) (.cells #[.int .i64 x, .int .i64 y] 43)
  have q0 : (w.alloc (.cells #[.int .i64 x, .int .i64 y] 43)).cell? ⟨w.heap.size, 0, none⟩ = some (.int .i64 x) := by simp
  have q1 : (w.alloc (.cells #[.int .i64 x, .int .i64 y] 43)).cell? ⟨w.heap.size, 1, none⟩ = some (.int .i64 y) := by simp
  have hz : w.heap.size < (w.alloc (.cells #[.int .i64 x, .int .i64 y] 43)).heap.size := by simp
  have HR := Lib.hid (hr.below hW hB)
  obtain ⟨a, c, rfl⟩ := hr.form
  clear hr
  go_enter Try.func37, Try.ntmps37
  go_wp2_with fail
  generalize w.alloc (.cells #[.int .i64 x, .int .i64 y] 43) = W at hW q0 q1 hz HR ⊢
  have hBW : B ≤ W.heap.size := by omega
  have k0 := fun p : Past W => Past.cell q0 (by show w.heap.size < _; omega) p
  have k1 := fun p : Past W => Past.cell q1 (by show w.heap.size < _; omega) p
  have HBW := Lib.hid hW
  have HA := Lib.hid ((Past.start W).of (areRulesOf 8 (.slice a l.length c) l B W HR.out hBW))
  have HQ := Lib.hid fun p : Past W => p.of (isRuleOf 8 (x, y) p.w)
  have HOL := Lib.hid fun p : Past W => OwnP.made (l := []) (n := 0) (World.ownsRow_nil p.w w.heap.size 104 2)
  clear hW q0 q1
  cases h8 : allIn 8 l with
  | false =>
    have HFA := Lib.hid (follows_no1 (r := (x, y)) h8)
    have HX := Lib.hid (proofOf_no HFA.out)
    rw [h8] at HA
    clear h8
    refine HA.out.mono ?_
    rintro e _ ⟨rfl, p, rfl⟩
    have hbb := HBW.out.trans (p.h.mono (by omega))
    go_wp2_with fail
    go_ret2
    exact ⟨_, by rw [HFA.out]; rfl, by rw [HX.out]; exact HOL.out p, hbb⟩
  | true =>
    rw [h8] at HA
    cases hq : isR 8 (x, y) with
    | false =>
      have HFA := Lib.hid (follows_no2 (l := l) hq)
      have HX := Lib.hid (proofOf_no HFA.out)
      rw [hq] at HQ
      clear h8 hq
      refine HA.out.mono ?_
      rintro e _ ⟨rfl, p, rfl⟩
      have kp0 := k0 p
      have kp1 := k1 p
      go_wp2_with fail
      refine (HQ.out p).mono ?_
      rintro e _ ⟨rfl, p2, rfl⟩
      have hbb := HBW.out.trans (p2.h.mono (by omega))
      go_wp2_with fail
      go_ret2
      exact ⟨_, by rw [HFA.out]; rfl, by rw [HX.out]; exact HOL.out p2, hbb⟩
    | true =>
      have hq2 := hq
      unfold isR at hq2
      rw [Bool.and_eq_true] at hq2
      have hx := set8 hq2.1
      have hy := set8 hq2.2
      obtain ⟨s0, rfl⟩ := Int.eq_ofNat_of_zero_le hx.1
      obtain ⟨t, rfl⟩ := Int.eq_ofNat_of_zero_le hy.1
      have hs0 : s0 < 256 := by omega
      have ht : t < 256 := by omega
      have hfo : follows l ((s0 : Int), (t : Int)) = decide (t &&& Rule.cl l s0 = t) := by
        rw [follows, h8, hq]; simp only [Int.toNat_natCast]; rfl
      have HP : Hid (∀ h : t &&& Rule.cl l s0 = t, proofOf l ((s0 : Int), (t : Int)) = steps l t 256 s0) := Lib.hid fun h => by
        rw [proofOf, if_pos (by rw [hfo]; exact decide_eq_true h)]; simp only [Int.toNat_natCast]
      have HFO := Lib.hid hfo
      have HST := Lib.hid fun p : Past W => impl_steps (.slice a l.length c) l s0 t B p.w (HR.out.below p.h hBW) (Nat.le_trans hBW p.size) h8 hs0 ht
      rw [hq] at HQ
      clear h8 hq hq2 hfo
      refine HA.out.mono ?_
      rintro e _ ⟨rfl, p, rfl⟩
      have kp0 := k0 p
      have kp1 := k1 p
      go_wp2_with fail
      refine (HQ.out p).mono ?_
      rintro e _ ⟨rfl, p2, rfl⟩
      have kq0 := k0 p2
      have kq1 := k1 p2
      go_wp2_with fail
      refine (HST.out p2).mono ?_
      rintro e w3 ⟨u, s, dn, rfl, o3, b3, hs, hiff, hdn⟩
      have HP3 : Hid (∃ p3 : Past W, p3.w = w3) := Lib.hid ⟨⟨w3, p2.h.trans (b3.mono p2.size)⟩, rfl⟩
      have hp2z := p2.size
      have HO3 := Lib.hid (o3.mono (lo' := w.heap.size) (by omega) (Nat.le_refl _))
      have HDN := Lib.hid hdn
      have HIF := Lib.hid hiff
      obtain ⟨p3, rfl⟩ := HP3.out
      obtain ⟨au, cu, rfl⟩ := HO3.out.form
      have kr1 := k1 p3
      have HSU := Lib.hid (by have := impl_sub (t : Int) (s : Int) p3.w; rw [sub_nat ht hs] at this; exact this : Calls Try.prog 102 #[.int .i64 (t : Int), .int .i64 (s : Int)] p3.w fun e w' => e = .returned (.bool (decide (t &&& s = t))) ∧ w' = p3.w)
      have hbb := HBW.out.trans (p3.h.mono (by omega))
      clear o3 b3 hdn hiff HP3
      by_cases hts : t &&& s = t
      · have HFA : Hid (follows l ((s0 : Int), (t : Int)) = true) := Lib.hid (by rw [HFO.out]; exact decide_eq_true (HIF.out.1 hts))
        have HX : Hid (proofOf l ((s0 : Int), (t : Int)) = dn) := Lib.hid (by rw [HP.out (HIF.out.1 hts), HDN.out hts])
        rw [decide_eq_true hts] at HSU
        clear hts
        go_wp2_with fail
        refine HSU.out.mono ?_
        rintro e w' ⟨rfl, hw⟩
        subst w'
        go_wp2_with fail
        go_ret2
        exact ⟨_, by rw [HFA.out]; rfl, by rw [HX.out]; exact HO3.out, hbb⟩
      · have HFA : Hid (follows l ((s0 : Int), (t : Int)) = false) := Lib.hid (by rw [HFO.out]; exact decide_eq_false fun h => hts (HIF.out.2 h))
        have HX := Lib.hid (proofOf_no HFA.out)
        rw [decide_eq_false hts] at HSU
        clear hts
        go_wp2_with fail
        refine HSU.out.mono ?_
        rintro e w' ⟨rfl, hw⟩
        subst w'
        go_wp2_with fail
        go_ret2
        exact ⟨_, by rw [HFA.out]; rfl, by rw [HX.out]; exact HOL.out p3, hbb⟩
theorem stepOk_no {l : List PInt} {s : Nat} {p : PInt} (h : ¬ (0 ≤ p.1 ∧ p.1 ≤ (l.length : Int) - 1)) : stepOk l s p = false := by rw [stepOk, decide_eq_false h]; rfl
theorem stepOk_nat {l : List PInt} {s j : Nat} {z : Int} (h : j < l.length) : stepOk l s ((j : Int), z) = stepIn (rl l j) s z := by
  rw [stepOk, decide_eq_true (show 0 ≤ ((j : Int), z).1 ∧ ((j : Int), z).1 ≤ (l.length : Int) - 1 from ⟨by show (0 : Int) ≤ (j : Int); omega, by show (j : Int) ≤ _; omega⟩)]
  show (true && stepIn (rl l ((j : Int)).toNat) s z) = _
  rw [Int.toNat_natCast]; rfl
theorem eq_dec (x : Int) (z : Nat) : (x == (z : Int)) = decide (x = (z : Int)) := by
  by_cases h : x = (z : Int) <;> simp [h]
set_option maxHeartbeats 3200000 in
theorem impl_right (v : Value) (l : List PInt) (s : Nat) (st : PInt) (B : Nat) (w : World) (hr : ReadsP w B v l) (hB : B ≤ w.heap.size) (h8 : allIn 8 l = true) (hs : s < 256) :
    Calls Try.prog 115 #[v, .int .i64 (s : Int), PStep.mk st] w fun e w' => e = .returned (.bool (stepOk l s st)) ∧ Below w.heap.size w w' := by
  obtain ⟨g, z⟩ := st
  have hW := (Below.refl w.heap.size w).alloc (Nat.le_refl _) (.cells #[.int .i64 g, .int .i64 z] 104)
  have q0 : (w.alloc (.cells #[.int .i64 g, .int .i64 z] 104)).cell? ⟨w.heap.size, 0, none⟩ = some (.int .i64 g) := by simp
  have q1 : (w.alloc (.cells #[.int .i64 g, .int .i64 z] 104)).cell? ⟨w.heap.size, 1, none⟩ = some (.int .i64 z) := by simp
  have hz : w.heap.size < (w.alloc (.cells #[.int .i64 g, .int .i64 z] 104)).heap.size := by simp
  have HR := Lib.hid (hr.below hW hB)
  obtain ⟨a, c, rfl⟩ := hr.form
  have hlen := hr.1
  unfold maxLen at hlen
  clear hr
  by_cases hg : 0 ≤ g ∧ g ≤ (l.length : Int) - 1
  · obtain ⟨j, rfl⟩ := Int.eq_ofNat_of_zero_le hg.1
    have hj : j < l.length := by omega
    have HX := Lib.hid (stepOk_nat (s := s) (z := z) hj)
    have d1 : decide ((j : Int) < 0) = false := by simp
    have d2 : decide ((l.length : Int) ≤ (j : Int)) = false := by simp; omega
    have hjl : (j : Int) < (l.length : Int) := by omega
    have hrr := allIn_rl h8 hj
    have hr0 := set8 hrr.1
    have hr1 := set8 hrr.2
    clear hrr h8 hg
    go_enter Try.func115, Try.ntmps115
    go_upto_region 1 with fail
    generalize w.alloc (.cells #[.int .i64 (j : Int), .int .i64 z] 104) = W at hW q0 q1 hz HR ⊢
    have HBW := Lib.hid hW
    obtain ⟨b, o, rfl, hb, h0, h1⟩ := readsP_at HR.out hj
    clear hW
    generalize rl l j = rr at h0 h1 hr0 hr1 HX
    obtain ⟨r0, r1⟩ := rr
    simp only at hr0 hr1 h0 h1
    obtain ⟨u, rfl⟩ := Int.eq_ofNat_of_zero_le hr0.1
    obtain ⟨t1, rfl⟩ := Int.eq_ofNat_of_zero_le hr1.1
    rw [stepIn_nat] at HX
    have hor := or_nat' s t1 hs (by omega)
    have hsu := fun w => (by have := impl_sub (u : Int) (s : Int) w; rw [sub_nat (by omega) hs] at this; exact this : Calls Try.prog 102 #[.int .i64 (u : Int), .int .i64 (s : Int)] w fun e w' => e = .returned (.bool (decide (u &&& s = u))) ∧ w' = w)
    have HSU := Lib.hid hsu
    have e2 := eq_dec z (s ||| t1)
    generalize s ||| t1 = s2 at hor HX e2
    obtain ⟨f1, hf1⟩ : ∃ f, decide (u &&& s = u) = f := ⟨_, rfl⟩
    obtain ⟨f2, hf2⟩ : ∃ f, decide (z = (s2 : Int)) = f := ⟨_, rfl⟩
    rw [hf1] at HX HSU
    rw [hf2] at HX e2
    have hbx := Lib.hid (HBW.out.alloc (by omega) (.cells #[.int .i64 (u : Int), .int .i64 (t1 : Int)] 43))
    have a0 : (W.alloc (.cells #[.int .i64 (u : Int), .int .i64 (t1 : Int)] 43)).cell? ⟨w.heap.size, 0, none⟩ = some (.int .i64 (j : Int)) := (World.cell?_alloc_lt W _ _ (by show w.heap.size < _; omega)).trans q0
    have a1 : (W.alloc (.cells #[.int .i64 (u : Int), .int .i64 (t1 : Int)] 43)).cell? ⟨w.heap.size, 1, none⟩ = some (.int .i64 z) := (World.cell?_alloc_lt W _ _ (by show w.heap.size < _; omega)).trans q1
    clear hf1 hf2 hsu
    cases f1 with
    | false =>
      go_wp2_with fail
      refine (HSU.out _).mono ?_
      rintro e w' ⟨rfl, hw⟩
      subst w'
      go_wp2_with fail
      go_ret
      exact ⟨by rw [HX.out]; rfl, hbx.out⟩
    | true =>
      go_wp2_with fail
      refine (HSU.out _).mono ?_
      rintro e w' ⟨rfl, hw⟩
      subst w'
      go_wp2_with fail
      go_ret
      exact ⟨by rw [HX.out]; rfl, hbx.out⟩
  · have HX := Lib.hid (stepOk_no (s := s) (p := (g, z)) hg)
    by_cases hg0 : g < 0
    · have d1 : decide (g < 0) = true := decide_eq_true hg0
      clear hg h8
      go_enter Try.func115, Try.ntmps115
      go_upto_region 1 with fail
      generalize w.alloc (.cells #[.int .i64 g, .int .i64 z] 104) = W at hW q0 q1 hz HR ⊢
      go_wp2_with fail
      go_ret
      exact ⟨by rw [HX.out]; rfl, hW⟩
    · have d1 : decide (g < 0) = false := decide_eq_false hg0
      have d2 : decide ((l.length : Int) ≤ g) = true := by simp; omega
      clear hg h8
      go_enter Try.func115, Try.ntmps115
      go_upto_region 1 with fail
      generalize w.alloc (.cells #[.int .i64 g, .int .i64 z] 104) = W at hW q0 q1 hz HR ⊢
      go_wp2_with fail
      go_ret
      exact ⟨by rw [HX.out]; rfl, hW⟩
set_option maxHeartbeats 6400000 in
theorem impl_check (v vs : Value) (l ps : List PInt) (r : PInt) (B : Nat) (w : World) (hr : ReadsP w B v l) (hs : ReadsP w B vs ps) (hB : B ≤ w.heap.size) :
    Calls Try.prog 50 #[v, Rule.mk r, vs] w fun e w' => e = .returned (.bool (checkProof l r ps)) ∧ Below w.heap.size w w' := by
  obtain ⟨x, y⟩ := r
  have hW := (Below.refl w.heap.size w).alloc (Nat.le_refl _) (.cells #[.int .i64 x, .int .i64 y] 43)
  have q0 : (w.alloc (.cells #[.int .i64 x, .int .i64 y] 43)).cell? ⟨w.heap.size, 0, none⟩ = some (.int .i64 x) := by simp
  have q1 : (w.alloc (.cells #[.int .i64 x, .int .i64 y] 43)).cell? ⟨w.heap.size, 1, none⟩ = some (.int .i64 y) := by simp
  have hz : w.heap.size < (w.alloc (.cells #[.int .i64 x, .int .i64 y] 43)).heap.size := by simp
  have HR := Lib.hid (hr.below hW hB)
  have HRS := Lib.hid (hs.below hW hB)
  obtain ⟨a, c, rfl⟩ := hr.form
  obtain ⟨as1, cs1, rfl⟩ := hs.form
  have hlen2 := hs.1
  unfold maxLen at hlen2
  clear hr hs
  go_enter Try.func50, Try.ntmps50
  go_wp2_with fail
  generalize w.alloc (.cells #[.int .i64 x, .int .i64 y] 43) = W at hW q0 q1 hz HR HRS ⊢
  have hBW : B ≤ W.heap.size := by omega
  have k0 := fun p : Past W => Past.cell q0 (by show w.heap.size < _; omega) p
  have k1 := fun p : Past W => Past.cell q1 (by show w.heap.size < _; omega) p
  have HBW := Lib.hid hW
  have HA := Lib.hid ((Past.start W).of (areRulesOf 8 (.slice a l.length c) l B W HR.out hBW))
  have HQ := Lib.hid fun p : Past W => p.of (isRuleOf 8 (x, y) p.w)
  clear hW q0 q1
  cases h8 : allIn 8 l with
  | false =>
    have HX := Lib.hid (checkProof_no1 (r := (x, y)) (ps := ps) h8)
    rw [h8] at HA
    clear h8
    refine HA.out.mono ?_
    rintro e _ ⟨rfl, p, rfl⟩
    have hbb := HBW.out.trans (p.h.mono (by omega))
    go_wp2_with fail
    go_ret
    exact ⟨by rw [HX.out]; rfl, hbb⟩
  | true =>
    rw [h8] at HA
    cases hq : isR 8 (x, y) with
    | false =>
      have HX := Lib.hid (checkProof_no2 (l := l) (ps := ps) hq)
      rw [hq] at HQ
      clear h8 hq
      refine HA.out.mono ?_
      rintro e _ ⟨rfl, p, rfl⟩
      have kp0 := k0 p
      have kp1 := k1 p
      go_wp2_with fail
      refine (HQ.out p).mono ?_
      rintro e _ ⟨rfl, p2, rfl⟩
      have hbb := HBW.out.trans (p2.h.mono (by omega))
      go_wp2_with fail
      go_ret
      exact ⟨by rw [HX.out]; rfl, hbb⟩
    | true =>
      have HX := Lib.hid (checkProof_yes (ps := ps) h8 hq)
      have hq2 := hq
      unfold isR at hq2
      rw [Bool.and_eq_true] at hq2
      have hx := set8 hq2.1
      have hy := set8 hq2.2
      obtain ⟨s0, rfl⟩ := Int.eq_ofNat_of_zero_le hx.1
      obtain ⟨t, rfl⟩ := Int.eq_ofNat_of_zero_le hy.1
      have hs0 : s0 < 256 := by omega
      have ht : t < 256 := by omega
      simp only [Int.toNat_natCast] at HX
      have H8 := Lib.hid h8
      have HRT := Lib.hid fun (p : Past W) (s : Nat) (hs : s < 256) (st : PInt) => p.ofB (impl_right (.slice a l.length c) l s st B p.w (HR.out.below p.h hBW) (Nat.le_trans hBW p.size) h8 hs)
      rw [hq] at HQ
      clear h8 hq hq2
      obtain ⟨n, hn⟩ : ∃ n, ps.length = n := ⟨_, rfl⟩
      have HN := Lib.hid hn
      rw [hn] at HRS hlen2 ⊢
      clear hn
      refine HA.out.mono ?_
      rintro e _ ⟨rfl, p, rfl⟩
      have kp0 := k0 p
      have kp1 := k1 p
      go_wp2_with fail
      refine (HQ.out p).mono ?_
      rintro e _ ⟨rfl, p2, rfl⟩
      have kq0 := k0 p2
      have kq1 := k1 p2
      clear kp0 kp1 HA HQ
      go_wp2_with fail
      go_loopw [7, 22] (fun sv kv wr => ∃ (s k : Nat) (p : Past W), s < 256 ∧ sv = .int .i64 s ∧ k ≤ n ∧ kv = .int .i64 k ∧ Hid (checkProof l ((s0 : Int), (t : Int)) ps = ends t (chk l s (ps.drop k))) ∧ wr = p.w) (fun _ kv _ => n - (intOf kv).toNat)
      case atStart => exact ⟨s0, 0, p2, hs0, rfl, Nat.zero_le _, rfl, HX, rfl⟩
      case round =>
        obtain ⟨s, k, p, hs, rfl, hk, rfl, HC, rfl⟩ := hrel
        by_cases hlt : k < n
        · have hkl : k < ps.length := by rw [HN.out]; exact hlt
          obtain ⟨b, o, rfl, hb, h0, h1⟩ := readsP_at (by have := HRS.out; rw [← HN.out] at this; exact this) hkl
          have cp0 := Past.cell h0 (by show b < _; omega) p
          have cp1 := Past.cell h1 (by show b < _; omega) p
          have HCS := Lib.hid (chk_step (l := l) (s := s) hkl)
          have HSI := Lib.hid fun j (hj : j < l.length) => allIn_rl H8.out hj
          clear h0 h1
          generalize rl ps k = st at cp0 cp1 HCS
          obtain ⟨g, z⟩ := st
          simp only at cp0 cp1
          have HO := Lib.hid (HRT.out (p.alloc (.cells #[.int .i64 g, .int .i64 z] 104)) s hs (g, z))
          have hpz := p.size
          have hb1 : (p.w.alloc (.cells #[.int .i64 g, .int .i64 z] 104)).cell? ⟨p.w.heap.size, 1, none⟩ = some (.int .i64 z) := by simp
          cases hok : stepOk l s (g, z) with
          | false =>
            have HE : Hid (checkProof l ((s0 : Int), (t : Int)) ps = false) := Lib.hid (by rw [HC.out, HCS.out, hok]; rfl)
            rw [hok] at HO
            clear hok
            go_wp2_with fail
            refine HO.out.mono ?_
            rintro e _ ⟨rfl, p3, rfl, -⟩
            have hbb := HBW.out.trans (p3.h.mono (by omega))
            go_wp2_with fail
            go_ret
            exact ⟨by rw [HE.out]; rfl, hbb⟩
          | true =>
            have hin := hok
            rw [stepOk, Bool.and_eq_true, decide_eq_true_eq, stepIn, Bool.and_eq_true, decide_eq_true_eq, decide_eq_true_eq] at hin
            obtain ⟨⟨hg0, hg1⟩, -, hzz⟩ := hin
            simp only at hg0 hg1 hzz
            have hgl : g.toNat < l.length := by omega
            have hlt8 := allIn_lt H8.out hgl
            have HE : Hid (checkProof l ((s0 : Int), (t : Int)) ps = ends t (chk l (s ||| (rl l g.toNat).2.toNat) (ps.drop (k + 1)))) := Lib.hid (by rw [HC.out, HCS.out, hok]; rfl)
            have hs2 : s ||| (rl l g.toNat).2.toNat < 256 := Nat.or_lt_two_pow (n := 8) hs hlt8
            rw [hok] at HO
            clear hok hlt8
            generalize s ||| (rl l g.toNat).2.toNat = s2 at hzz HE hs2
            subst hzz
            go_wp2_with fail
            refine HO.out.mono ?_
            rintro e _ ⟨rfl, p3, rfl, b3⟩
            have cq1 : p3.w.cell? ⟨p.w.heap.size, 1, none⟩ = some (.int .i64 (s2 : Int)) := (b3.cell (p := ⟨p.w.heap.size, 1, none⟩) (by show p.w.heap.size < (p.w.alloc _).heap.size; simp)).trans hb1
            clear b3
            go_wp2_with fail
            go_roundw
            case rel => exact ⟨s2, k + 1, p3, hs2, rfl, by omega, by simp, HE, rfl⟩
            case measure => simp [intOf]; omega
        · have HE : Hid (checkProof l ((s0 : Int), (t : Int)) ps = decide (t &&& s = t)) := Lib.hid (by
            rw [HC.out, chk_end (by have := HN.out; omega)]; rfl)
          have HSU := Lib.hid (by have := impl_sub (t : Int) (s : Int) p.w; rw [sub_nat ht hs] at this; exact this : Calls Try.prog 102 #[.int .i64 (t : Int), .int .i64 (s : Int)] p.w fun e w' => e = .returned (.bool (decide (t &&& s = t))) ∧ w' = p.w)
          have hbb := HBW.out.trans (p.h.mono (by omega))
          have kp0 := k0 p
          have kp1 := k1 p
          go_wp2_with fail
          refine HSU.out.mono ?_
          rintro e w' ⟨rfl, hw⟩
          subst w'
          go_wp2_with fail
          go_ret
          exact ⟨by rw [HE.out]; rfl, hbb⟩
end Go.Proofs.Ytgkoggajdhibdaa.Infer
