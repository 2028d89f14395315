/-
  Chapter 10 of the program: the pseudo-closed sets, the stem base, bases, how many rules.
-/
import Derived.Test.YthodmmckekgkdaaMrg3
import Derived.Test.YthodmmckekgkdaaCloB
import Derived.Test.YthodmmckekgkdaaRuleI2
import Derived.Test.YthodmmckekgkdaaRuleF
import Derived.Test.YthodmmckekgkdaaConc6
import Derived.Test.YthodmmckekgkdaaMrg2
namespace Go.Proofs.Ythodmmckekgkdaa.Stem
open Go Go.RowKit Mem Sets Ctx Tab Rule Lectic
set_option maxRecDepth 100000

theorem closure_nat {n : Nat} {rs : List Int} (hc : isCtx (n : Int) rs = true) {x : Nat} (hx : x < 2 ^ n) : closure (n : Int) rs (x : Int) = ((clo (n : Int) rs x : Nat) : Int) := by
  have h6 := isCtx_parts hc
  rw [closure, if_pos ⟨hc, isSet_of_nat h6.1 (by omega) (by rw [Int.toNat_natCast]; exact hx)⟩]; rfl
/-- The closure of sets in a context, as StemBase hands it on. -/
theorem stem_fn (a x : Int) (v : Value) (rs : List Int) (B b : Nat) (w : World) (hr : Reads w B v (ints rs)) (hB : B ≤ w.heap.size) (h0 : w.cell? ⟨b, 0, none⟩ = some (.int .i64 a)) (h1 : w.cell? ⟨b, 1, none⟩ = some v) :
    Calls Try.prog 57 #[.int .i64 x, .pointer (some ⟨b, 0, none⟩)] w fun e w' => e = .returned (.int .i64 (closure a rs x)) ∧ Below w.heap.size w w' := by
  have HC := Lib.hid (impl_closure a v rs x B w hr hB)
  obtain ⟨aa, ca, rfl⟩ := reads_form hr
  clear hr
  go_enter Try.func57, Try.ntmps57
  go_wp2_with fail
  refine HC.out.mono ?_
  rintro e w' ⟨rfl, hbb⟩
  go_wp2_with fail
  go_ret
  exact ⟨rfl, hbb⟩
set_option maxHeartbeats 3200000 in
theorem impl_stem (a : Int) (v : Value) (rs : List Int) (B : Nat) (w : World) (hr : Reads w B v (ints rs)) (hB : B ≤ w.heap.size) :
    Calls Try.prog 12 #[ctx a v] w fun e w' => ∃ u, e = .returned u ∧ OwnP 43 w' w.heap.size w'.heap.size u (stemBase a rs) ∧ Below w.heap.size w w' := by
  obtain ⟨aa, ca, rfl⟩ := reads_form hr
  have hW := (Below.refl w.heap.size w).alloc (Nat.le_refl _) (.cells #[.int .i64 a, .slice aa rs.length ca] 26)
  have HR1 := Lib.hid (hr.below hW hB)
  have q0 : (w.alloc (.cells #[.int .i64 a, .slice aa rs.length ca] 26)).cell? ⟨w.heap.size, 0, none⟩ = some (.int .i64 a) := by simp
  have q1 : (w.alloc (.cells #[.int .i64 a, .slice aa rs.length ca] 26)).cell? ⟨w.heap.size, 1, none⟩ = some (.slice aa rs.length ca) := by simp
  have hz : w.heap.size < (w.alloc (.cells #[.int .i64 a, .slice aa rs.length ca] 26)).heap.size := by simp
  clear hr
  go_enter Try.func12, Try.ntmps12
  go_wp2_with fail
  generalize w.alloc (.cells #[.int .i64 a, .slice aa rs.length ca] 26) = W at HR1 hW q0 q1 hz ⊢
  have hBW : B ≤ W.heap.size := by omega
  have k0 := fun p : Past W => Past.cell q0 (by show w.heap.size < _; omega) p
  have k1 := fun p : Past W => Past.cell q1 (by show w.heap.size < _; omega) p
  have HBW := Lib.hid hW
  clear q0 q1 hW
  refine ((Past.start W).of (impl_isCtx a _ rs B W HR1.out hBW)).mono ?_
  rintro e _ ⟨rfl, p, rfl⟩
  have kp0 := k0 p
  have kp1 := k1 p
  have hbb := HBW.out.trans (p.h.mono (by omega))
  have hpz := p.size
  cases hic : isCtx a rs with
  | false =>
    have HX : Hid (stemBase a rs = []) := Lib.hid (by rw [stemBase, if_neg (by rw [hic]; decide)])
    have HO := Lib.hid (ownP_nil 43 p.w w.heap.size)
    clear hic
    go_wp2_with fail
    go_ret
    exact ⟨_, rfl, by rw [HX.out]; exact HO.out, hbb⟩
  | true =>
    have HX : Hid (stemBase a rs = stemOf a rs) := Lib.hid (by rw [stemBase, if_pos hic])
    have h6 := isCtx_parts hic
    obtain ⟨n, rfl⟩ := Int.eq_ofNat_of_zero_le h6.1
    have hn6 : n ≤ 6 := by omega
    have C := clo_ok hic
    rw [Int.toNat_natCast] at C
    have HALL := stemTo_all hic
    rw [Int.toNat_natCast, ← HX.out] at HALL
    have HB := impl_closureBase n hn6 57 #[.pointer (some ⟨w.heap.size, 0, none⟩)] (clo (n : Int) rs) C p.w (enters_of Try.func57 (by kernel_rfl) rfl) (fun q x hx => by
      have := stem_fn (n : Int) (x : Int) (.slice aa rs.length ca) rs B w.heap.size q.w (HR1.out.below (p.h.trans (q.h.mono p.size)) hBW) (Nat.le_trans hBW (up p q).size) (k0 (up p q)) (k1 (up p q))
      rw [closure_nat hic hx] at this
      exact this)
    rw [HALL] at HB
    have HBH := Lib.hid HB
    clear hic h6 C HALL HB HR1 HX
    go_wp2_with fail
    refine HBH.out.mono ?_
    rintro e w2 ⟨u, rfl, o, b2⟩
    have hb2 := hbb.trans (b2.mono (by omega))
    have HO := Lib.hid (o.mono (lo' := w.heap.size) (by omega) (Nat.le_refl _))
    clear o b2
    go_wp2_with fail
    go_ret
    exact ⟨_, rfl, HO.out, hb2⟩
theorem map_fst_step {l : List PInt} {k : Nat} (hk : k < l.length) : (l.take (k + 1)).map Prod.fst = (l.take k).map Prod.fst ++ [(rl l k).1] := by
  rw [List.take_add_one, List.getElem?_eq_getElem hk, List.map_append, rl, List.getD_eq_getElem?_getD, List.getElem?_eq_getElem hk]; rfl
theorem news1' (w : World) (x : Int) (t : TypeId) : ∀ (j : Nat) (u : Value), [Value.int .i64 x][j]? = some u → (w.alloc (.cells #[.int .i64 x] t)).cell? ((⟨w.heap.size, 0, none⟩ : Addr).add j) = some u := by
  intro j u hj
  match j, hj with
  | 0, hj => simp at hj; subst hj; simp [Addr.add]
theorem news2' (w : World) (x : Int) (t : TypeId) (n : Nat) (hn : w.heap.size = n) : ∀ (j : Nat) (u : Value), [Value.int .i64 x][j]? = some u → (w.alloc (.cells #[.int .i64 x] t)).cell? ((⟨n, 0, none⟩ : Addr).add j) = some u := by
  subst hn; exact news1' w x t
theorem one1' (x : Int) : ∀ u ∈ [Value.int .i64 x], u.oneCell' = true := by
  intro u hu
  simp at hu
  subst hu; rfl
set_option maxHeartbeats 3200000 in
theorem impl_premises (v : Value) (l : List PInt) (B : Nat) (w : World) (hr : ReadsP w B v l) (hB : B ≤ w.heap.size) (hlen : l.length ≤ 1048576) :
    Calls Try.prog 59 #[v] w fun e w' => ∃ u, e = .returned u ∧ Mem.Own 3 w' w.heap.size w'.heap.size u (ints (l.map Prod.fst)) ∧ Below w.heap.size w w' := by
  obtain ⟨i0, hinf, hz0, hz1, hz2⟩ := info_parts Ints.info
  obtain ⟨aa, ca, rfl⟩ := hr.form
  obtain ⟨N, hN⟩ : ∃ N, l.length = N := ⟨_, rfl⟩
  have HN := Lib.hid hN
  have HRD := Lib.hid hr
  obtain ⟨ps, hps⟩ : ∃ ps, l.map Prod.fst = ps := ⟨_, rfl⟩
  have HF := Lib.hid hps
  rw [hN] at HRD hlen ⊢
  rw [hps]
  clear hr hN hps
  go_enter Try.func59, Try.ntmps59
  go_wp2_with fail
  go_loopw [3, 8] (fun ov i wr => ∃ (k : Nat) (u0 : Value) (q : Past w), k ≤ N ∧ i = .int .i64 k ∧ ov = u0 ∧ Hid (q.w.ownsRow w.heap.size 3 1 u0 k (ints ((l.take k).map Prod.fst))) ∧ wr = q.w) (fun _ i _ => N - (intOf i).toNat)
  case atStart => exact ⟨0, _, Past.start w, Nat.zero_le _, rfl, rfl, Lib.hid (World.ownsRow_nil _ _ _ _), rfl⟩
  case round =>
    obtain ⟨k, u0, q, hk, rfl, rfl, hown, rfl⟩ := hrel
    have hqz := q.size
    obtain ⟨av, cv, hov⟩ := rowP_form hown.out
    subst hov
    by_cases hlt : k < N
    · obtain ⟨b, o, rfl, hb, h0, h1⟩ := readsP_at HRD.out (k := k) (by rw [HN.out]; exact hlt)
      have c0 := Past.cell h0 (by show b < _; omega) q
      have c1 := Past.cell h1 (by show b < _; omega) q
      have HSTP := Lib.hid (map_fst_step (l := l) (k := k) (by rw [HN.out]; exact hlt))
      clear h0 h1
      generalize rl l k = r at c0 c1 HSTP
      obtain ⟨r0, r1⟩ := r
      have HK1 : Hid (k + 1 ≤ maxLen) := Lib.hid (by unfold maxLen; omega)
      have HK2 : Hid ((k + 1) * 8 ≤ 140737488355328) := Lib.hid (by omega)
      go_wp2_with (at_builtin; refine wpList_append_lies _ rfl _ _ _ rfl w.heap.size 3 i0 (.int .i64 0) 1 8 Try.underlying24 hinf hz0 hz1 hz2 rfl (by decide) _ k _ rfl ((hown.out.alloc _).alloc _) ⟨q.w.heap.size + 1, 0, none⟩ 1 1 [.int .i64 r0] rfl rfl (news2' _ _ _ _ (by simp)) (one1' _) Nat.one_pos HK1.out HK2.out (by simp; omega) _ rfl ?_)
      intro g cap w4 hown4 hgrow hat hlt4
      have HP4 : Hid (∃ q4 : Past w, q4.w = w4) := Lib.hid ⟨⟨w4, ((q.h.alloc q.size _).alloc (q.alloc _).size _).grown hgrow ((q.alloc _).alloc _).size (fun j hj => (hown.out.lt j hj).1)⟩, rfl⟩
      obtain ⟨q4, rfl⟩ := HP4.out
      have HO4 := Lib.hid hown4
      clear hown4 hgrow hat HP4
      go_wp2_with fail
      go_roundw
      case rel => exact ⟨k + 1, _, q4, by omega, by simp, rfl, Lib.hid (by rw [HSTP.out]; have := HO4.out; simpa [ints] using this), rfl⟩
      case measure => simp [intOf]; omega
    · have HK := Lib.hid (show k = N by omega)
      have hrow := hown.out
      rw [HK.out, List.take_of_length_le (by rw [HN.out]; exact Nat.le_refl _), HF.out] at hrow
      have HO := Lib.hid (Mem.Own.made hrow)
      have hbb := q.h
      have HKK := HK.out
      subst HKK
      clear hrow
      go_wp2_with fail
      go_ret
      exact ⟨_, rfl, HO.out, hbb⟩
theorem impl_pseudo (a : Int) (v : Value) (rs : List Int) (B : Nat) (w : World) (hr : Reads w B v (ints rs)) (hB : B ≤ w.heap.size) :
    Calls Try.prog 13 #[ctx a v] w fun e w' => ∃ u, e = .returned u ∧ Mem.Own 3 w' w.heap.size w'.heap.size u (ints (pseudoIntents a rs)) ∧ Below w.heap.size w w' := by
  obtain ⟨aa, ca, rfl⟩ := reads_form hr
  have hW := (Below.refl w.heap.size w).alloc (Nat.le_refl _) (.cells #[.int .i64 a, .slice aa rs.length ca] 26)
  have HR1 := Lib.hid (hr.below hW hB)
  have q0 : (w.alloc (.cells #[.int .i64 a, .slice aa rs.length ca] 26)).cell? ⟨w.heap.size, 0, none⟩ = some (.int .i64 a) := by simp
  have q1 : (w.alloc (.cells #[.int .i64 a, .slice aa rs.length ca] 26)).cell? ⟨w.heap.size, 1, none⟩ = some (.slice aa rs.length ca) := by simp
  have hz : w.heap.size < (w.alloc (.cells #[.int .i64 a, .slice aa rs.length ca] 26)).heap.size := by simp
  clear hr
  go_enter Try.func13, Try.ntmps13
  go_wp2_with fail
  generalize w.alloc (.cells #[.int .i64 a, .slice aa rs.length ca] 26) = W at HR1 hW q0 q1 hz ⊢
  have hBW : B ≤ W.heap.size := by omega
  have HBW := Lib.hid hW
  clear q0 q1 hW
  refine (impl_stem a _ rs B W HR1.out hBW).mono ?_
  rintro e V ⟨u, rfl, o1, b1⟩
  have hVz := b1.size
  have HBV := Lib.hid (HBW.out.trans (b1.mono (by omega)))
  have HP := Lib.hid (impl_premises u (stemBase a rs) V.heap.size V o1.reads (Nat.le_refl _) (by have := stemBase_len a rs; omega))
  rw [stemBase_fst] at HP
  clear b1 o1
  go_wp2_with fail
  refine HP.out.mono ?_
  rintro e w2 ⟨u2, rfl, o2, b2⟩
  have hbb := HBV.out.trans (b2.mono (by omega))
  go_wp2_with fail
  go_ret
  exact ⟨_, rfl, o2.mono (by omega) (Nat.le_refl _), hbb⟩
theorem follows_stem {a : Int} {rs : List Int} {l : List PInt} (hc : isCtx a rs = true) (hl : areR a l = true) : (stemBase a rs).all (follows l) = allFollow (stemOf a rs) l := by
  have h8 := stemOf_8 hc
  have hl8 : allIn 8 l = true := allIn_to8 (areR_all hl)
  have hS : stemBase a rs = stemOf a rs := by rw [stemBase, if_pos hc]
  rw [hS]
  unfold allFollow
  rw [Bool.eq_iff_iff, List.all_eq_true, List.all_eq_true]
  refine ⟨fun h r hr => ?_, fun h r hr => ?_⟩
  · have h1 := h r hr
    rw [follows, hl8, List.all_eq_true.1 h8 r hr] at h1
    exact h1
  · rw [follows, hl8, List.all_eq_true.1 h8 r hr]
    exact h r hr
theorem isBase_yes {a : Int} {rs : List Int} {l : List PInt} (hc : isCtx a rs = true) (hl : areR a l = true) (hh : l.all (holds a rs) = true) : isBase a rs l = (stemBase a rs).all (follows l) := by
  rw [follows_stem hc hl, isBase, hc, hl, hh]; rfl
set_option maxHeartbeats 6400000 in
theorem impl_isBase (a : Int) (v vl : Value) (rs : List Int) (l : List PInt) (B : Nat) (w : World) (hr : Reads w B v (ints rs)) (h2 : ReadsP w B vl l) (hB : B ≤ w.heap.size) :
    Calls Try.prog 15 #[ctx a v, vl] w fun e w' => e = .returned (.bool (isBase a rs l)) ∧ Below w.heap.size w w' := by
  obtain ⟨aa, ca, rfl⟩ := reads_form hr
  have hW := (Below.refl w.heap.size w).alloc (Nat.le_refl _) (.cells #[.int .i64 a, .slice aa rs.length ca] 26)
  have HR1 := Lib.hid (hr.below hW hB)
  have HL1 := Lib.hid (h2.below hW hB)
  have q0 : (w.alloc (.cells #[.int .i64 a, .slice aa rs.length ca] 26)).cell? ⟨w.heap.size, 0, none⟩ = some (.int .i64 a) := by simp
  have q1 : (w.alloc (.cells #[.int .i64 a, .slice aa rs.length ca] 26)).cell? ⟨w.heap.size, 1, none⟩ = some (.slice aa rs.length ca) := by simp
  have hz : w.heap.size < (w.alloc (.cells #[.int .i64 a, .slice aa rs.length ca] 26)).heap.size := by simp
  obtain ⟨al, cl, rfl⟩ := h2.form
  have hlen := h2.1
  unfold maxLen at hlen
  clear hr h2
  go_enter Try.func15, Try.ntmps15
  go_wp2_with fail
  generalize w.alloc (.cells #[.int .i64 a, .slice aa rs.length ca] 26) = W at HR1 HL1 hW q0 q1 hz ⊢
  have hBW : B ≤ W.heap.size := by omega
  have k0 := fun p : Past W => Past.cell q0 (by show w.heap.size < _; omega) p
  have k1 := fun p : Past W => Past.cell q1 (by show w.heap.size < _; omega) p
  have HBW := Lib.hid hW
  clear q0 q1 hW
  have HAR := Lib.hid fun p : Past W => p.of (impl_areRules a (.slice al l.length cl) l B p.w (HL1.out.below p.h hBW) (Nat.le_trans hBW p.size))
  have HHO := Lib.hid fun (p : Past W) (r : PInt) => p.of (impl_holds a (.slice aa rs.length ca) rs r B p.w (Past.reads HR1.out hBW p) (Nat.le_trans hBW p.size))
  have HFO := Lib.hid fun (p : Past W) (r : PInt) => p.ofB (impl_follows (.slice al l.length cl) l r B p.w (HL1.out.below p.h hBW) (Nat.le_trans hBW p.size))
  have HSB := Lib.hid fun (p : Past W) => p.ofPairs (impl_stem a (.slice aa rs.length ca) rs B p.w (Past.reads HR1.out hBW p) (Nat.le_trans hBW p.size))
  have hic0 := (Past.start W).of (impl_isCtx a (.slice aa rs.length ca) rs B W HR1.out hBW)
  have hSL := stemBase_len a rs
  obtain ⟨m, hm⟩ : ∃ m, l.length = m := ⟨_, rfl⟩
  have HM := Lib.hid hm
  rw [hm] at HAR HFO hlen HL1 ⊢
  clear hm
  refine hic0.mono ?_
  rintro e _ ⟨rfl, p, rfl⟩
  clear hic0
  have kp0 := k0 p
  have kp1 := k1 p
  cases hic : isCtx a rs with
  | false =>
    have HX : Hid (isBase a rs l = false) := Lib.hid (isBase_no (by rw [hic]; rfl))
    have hbb := HBW.out.trans (p.h.mono (by omega))
    clear hic HAR HHO HFO HSB
    go_wp2_with fail
    go_ret
    exact ⟨by rw [HX.out]; rfl, hbb⟩
  | true =>
    have HIC := Lib.hid hic
    cases har : areR a l with
    | false =>
      have HX : Hid (isBase a rs l = false) := Lib.hid (isBase_no (by rw [har, Bool.and_false]))
      rw [har] at HAR
      clear hic har HHO HFO HSB
      go_wp2_with fail
      refine (HAR.out p).mono ?_
      rintro e _ ⟨rfl, p2, rfl⟩
      have hbb := HBW.out.trans (p2.h.mono (by omega))
      go_wp2_with fail
      go_ret
      exact ⟨by rw [HX.out]; rfl, hbb⟩
    | true =>
      have HA := Lib.hid har
      have HY := Lib.hid fun hh => isBase_yes hic har hh
      rw [har] at HAR
      clear hic har
      go_wp2_with fail
      refine (HAR.out p).mono ?_
      rintro e _ ⟨rfl, p2, rfl⟩
      clear HAR kp0 kp1
      go_wp2_with fail
      go_loopw [19] (fun i wr => ∃ (k : Nat) (q : Past W), k ≤ m ∧ i = .int .i64 k ∧ Hid ((l.take k).all (holds a rs) = true) ∧ wr = q.w) (fun i _ => m - (intOf i).toNat)
      case atStart => exact ⟨0, p2, Nat.zero_le _, rfl, Lib.hid rfl, rfl⟩
      case round =>
        obtain ⟨k, q, hk, rfl, HALL, rfl⟩ := hrel
        by_cases hlt : k < m
        · obtain ⟨b, o, rfl, hb, h0, h1⟩ := readsP_at HL1.out (k := k) (by rw [HM.out]; exact hlt)
          have c0 := Past.cell h0 (by show b < _; omega) q
          have c1 := Past.cell h1 (by show b < _; omega) q
          have HSN := Lib.hid (all_snoc (l := l) (f := holds a rs) (k := k) (by rw [HM.out]; exact hlt))
          have HSF := Lib.hid fun h => all_false (l := l) (f := holds a rs) (k := k) (by rw [HM.out]; exact hlt) h
          clear h0 h1
          generalize rl l k = r at c0 c1 HSN HSF
          have HO := Lib.hid (HHO.out (q.alloc (.cells #[.int .i64 r.1, .int .i64 r.2] 43)) r)
          obtain ⟨r0, r1⟩ := r
          have kq0 := k0 (q.alloc (.cells #[.int .i64 r0, .int .i64 r1] 43))
          have kq1 := k1 (q.alloc (.cells #[.int .i64 r0, .int .i64 r1] 43))
          cases hh : holds a rs (r0, r1) with
          | false =>
            have HX : Hid (isBase a rs l = false) := Lib.hid (isBase_hold (HSF.out hh))
            rw [hh] at HO
            clear hh
            go_wp2_with fail
            refine HO.out.mono ?_
            rintro e _ ⟨rfl, q2, rfl⟩
            have hbb := HBW.out.trans (q2.h.mono (by omega))
            go_wp2_with fail
            go_ret
            exact ⟨by rw [HX.out]; rfl, hbb⟩
          | true =>
            have HX : Hid ((l.take (k + 1)).all (holds a rs) = true) := Lib.hid (by rw [HSN.out, HALL.out, hh]; rfl)
            rw [hh] at HO
            clear hh
            go_wp2_with fail
            refine HO.out.mono ?_
            rintro e _ ⟨rfl, q2, rfl⟩
            go_wp2_with fail
            go_roundw
            case rel => exact ⟨k + 1, q2, by omega, by simp, HX, rfl⟩
            case measure => simp [intOf]; omega
        · have HY2 : Hid (isBase a rs l = (stemBase a rs).all (follows l)) := Lib.hid (HY.out (by
            have := HALL.out
            rwa [List.take_of_length_le (by have := HM.out; omega)] at this))
          clear HALL HY HHO
          obtain ⟨S, hS⟩ : ∃ S, stemBase a rs = S := ⟨_, rfl⟩
          rw [hS] at HSB HY2 hSL
          have HSQ := Lib.hid (HSB.out q)
          have kq0 := k0 q
          have kq1 := k1 q
          clear hS HSB
          go_wp2_with fail
          refine HSQ.out.mono ?_
          rintro e _ ⟨as1, cs1, rfl, q1, rfl, HRS⟩
          have HAF := Lib.hid (q1.of (impl_allFollow (.slice al m cl) (.slice as1 S.length cs1) l S q1.w.heap.size q1.w ((HL1.out.below q1.h hBW).mono (Nat.le_trans hBW q1.size)) HRS (Nat.le_refl _)))
          rw [← HY2.out] at HAF
          clear HRS HSQ kq0 kq1
          go_wp2_with fail
          refine HAF.out.mono ?_
          rintro e _ ⟨rfl, q2, rfl⟩
          have hbb := HBW.out.trans (q2.h.mono (by omega))
          go_wp2_with fail
          go_ret
          exact ⟨rfl, hbb⟩
theorem short_no {a : Int} {rs : List Int} {l : List PInt} (h : isBase a rs l = false) : isShortest a rs l = false := by rw [isShortest, h]; rfl
theorem short_yes {a : Int} {rs : List Int} {l : List PInt} (h : isBase a rs l = true) : isShortest a rs l = decide (l.length = (stemBase a rs).length) := by
  have hc : isCtx a rs = true := by
    cases hc : isCtx a rs with
    | true => rfl
    | false => rw [isBase, hc] at h; cases h
  rw [isShortest, h, stemBase, if_pos hc, stemOf_len]; rfl
set_option maxHeartbeats 3200000 in
theorem impl_short (a : Int) (v vl : Value) (rs : List Int) (l : List PInt) (B : Nat) (w : World) (hr : Reads w B v (ints rs)) (h2 : ReadsP w B vl l) (hB : B ≤ w.heap.size) :
    Calls Try.prog 21 #[ctx a v, vl] w fun e w' => e = .returned (.bool (isShortest a rs l)) ∧ Below w.heap.size w w' := by
  obtain ⟨aa, ca, rfl⟩ := reads_form hr
  have hW := (Below.refl w.heap.size w).alloc (Nat.le_refl _) (.cells #[.int .i64 a, .slice aa rs.length ca] 26)
  have HR1 := Lib.hid (hr.below hW hB)
  have HL1 := Lib.hid (h2.below hW hB)
  have q0 : (w.alloc (.cells #[.int .i64 a, .slice aa rs.length ca] 26)).cell? ⟨w.heap.size, 0, none⟩ = some (.int .i64 a) := by simp
  have q1 : (w.alloc (.cells #[.int .i64 a, .slice aa rs.length ca] 26)).cell? ⟨w.heap.size, 1, none⟩ = some (.slice aa rs.length ca) := by simp
  have hz : w.heap.size < (w.alloc (.cells #[.int .i64 a, .slice aa rs.length ca] 26)).heap.size := by simp
  obtain ⟨al, cl, rfl⟩ := h2.form
  have hlen := h2.1
  unfold maxLen at hlen
  clear hr h2
  go_enter Try.func21, Try.ntmps21
  go_wp2_with fail
  generalize w.alloc (.cells #[.int .i64 a, .slice aa rs.length ca] 26) = W at HR1 HL1 hW q0 q1 hz ⊢
  have hBW : B ≤ W.heap.size := by omega
  have k0 := fun p : Past W => Past.cell q0 (by show w.heap.size < _; omega) p
  have k1 := fun p : Past W => Past.cell q1 (by show w.heap.size < _; omega) p
  have HBW := Lib.hid hW
  clear q0 q1 hW
  have HIB := Lib.hid ((Past.start W).of (impl_isBase a (.slice aa rs.length ca) (.slice al l.length cl) rs l B W HR1.out HL1.out hBW))
  have HSB := Lib.hid fun (p : Past W) => p.ofPairs (impl_stem a (.slice aa rs.length ca) rs B p.w (Past.reads HR1.out hBW p) (Nat.le_trans hBW p.size))
  have hSL := stemBase_len a rs
  cases hb : isBase a rs l with
  | false =>
    have HX := Lib.hid (short_no hb)
    rw [hb] at HIB
    clear hb HSB
    refine HIB.out.mono ?_
    rintro e _ ⟨rfl, p, rfl⟩
    have hbb := HBW.out.trans (p.h.mono (by omega))
    go_wp2_with fail
    go_ret
    exact ⟨by rw [HX.out]; rfl, hbb⟩
  | true =>
    have HX := Lib.hid (short_yes hb)
    rw [hb] at HIB
    clear hb
    refine HIB.out.mono ?_
    rintro e _ ⟨rfl, p, rfl⟩
    obtain ⟨m, hm⟩ : ∃ m, l.length = m := ⟨_, rfl⟩
    obtain ⟨N, hN⟩ : ∃ N, (stemBase a rs).length = N := ⟨_, rfl⟩
    have HSP := Lib.hid (HSB.out p)
    rw [hN] at HX HSP hSL
    rw [hm] at HX hlen ⊢
    have kp0 := k0 p
    have kp1 := k1 p
    have hdd : ((m : Int) == (N : Int)) = decide (m = N) := by
      by_cases h : m = N
      · simp [h]
      · simp [h]; omega
    clear hm hN HSB
    go_wp2_with fail
    refine HSP.out.mono ?_
    rintro e _ ⟨as1, cs1, rfl, q, rfl, -⟩
    have hbb := HBW.out.trans (q.h.mono (by omega))
    go_wp2_with fail
    go_ret
    exact ⟨by rw [HX.out]; first | rfl | (rw [← hdd]; rfl) | simp [hdd], hbb⟩
set_option maxHeartbeats 3200000 in
theorem impl_countR (a : Int) (v : Value) (rs : List Int) (B : Nat) (w : World) (hr : Reads w B v (ints rs)) (hB : B ≤ w.heap.size) :
    Calls Try.prog 23 #[ctx a v] w fun e w' => e = .returned (.int .i64 (countRules a rs)) ∧ Below w.heap.size w w' := by
  obtain ⟨aa, ca, rfl⟩ := reads_form hr
  have hW := (Below.refl w.heap.size w).alloc (Nat.le_refl _) (.cells #[.int .i64 a, .slice aa rs.length ca] 26)
  have HR1 := Lib.hid (hr.below hW hB)
  have q0 : (w.alloc (.cells #[.int .i64 a, .slice aa rs.length ca] 26)).cell? ⟨w.heap.size, 0, none⟩ = some (.int .i64 a) := by simp
  have q1 : (w.alloc (.cells #[.int .i64 a, .slice aa rs.length ca] 26)).cell? ⟨w.heap.size, 1, none⟩ = some (.slice aa rs.length ca) := by simp
  have hz : w.heap.size < (w.alloc (.cells #[.int .i64 a, .slice aa rs.length ca] 26)).heap.size := by simp
  clear hr
  go_enter Try.func23, Try.ntmps23
  go_wp2_with fail
  generalize w.alloc (.cells #[.int .i64 a, .slice aa rs.length ca] 26) = W at HR1 hW q0 q1 hz ⊢
  have hBW : B ≤ W.heap.size := by omega
  have k0 := fun p : Past W => Past.cell q0 (by show w.heap.size < _; omega) p
  have k1 := fun p : Past W => Past.cell q1 (by show w.heap.size < _; omega) p
  have HBW := Lib.hid hW
  clear q0 q1 hW
  have HCO := Lib.hid fun (p : Past W) => p.ofPairs (impl_concepts a (.slice aa rs.length ca) rs B p.w (Past.reads HR1.out hBW p) (Nat.le_trans hBW p.size))
  refine ((Past.start W).of (impl_isCtx a _ rs B W HR1.out hBW)).mono ?_
  rintro e _ ⟨rfl, p, rfl⟩
  have kp0 := k0 p
  have kp1 := k1 p
  have hbb := HBW.out.trans (p.h.mono (by omega))
  cases hic : isCtx a rs with
  | false =>
    have HX : Hid (countRules a rs = -1) := Lib.hid (by rw [countRules, if_neg (by rw [hic]; decide)])
    clear hic
    go_wp2_with fail
    go_ret
    exact ⟨by rw [HX.out]; rfl, hbb⟩
  | true =>
    have h6 := isCtx_parts hic
    obtain ⟨n, rfl⟩ := Int.eq_ofNat_of_zero_le h6.1
    have hn6 : n ≤ 6 := by omega
    have hN64 := pow6 hn6
    have HX := Lib.hid (countRules_eq hic)
    rw [Int.toNat_natCast] at HX
    have hcl : (concepts (n : Int) rs).length = (closedFrom n (clo (n : Int) rs) (clo (n : Int) rs 0)).length := by
      rw [concepts_cf, List.length_map, closedList, if_pos hic, Int.toNat_natCast]
    have hle : (closedFrom n (clo (n : Int) rs) (clo (n : Int) rs 0)).length ≤ 256 := closedFrom_len _ _ _
    rw [← hcl] at HX hle
    have hw : wrap64 (2 ^ n) = ((2 ^ n : Nat) : Int) := by
      have h3 : (0 : Int) ≤ ((2 ^ n : Nat) : Int) := Int.natCast_nonneg _
      have h4 : ((2 ^ n : Nat) : Int) ≤ 64 := by exact_mod_cast hN64
      rw [← IntWalk.wrap64_in ((2 ^ n : Nat) : Int) ⟨by omega, by omega⟩]; simp
    obtain ⟨M, hM⟩ : ∃ M, (concepts (n : Int) rs).length = M := ⟨_, rfl⟩
    rw [hM] at HX HCO hle
    obtain ⟨N, hN⟩ : ∃ N, 2 ^ n = N := ⟨_, rfl⟩
    have h2n : ((2 : Int) ^ n) = (N : Int) := by rw [← hN]; simp
    rw [show ((2 ^ n : Nat) : Int) = (N : Int) by rw [hN]] at hw HX
    rw [hN] at hN64
    clear hic h6 hcl hM hN hbb
    go_wp2_with fail
    have HV : Hid (IntKind.i64.wrap (IntKind.i64.wrap (2 ^ n) - (M : Int)) = (N : Int) - (M : Int)) := Lib.hid (by
      rw [h2n, IntKind.wrap_i64, IntKind.wrap_i64]; omega)
    clear h2n
    have HCD := Lib.hid (HCO.out p.drew)
    have kd0 := k0 p.drew
    have kd1 := k1 p.drew
    go_region_held3 (fun wx => wx.cell? ⟨w.heap.size, 0, none⟩ = some (.int .i64 (n : Int)) ∧ wx.cell? ⟨w.heap.size, 1, none⟩ = some (.slice aa rs.length ca))
      (first | with_reducible exact ⟨kd0, kd1⟩ | with_reducible exact ⟨k0 q, k1 q⟩ | fail)
      (first | (go_at_call 69; (with_reducible refine HCD.out.mono ?_); rintro e _ ⟨as1, cs1, rfl, q, rfl, -⟩) | fail)
    have hbb := HBW.out.trans (q.h.mono (by omega))
    go_wp2_with fail
    go_ret
    exact ⟨by rw [HX.out, ← HV.out]; rfl, hbb⟩
end Go.Proofs.Ythodmmckekgkdaa.Stem
