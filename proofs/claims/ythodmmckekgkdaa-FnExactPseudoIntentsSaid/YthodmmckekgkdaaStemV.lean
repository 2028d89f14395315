/-
  Chapter 10 of the model: StemBase, IsBase, IsShortest, CountRules.
-/
import Derived.Test.YthodmmckekgkdaaStemT
namespace Go.Proofs.Ythodmmckekgkdaa.Stem
open Go Go.RowKit Mem Sets Ctx Tab Rule Lectic
set_option maxRecDepth 100000

theorem isR_to8 {n : Int} {p : PInt} (h : isR n p = true) : isR 8 p = true := by
  unfold isR at h ⊢
  rw [Bool.and_eq_true] at h
  rw [isSet8_true (isSet_le h.1), isSet8_true (isSet_le h.2)]; rfl
theorem allIn_to8 {n : Int} {l : List PInt} (h : allIn n l = true) : allIn 8 l = true := List.all_eq_true.2 fun p hp => isR_to8 (List.all_eq_true.1 h p hp)
theorem areR_all {n : Int} {l : List PInt} (h : areR n l = true) : allIn n l = true := by
  unfold areR at h
  rw [Bool.and_eq_true, Bool.and_eq_true] at h
  exact h.1.1
theorem stemOf_8 {a : Int} {rs : List Int} (hc : isCtx a rs = true) : allIn 8 (stemOf a rs) = true := allIn_to8 (areR_all (stemOf_areR hc))
theorem all_snoc {l : List PInt} {f : PInt → Bool} {k : Nat} (hk : k < l.length) : (l.take (k + 1)).all f = ((l.take k).all f && f (rl l k)) := by
  rw [List.take_add_one, List.getElem?_eq_getElem hk, List.all_append, rl, List.getD_eq_getElem?_getD, List.getElem?_eq_getElem hk]
  simp
theorem all_false {l : List PInt} {f : PInt → Bool} {k : Nat} (hk : k < l.length) (h : f (rl l k) = false) : l.all f = false := by
  rw [List.all_eq_false]
  exact ⟨_, rl_mem hk, by rw [h]; decide⟩
theorem andR (x s : Int) (hx : 0 ≤ x ∧ x ≤ 255) (hs : 0 ≤ s ∧ s ≤ 255) : (bits .and .i64 x s != s) = !decide (s.toNat &&& x.toNat = s.toNat) := by
  have h := andL s x hs hx
  have hc : bits .and .i64 x s = bits .and .i64 s x := by
    obtain ⟨m, rfl⟩ := Int.eq_ofNat_of_zero_le hx.1
    obtain ⟨k, rfl⟩ := Int.eq_ofNat_of_zero_le hs.1
    rw [and_nat m k (by omega) (by omega), and_nat k m (by omega) (by omega), Nat.and_comm]
  rw [hc, bne, h]
set_option maxHeartbeats 1600000 in
theorem spec_stem (a : Int) (v : Value) (rs : List Int) (B : Nat) (w : World) (hr : Reads w B v (ints rs)) (hB : B ≤ w.heap.size) :
    Calls Try.prog 17 #[ctx a v] w fun e w' => ∃ u, e = .returned u ∧ OwnP 43 w' w.heap.size w'.heap.size u (stemBase a rs) ∧ Below w.heap.size w w' := by
  obtain ⟨aa, ca, rfl⟩ := reads_form hr
  have hW := (Below.refl w.heap.size w).alloc (Nat.le_refl _) (.cells #[.int .i64 a, .slice aa rs.length ca] 26)
  have HR1 := Lib.hid (hr.below hW hB)
  have q0 : (w.alloc (.cells #[.int .i64 a, .slice aa rs.length ca] 26)).cell? ⟨w.heap.size, 0, none⟩ = some (.int .i64 a) := by simp
  have q1 : (w.alloc (.cells #[.int .i64 a, .slice aa rs.length ca] 26)).cell? ⟨w.heap.size, 1, none⟩ = some (.slice aa rs.length ca) := by simp
  have hz : w.heap.size < (w.alloc (.cells #[.int .i64 a, .slice aa rs.length ca] 26)).heap.size := by simp
  clear hr
  go_enter Try.func17, Try.ntmps17
  go_wp2_with fail
  generalize w.alloc (.cells #[.int .i64 a, .slice aa rs.length ca] 26) = W at HR1 hW q0 q1 hz ⊢
  have hBW : B ≤ W.heap.size := by omega
  have k0 := fun p : Past W => Past.cell q0 (by show w.heap.size < _; omega) p
  have k1 := fun p : Past W => Past.cell q1 (by show w.heap.size < _; omega) p
  have HBW := Lib.hid hW
  clear q0 q1 hW
  refine ((Past.start W).of (spec_isCtx a _ rs B W HR1.out hBW)).mono ?_
  rintro e _ ⟨rfl, p, rfl⟩
  have kp0 := k0 p
  have kp1 := k1 p
  have hbb := HBW.out.trans (p.h.mono (by omega))
  have hpz := p.size
  cases hic : isCtx a rs with
  | false =>
    have HX : Hid (stemBase a rs = []) := Lib.hid (by rw [stemBase, if_neg (by rw [hic]; decide)])
    have ho := World.ownsRow_lit (e := 43) (size := 2) p.w #[] 0 (Nat.le_refl _) (Nat.zero_le _) rfl
    have HO := Lib.hid (OwnP.made (l := []) ho)
    clear hic ho
    go_wp2_with fail
    go_ret
    exact ⟨_, rfl, by rw [HX.out]; exact HO.out.mono (by omega) (Nat.le_refl _), hbb.alloc hbb.size _⟩
  | true =>
    have HX : Hid (stemBase a rs = stemOf a rs) := Lib.hid (by rw [stemBase, if_pos hic])
    have HP := Lib.hid (l10Stem a (.slice aa rs.length ca) rs B p.w (Past.reads HR1.out hBW p) (Nat.le_trans hBW p.size) hic)
    clear hic
    go_wp2_with fail
    refine HP.out.mono ?_
    rintro e w2 ⟨u, rfl, o2, b2⟩
    have hb2 := hbb.trans (b2.mono (by omega))
    go_wp2_with fail
    go_ret
    exact ⟨_, rfl, by rw [HX.out]; exact o2.mono (by omega) (Nat.le_refl _), hb2⟩
set_option maxHeartbeats 3200000 in
theorem l10All (v1 v2 : Value) (l fr : List PInt) (B : Nat) (w : World) (h1 : ReadsP w B v1 l) (h2 : ReadsP w B v2 fr) (hB : B ≤ w.heap.size) (hl : allIn 8 l = true) (hf : allIn 8 fr = true) :
    Calls Try.prog 68 #[v1, v2] w fun e w' => e = .returned (.bool (allFollow l fr)) ∧ Below w.heap.size w w' := by
  have HC := Lib.hid fun (p : Past w) (x : Nat) (hx : x < 256) => p.of (l9Closed v2 fr x B p.w (h2.below p.h hB) (Nat.le_trans hB p.size) hf hx)
  obtain ⟨a, c, rfl⟩ := h1.form
  have hlen := h1.1
  unfold maxLen at hlen
  have HR := Lib.hid h1
  have HIN := Lib.hid hl
  have HCL : Hid (∀ x, x < 256 → Rule.cl fr x < 256) := Lib.hid fun x hx => cl_lt (n := 8) (by omega) (fun k hk => allIn_lt hf hk) hx
  obtain ⟨m, hm⟩ : ∃ m, l.length = m := ⟨_, rfl⟩
  have HM := Lib.hid hm
  rw [hm] at HR hlen ⊢
  clear h1 h2 hm hl hf
  go_enter Try.func68, Try.ntmps68
  go_wp2_with fail
  go_loopw [5] (fun i wr => ∃ k : Nat, k ≤ m ∧ i = .int .i64 k ∧ Hid ((l.take k).all (follow1 fr) = true) ∧ ∃ p : Past w, wr = p.w) (fun i _ => m - (intOf i).toNat)
  case atStart => exact ⟨0, Nat.zero_le _, rfl, Lib.hid rfl, Past.start w, rfl⟩
  case round =>
    obtain ⟨k, hk, rfl, hall, p, rfl⟩ := hrel
    by_cases hlt : k < m
    · have hkl : k < l.length := by rw [HM.out]; exact hlt
      obtain ⟨b, o, rfl, hb, h0, h1⟩ := readsP_at HR.out hkl
      have c0 := fun q : Past w => Past.cell h0 (by show b < _; omega) q
      have c1 := fun q : Past w => Past.cell h1 (by show b < _; omega) q
      have hq := allIn_rl HIN.out hkl
      have hq1 := set8 hq.1
      have hq2 := set8 hq.2
      have HSN := Lib.hid (all_snoc (f := follow1 fr) hkl)
      have HFL := Lib.hid fun h => all_false (f := follow1 fr) hkl h
      clear h0 h1 hq
      generalize rl l k = r at c0 c1 hq1 hq2 HSN HFL
      obtain ⟨r0, r1⟩ := r
      simp only at hq1 hq2 c0 c1
      obtain ⟨x, rfl⟩ := Int.eq_ofNat_of_zero_le hq1.1
      have hx : x < 256 := by omega
      have HCX := Lib.hid fun q : Past w => HC.out q x hx
      have hy := HCL.out x hx
      have HD : Hid ((bits .and .i64 ((Rule.cl fr x : Nat) : Int) r1 != r1) = !follow1 fr ((x : Int), r1)) := Lib.hid (by
        rw [andR _ _ (by omega) hq2]
        simp only [follow1, Int.toNat_natCast])
      generalize Rule.cl fr x = y at HCX HD hy
      obtain ⟨d, hd⟩ : ∃ d, (bits .and .i64 ((y : Nat) : Int) r1 != r1) = d := ⟨_, rfl⟩
      rw [hd] at HD
      cases d with
      | false =>
        have HA : Hid ((l.take (k + 1)).all (follow1 fr) = true) := Lib.hid (by
          rw [HSN.out, hall.out, Bool.true_and]
          have := HD.out
          cases hh : follow1 fr ((x : Int), r1) with
          | true => rfl
          | false => rw [hh] at this; cases this)
        go_wp2_with fail
        refine wp_region_pastIn p (by kernel_rfl) (by kernel_rfl) ?_
        repeat (go_big_quiet_step (first | with_reducible exact HCX.out _))
        refine wpQuiet_nil ?_
        rintro _ ⟨p2, rfl⟩
        go_wp2_with fail
        go_roundw
        case rel => exact ⟨k + 1, by omega, by simp, HA, p2, rfl⟩
        case measure => simp [intOf]; omega
      | true =>
        have HA : Hid (allFollow l fr = false) := Lib.hid (HFL.out (by
          have := HD.out
          cases hh : follow1 fr ((x : Int), r1) with
          | true => rw [hh] at this; cases this
          | false => rfl))
        go_wp2_with fail
        refine wp_region_pastIn p (by kernel_rfl) (by kernel_rfl) ?_
        repeat (go_big_quiet_step (first | with_reducible exact HCX.out _))
        refine wpQuiet_nil ?_
        rintro _ ⟨p2, rfl⟩
        have hbb := p2.h
        go_wp2_with fail
        go_ret
        exact ⟨by rw [HA.out]; rfl, hbb⟩
    · have HA : Hid (allFollow l fr = true) := Lib.hid (by
        have := hall.out
        rwa [List.take_of_length_le (by have := HM.out; omega)] at this)
      have hbb := p.h
      go_wp2_with fail
      go_ret
      exact ⟨by rw [HA.out]; rfl, hbb⟩
theorem l1Bit (b : Bool) (w : World) : Calls Try.prog 70 #[.bool b] w fun e w' => e = .returned (.int .i64 (if b = true then 1 else 0)) ∧ w' = w := by
  cases b with
  | true =>
    go_enter Try.func70, Try.ntmps70
    go_wp2_with fail
    go_ret
    exact ⟨rfl, rfl⟩
  | false =>
    go_enter Try.func70, Try.ntmps70
    go_wp2_with fail
    go_ret
    exact ⟨rfl, rfl⟩
set_option maxHeartbeats 3200000 in
theorem spec_countR (a : Int) (v : Value) (rs : List Int) (B : Nat) (w : World) (hr : Reads w B v (ints rs)) (hB : B ≤ w.heap.size) :
    Calls Try.prog 24 #[ctx a v] w fun e w' => e = .returned (.int .i64 (countRules a rs)) ∧ Below w.heap.size w w' := by
  obtain ⟨aa, ca, rfl⟩ := reads_form hr
  have hW := (Below.refl w.heap.size w).alloc (Nat.le_refl _) (.cells #[.int .i64 a, .slice aa rs.length ca] 26)
  have HR1 := Lib.hid (hr.below hW hB)
  have q0 : (w.alloc (.cells #[.int .i64 a, .slice aa rs.length ca] 26)).cell? ⟨w.heap.size, 0, none⟩ = some (.int .i64 a) := by simp
  have q1 : (w.alloc (.cells #[.int .i64 a, .slice aa rs.length ca] 26)).cell? ⟨w.heap.size, 1, none⟩ = some (.slice aa rs.length ca) := by simp
  have hz : w.heap.size < (w.alloc (.cells #[.int .i64 a, .slice aa rs.length ca] 26)).heap.size := by simp
  clear hr
  go_enter Try.func24, Try.ntmps24
  go_wp2_with fail
  generalize w.alloc (.cells #[.int .i64 a, .slice aa rs.length ca] 26) = W at HR1 hW q0 q1 hz ⊢
  have hBW : B ≤ W.heap.size := by omega
  have k0 := fun p : Past W => Past.cell q0 (by show w.heap.size < _; omega) p
  have k1 := fun p : Past W => Past.cell q1 (by show w.heap.size < _; omega) p
  have HBW := Lib.hid hW
  clear q0 q1 hW
  refine ((Past.start W).of (spec_isCtx a _ rs B W HR1.out hBW)).mono ?_
  rintro e _ ⟨rfl, p, rfl⟩
  have kp0 := k0 p
  have kp1 := k1 p
  cases hic : isCtx a rs with
  | false =>
    have HX : Hid (countRules a rs = -1) := Lib.hid (by rw [countRules, if_neg (by rw [hic]; decide)])
    have hbb := HBW.out.trans (p.h.mono (by omega))
    clear hic
    go_wp2_with fail
    go_ret
    exact ⟨by rw [HX.out]; rfl, hbb⟩
  | true =>
    have hp := isCtx_parts hic
    have hN8 : 2 ^ a.toNat ≤ 256 := pow_le8 (by omega)
    have hN1 : 1 ≤ 2 ^ a.toNat := Nat.pow_pos (by omega)
    have HF := Lib.hid fun w => spec_full a w
    rw [full_nat hp.1 (by omega)] at HF
    have HX : Hid (countRules a rs = ((openN (clo a rs) (2 ^ a.toNat) : Nat) : Int)) := Lib.hid (by rw [countRules, if_pos hic])
    have HC := Lib.hid fun (p : Past W) (x : Nat) (hx : x < 256) => p.of (l4Closure a (.slice aa rs.length ca) rs (x : Int) B p.w (Past.reads HR1.out hBW p) (Nat.le_trans hBW p.size) hic (by omega))
    change Hid (∀ (p : Past W) (x : Nat) (hx : x < 256), Calls _ _ _ _ fun e w' => e = .returned (.int .i64 ((clo a rs x : Nat) : Int)) ∧ ∃ q : Past W, w' = q.w) at HC
    generalize 2 ^ a.toNat = N at hN8 hN1 HF HX
    clear hp hic
    go_wp2_with fail
    go_loopw [3, 4] (fun nv i wr => ∃ (k : Nat) (p : Past W), k ≤ N ∧ i = .int .i64 k ∧ nv = .int .i64 ((openN (clo a rs) k : Nat) : Int) ∧ wr = p.w) (fun _ i _ => N - (intOf i).toNat)
    case atStart => exact ⟨0, p, Nat.zero_le _, rfl, rfl, rfl⟩
    case round =>
      obtain ⟨k, p, hk, rfl, rfl, rfl⟩ := hrel
      have kr0 := k0 p
      have kr1 := k1 p
      have hle := openN_le (clo a rs) k
      by_cases hlt : k < N
      · have dk : decide ((k : Int) ≤ ((N - 1 : Nat) : Int)) = true := by simp; omega
        have hk256 : k < 256 := by omega
        have HO : Hid (openN (clo a rs) (k + 1) = if clo a rs k = k then openN (clo a rs) k else openN (clo a rs) k + 1) := Lib.hid rfl
        have HCK := Lib.hid fun q : Past W => HC.out q k hk256
        generalize openN (clo a rs) k = c at hle HO ⊢
        generalize clo a rs k = y at HO HCK
        have HB := Lib.hid fun (b : Bool) (q : Past W) => q.ofSame (l1Bit b q.w)
        obtain ⟨d, hd⟩ : ∃ d, (((y : Nat) : Int) != ((k : Nat) : Int)) = d := ⟨_, rfl⟩
        have HV : Hid (((openN (clo a rs) (k + 1) : Nat) : Int) = (c : Int) + (if d = true then 1 else 0)) := Lib.hid (by
          rw [HO.out, ← hd]
          by_cases h : y = k
          · subst h; simp
          · rw [if_neg h, if_pos (by simp; omega)]; omega)
        have hdd : (if d = true then (1 : Int) else 0) = 0 ∨ (if d = true then (1 : Int) else 0) = 1 := by cases d <;> simp
        have HBd := Lib.hid fun q : Past W => HB.out d q
        clear HB
        generalize (if d = true then (1 : Int) else 0) = z at HV hdd HBd
        go_wp2_with fail
        refine (HF.out _).mono ?_
        rintro e w' ⟨rfl, hw⟩
        subst w'
        go_wp2_with fail
        refine (HCK.out p).mono ?_
        rintro e _ ⟨rfl, p3, rfl⟩
        go_wp2_with fail
        refine (HBd.out p3).mono ?_
        rintro e _ ⟨rfl, p2, rfl⟩
        go_wp2_with fail
        go_roundw
        case rel => exact ⟨k + 1, p2, by omega, by simp, by rw [HV.out], rfl⟩
        case measure => simp [intOf]; omega
      · have dk : decide ((k : Int) ≤ ((N - 1 : Nat) : Int)) = false := by simp; omega
        have HKN : Hid (k = N) := Lib.hid (by omega)
        have hbb := HBW.out.trans (p.h.mono (by omega))
        go_wp2_with fail
        refine (HF.out _).mono ?_
        rintro e w' ⟨rfl, hw⟩
        subst w'
        go_wp2_with fail
        go_ret
        exact ⟨by rw [HX.out, HKN.out]; rfl, hbb⟩
end Go.Proofs.Ythodmmckekgkdaa.Stem
