/-
  Chapter 8 of the program: DownArrows, UpArrows, DoubleArrows, IsIrreducibleObject, IsIrreducibleAttribute.
-/
import Derived.Test.YtbpicpapkpomhaaDoorRedI3
namespace Go.Proofs.YtbpicpapkpomhaaDoor.Ctx
open Go Go.RowKit Mem Sets Elems Tab
set_option maxRecDepth 100000

theorem pow_le6 {a : Int} {rs : List Int} (hc : isCtx a rs = true) : (2 : Nat) ^ a.toNat ≤ 256 := pow_le8 (by have := isCtx_parts hc; omega)
theorem obj_parts {a g : Int} {rs : List Int} (h : (isCtx a rs && decide (0 ≤ g ∧ g < rs.length)) = true) : isCtx a rs = true ∧ ∃ n : Nat, g = n ∧ n < rs.length := by
  rw [Bool.and_eq_true, decide_eq_true_eq] at h
  obtain ⟨h, h1, h2⟩ := h
  obtain ⟨n, rfl⟩ := Int.eq_ofNat_of_zero_le h1
  exact ⟨h, n, rfl, by omega⟩
theorem obj_none {a g : Int} {rs : List Int} (h : (isCtx a rs && decide (0 ≤ g ∧ g < rs.length)) = false) : ¬ (isCtx a rs = true ∧ 0 ≤ g ∧ g < rs.length) := by
  intro h'
  rw [h'.1, decide_eq_true h'.2] at h
  cases h
theorem downOf_lt (a : Int) (rs : List Int) (g : Int) : downOf a rs g < 256 := by
  unfold downOf
  split
  · rename_i h
    exact cpTo_lt (by have := fullA_256 h.1; omega) _ _ _
  · omega
theorem upOf_lt (a : Int) (rs : List Int) (g : Int) : upOf a rs g < 256 := by
  unfold upOf
  split
  · rename_i h
    exact Nat.lt_of_lt_of_le (upTo_lt a rs _ _) (pow_le6 h.1)
  · omega
set_option maxHeartbeats 1600000 in
theorem impl_down (a : Int) (v : Value) (rs : List Int) (g : Int) (B : Nat) (w : World) (hr : Reads w B v (ints rs)) (hB : B ≤ w.heap.size) :
    Calls Tryd.prog 7 #[ctx a v, .int .i64 g] w fun e w' => e = .returned (.int .i64 (downOf a rs g : Nat)) ∧ Below w.heap.size w w' := by
  obtain ⟨aa, ca, rfl⟩ := reads_form hr
  have hW := (Below.refl w.heap.size w).alloc (Nat.le_refl _) (.cells #[.int .i64 a, .slice aa rs.length ca] 26)
  have HR1 := Lib.hid (hr.below hW hB)
  have q0 : (w.alloc (.cells #[.int .i64 a, .slice aa rs.length ca] 26)).cell? ⟨w.heap.size, 0, none⟩ = some (.int .i64 a) := by simp
  have q1 : (w.alloc (.cells #[.int .i64 a, .slice aa rs.length ca] 26)).cell? ⟨w.heap.size, 1, none⟩ = some (.slice aa rs.length ca) := by simp
  have hz : w.heap.size < (w.alloc (.cells #[.int .i64 a, .slice aa rs.length ca] 26)).heap.size := by simp
  clear hr
  go_enter Tryd.func7, Tryd.ntmps7
  go_wp2_with fail
  generalize w.alloc (.cells #[.int .i64 a, .slice aa rs.length ca] 26) = W at HR1 hW q0 q1 hz ⊢
  have hBW : B ≤ W.heap.size := by omega
  have k0 := fun p : Past W => Past.cell q0 (by show w.heap.size < _; omega) p
  have k1 := fun p : Past W => Past.cell q1 (by show w.heap.size < _; omega) p
  have HBW := Lib.hid hW
  clear q0 q1 hW
  refine ((Past.start W).of (impl_isObj a _ rs g B W HR1.out hBW)).mono ?_
  rintro e _ ⟨rfl, p, rfl⟩
  cases hic : (isCtx a rs && decide (0 ≤ g ∧ g < rs.length)) with
  | false =>
    have HX : Hid (downOf a rs g = 0) := Lib.hid (by rw [downOf, if_neg (obj_none hic)])
    have hbb := HBW.out.trans (p.h.mono (by omega))
    clear hic
    go_wp2_with fail
    go_ret
    exact ⟨by rw [HX.out]; rfl, hbb⟩
  | true =>
    obtain ⟨hc, n, rfl, hn⟩ := obj_parts hic
    clear hic
    have HX : Hid (downOf a rs n = bey (fullA a) rs n) := Lib.hid (by rw [downOf, if_pos ⟨hc, by omega, by omega⟩, Int.toNat_natCast, bey_down hc hn])
    have hp := isCtx_parts hc
    have H2 := Lib.hid fun p : Past W => p.ofSame (impl_full a p.w)
    rw [full_nat hp.1 (by omega)] at H2
    have H3 := Lib.hid fun p : Past W => p.ofSame (beyond _ rs n (fullA a) B p.w (Past.reads HR1.out hBW p) hn hp.2.2.1 (fullA_256 hc) (fun k _ => row_le hc k))
    generalize bey (fullA a) rs n = R at HX H3
    clear hc hp
    go_wp2_with fail
    refine wp_region_pastIn p (by kernel_rfl) (by kernel_rfl) ?_
    repeat (go_big_quiet_step (first | with_reducible exact H2.out _ | with_reducible exact H3.out _))
    refine wpQuiet_nil ?_
    rintro _ ⟨p, rfl⟩
    have hbb := HBW.out.trans (p.h.mono (by omega))
    go_wp2_with fail
    go_ret
    exact ⟨by rw [HX.out]; rfl, hbb⟩
set_option maxHeartbeats 1600000 in
theorem impl_up (a : Int) (v : Value) (rs : List Int) (g : Int) (B : Nat) (w : World) (hr : Reads w B v (ints rs)) (hB : B ≤ w.heap.size) :
    Calls Tryd.prog 8 #[ctx a v, .int .i64 g] w fun e w' => e = .returned (.int .i64 (upOf a rs g : Nat)) ∧ Below w.heap.size w w' := by
  obtain ⟨aa, ca, rfl⟩ := reads_form hr
  have hW := (Below.refl w.heap.size w).alloc (Nat.le_refl _) (.cells #[.int .i64 a, .slice aa rs.length ca] 26)
  have HR1 := Lib.hid (hr.below hW hB)
  have q0 : (w.alloc (.cells #[.int .i64 a, .slice aa rs.length ca] 26)).cell? ⟨w.heap.size, 0, none⟩ = some (.int .i64 a) := by simp
  have q1 : (w.alloc (.cells #[.int .i64 a, .slice aa rs.length ca] 26)).cell? ⟨w.heap.size, 1, none⟩ = some (.slice aa rs.length ca) := by simp
  have hz : w.heap.size < (w.alloc (.cells #[.int .i64 a, .slice aa rs.length ca] 26)).heap.size := by simp
  clear hr
  go_enter Tryd.func8, Tryd.ntmps8
  go_wp2_with fail
  generalize w.alloc (.cells #[.int .i64 a, .slice aa rs.length ca] 26) = W at HR1 hW q0 q1 hz ⊢
  have hBW : B ≤ W.heap.size := by omega
  have k0 := fun p : Past W => Past.cell q0 (by show w.heap.size < _; omega) p
  have k1 := fun p : Past W => Past.cell q1 (by show w.heap.size < _; omega) p
  have HBW := Lib.hid hW
  clear q0 q1 hW
  refine ((Past.start W).of (impl_isObj a _ rs g B W HR1.out hBW)).mono ?_
  rintro e _ ⟨rfl, p, rfl⟩
  cases hic : (isCtx a rs && decide (0 ≤ g ∧ g < rs.length)) with
  | false =>
    have HX : Hid (upOf a rs g = 0) := Lib.hid (by rw [upOf, if_neg (obj_none hic)])
    have hbb := HBW.out.trans (p.h.mono (by omega))
    clear hic
    go_wp2_with fail
    go_ret
    exact ⟨by rw [HX.out]; rfl, hbb⟩
  | true =>
    obtain ⟨hc, n, rfl, hn⟩ := obj_parts hic
    clear hic
    have HX : Hid (upOf a rs n = upTo a rs n a.toNat) := Lib.hid (by rw [upOf, if_pos ⟨hc, by omega, by omega⟩, Int.toNat_natCast])
    have hp := isCtx_parts hc
    have H2 := Lib.hid fun p : Past W => impl_full (rs.length : Int) p.w
    rw [full_nat (a := (rs.length : Int)) (by omega) (by omega), Int.toNat_natCast] at H2
    change Hid (∀ p : Past W, Calls _ _ _ _ fun r w' => r = .returned (.int .i64 ((fullO rs : Nat) : Int)) ∧ w' = p.w) at H2
    have HC := Lib.hid fun p : Past W => p.ofInts (impl_cols a _ rs B p.w (Past.reads HR1.out hBW p) (Nat.le_trans hBW p.size) hc)
    have H3 := Lib.hid fun (v : Value) (B' : Nat) (p : Past W) (h : Reads p.w B' v (ints (cols a rs))) (k : Nat) (hk : k < a.toNat) => beyond v (cols a rs) k (fullO rs) B' p.w h (by rw [dualTo_length]; exact hk) (by rw [dualTo_length]; omega) (fullO_256 hc) (fun k _ => cols_le hc k)
    have HE : Hid (∀ (k : Nat) (w : World), k < a.toNat → Calls Tryd.prog 34 #[.int .i64 ((bey (fullO rs) (cols a rs) k : Nat) : Int), .int .i64 n] w fun e w' => e = .returned (.bool (upB a rs n k)) ∧ w' = w) := Lib.hid fun k w hk => by
      have h := impl_hasEl ((bey (fullO rs) (cols a rs) k : Nat) : Int) n w
      have hl := bey_lt (fullO_256 hc) (cols a rs) k
      rw [show hasEl ((bey (fullO rs) (cols a rs) k : Nat) : Int) n = upB a rs n k by
        rw [hasEl, isSet8_true ⟨by omega, by omega⟩, decide_eq_true (by omega : 0 ≤ (n : Int) ∧ (n : Int) ≤ 7)]; exact bey_up hn hk] at h
      exact h
    have hlen : (cols a rs).length = a.toNat := dualTo_length _ _
    change Hid (∀ p : Past W, Calls _ _ _ _ fun e w' => ∃ a_1 c, e = .returned (.slice a_1 (cols a rs).length c) ∧ ∃ q : Past W, w' = q.w ∧ Reads q.w q.w.heap.size (.slice a_1 (cols a rs).length c) (ints (cols a rs))) at HC
    have HY := Lib.hid fun m => upTo_yes (a := a) (rs := rs) (g := n) (m := m)
    have HN := Lib.hid fun m => upTo_no (a := a) (rs := rs) (g := n) (m := m)
    generalize cols a rs = xs at HC H3 HE hlen
    generalize fullO rs = f at H2 H3 HE
    clear hc
    go_wp2_with fail
    refine (HC.out p).mono ?_
    rintro e _ ⟨pa, pc, rfl, p2, rfl, r2⟩
    have HK := Lib.hid fun k hk => H3.out _ _ p2 r2 k hk
    have kp := k1 p2
    have HL := Lib.hid hlen
    have ha6 : a.toNat ≤ 6 := by omega
    have hbb := HBW.out.trans (p2.h.mono (by omega))
    have HB2 := Lib.hid hbb
    clear hbb r2 H3 HC hp hlen
    go_wp2_with fail
    go_loop [6, 16] (fun t i => ∃ k x : Nat, k ≤ xs.length ∧ i = .int .i64 k ∧ t = .int .i64 x ∧ x < 256 ∧ Hid (x = upTo a rs n k)) (fun _ i => xs.length - (intOf i).toNat)
    case atStart => exact ⟨0, 0, Nat.zero_le _, rfl, rfl, by omega, Lib.hid rfl⟩
    case round =>
      obtain ⟨k, x, hk, rfl, rfl, hx, HXk⟩ := hrel
      by_cases hlt : k < xs.length
      · have hka : k < a.toNat := by have := HL.out; omega
        have HB := Lib.hid (HK.out k hka)
        have HE2 := Lib.hid fun w => HE.out k w hka
        cases hb : upB a rs n k with
        | true =>
          have HST := Lib.hid (HY.out k hb)
          rw [hb] at HE2
          clear hb
          go_wp2_with fail
          refine (H2.out p2).mono ?_
          rintro e w' ⟨rfl, hw⟩
          subst w'
          go_wp2_with fail
          refine HB.out.mono ?_
          rintro e w' ⟨rfl, hw⟩
          subst w'
          go_wp2_with fail
          refine (HE2.out _).mono ?_
          rintro e w' ⟨rfl, hw⟩
          subst w'
          go_wp2_with fail
          go_round
          case rel => exact ⟨k + 1, x ||| 2 ^ k, by omega, by simp, by rw [or_pow x k hx (by omega)], Nat.or_lt_two_pow (n := 8) hx (Nat.pow_lt_pow_right (by omega) (by omega)), Lib.hid (by rw [HST.out, ← HXk.out])⟩
          case measure => simp [intOf]; omega
        | false =>
          have HST := Lib.hid (HN.out k hb)
          rw [hb] at HE2
          clear hb
          go_wp2_with fail
          refine (H2.out p2).mono ?_
          rintro e w' ⟨rfl, hw⟩
          subst w'
          go_wp2_with fail
          refine HB.out.mono ?_
          rintro e w' ⟨rfl, hw⟩
          subst w'
          go_wp2_with fail
          refine (HE2.out _).mono ?_
          rintro e w' ⟨rfl, hw⟩
          subst w'
          go_wp2_with fail
          go_round
          case rel => exact ⟨k + 1, x, by omega, by simp, rfl, hx, Lib.hid (by rw [HST.out, ← HXk.out])⟩
          case measure => simp [intOf]; omega
      · have HKK := Lib.hid (show k = a.toNat by have := HL.out; omega)
        have hbb := HB2.out
        go_wp2_with fail
        go_ret
        exact ⟨by rw [HX.out, HXk.out, HKK.out]; rfl, hbb⟩
set_option maxHeartbeats 1600000 in
theorem impl_double (a : Int) (v : Value) (rs : List Int) (g : Int) (B : Nat) (w : World) (hr : Reads w B v (ints rs)) (hB : B ≤ w.heap.size) :
    Calls Tryd.prog 12 #[ctx a v, .int .i64 g] w fun e w' => e = .returned (.int .i64 (downOf a rs g &&& upOf a rs g : Nat)) ∧ Below w.heap.size w w' := by
  have hd : Hid (bits .and .i64 ((downOf a rs g : Nat) : Int) ((upOf a rs g : Nat) : Int) = ((downOf a rs g &&& upOf a rs g : Nat) : Int)) := Lib.hid (and_nat _ _ (downOf_lt _ _ _) (upOf_lt _ _ _))
  obtain ⟨aa, ca, rfl⟩ := reads_form hr
  have hW := (Below.refl w.heap.size w).alloc (Nat.le_refl _) (.cells #[.int .i64 a, .slice aa rs.length ca] 26)
  have HR1 := Lib.hid (hr.below hW hB)
  have q0 : (w.alloc (.cells #[.int .i64 a, .slice aa rs.length ca] 26)).cell? ⟨w.heap.size, 0, none⟩ = some (.int .i64 a) := by simp
  have q1 : (w.alloc (.cells #[.int .i64 a, .slice aa rs.length ca] 26)).cell? ⟨w.heap.size, 1, none⟩ = some (.slice aa rs.length ca) := by simp
  have hz : w.heap.size < (w.alloc (.cells #[.int .i64 a, .slice aa rs.length ca] 26)).heap.size := by simp
  clear hr
  go_enter Tryd.func12, Tryd.ntmps12
  go_upto_region 1 with fail
  generalize w.alloc (.cells #[.int .i64 a, .slice aa rs.length ca] 26) = W at HR1 hW q0 q1 hz ⊢
  have hBW : B ≤ W.heap.size := by omega
  have k0 := fun p : Past W => Past.cell q0 (by show w.heap.size < _; omega) p
  have k1 := fun p : Past W => Past.cell q1 (by show w.heap.size < _; omega) p
  have H1 := Lib.hid fun p : Past W => p.of (impl_down a _ rs g B p.w (Past.reads HR1.out hBW p) (Nat.le_trans hBW p.size))
  have H2 := Lib.hid fun p : Past W => p.of (impl_up a _ rs g B p.w (Past.reads HR1.out hBW p) (Nat.le_trans hBW p.size))
  have HBW := Lib.hid hW
  clear q0 q1 hW
  go_wp2_with fail
  refine wp_region_past (by kernel_rfl) (by kernel_rfl) ?_
  repeat (go_big_quiet_step (first | with_reducible exact H1.out _ | with_reducible exact H2.out _))
  refine wpQuiet_nil ?_
  rintro _ ⟨p, rfl⟩
  have hbb := HBW.out.trans (p.h.mono (by omega))
  go_wp2_with fail
  go_ret
  exact ⟨by rw [← hd.out]; rfl, hbb⟩
set_option maxHeartbeats 1600000 in
theorem impl_irrO (a : Int) (v : Value) (rs : List Int) (g : Int) (B : Nat) (w : World) (hr : Reads w B v (ints rs)) (hB : B ≤ w.heap.size) :
    Calls Tryd.prog 16 #[ctx a v, .int .i64 g] w fun e w' => e = .returned (.bool (irrO a rs g)) ∧ Below w.heap.size w w' := by
  obtain ⟨aa, ca, rfl⟩ := reads_form hr
  have hW := (Below.refl w.heap.size w).alloc (Nat.le_refl _) (.cells #[.int .i64 a, .slice aa rs.length ca] 26)
  have HR1 := Lib.hid (hr.below hW hB)
  have q0 : (w.alloc (.cells #[.int .i64 a, .slice aa rs.length ca] 26)).cell? ⟨w.heap.size, 0, none⟩ = some (.int .i64 a) := by simp
  have q1 : (w.alloc (.cells #[.int .i64 a, .slice aa rs.length ca] 26)).cell? ⟨w.heap.size, 1, none⟩ = some (.slice aa rs.length ca) := by simp
  have hz : w.heap.size < (w.alloc (.cells #[.int .i64 a, .slice aa rs.length ca] 26)).heap.size := by simp
  clear hr
  go_enter Tryd.func16, Tryd.ntmps16
  go_wp2_with fail
  generalize w.alloc (.cells #[.int .i64 a, .slice aa rs.length ca] 26) = W at HR1 hW q0 q1 hz ⊢
  have hBW : B ≤ W.heap.size := by omega
  have k0 := fun p : Past W => Past.cell q0 (by show w.heap.size < _; omega) p
  have k1 := fun p : Past W => Past.cell q1 (by show w.heap.size < _; omega) p
  have HBW := Lib.hid hW
  clear q0 q1 hW
  have H2 := Lib.hid fun p : Past W => p.of (impl_redO a _ rs g B p.w (Past.reads HR1.out hBW p) (Nat.le_trans hBW p.size))
  have HX : Hid (irrO a rs g = ((isCtx a rs && decide (0 ≤ g ∧ g < rs.length)) && !redO a rs g)) := Lib.hid rfl
  refine ((Past.start W).of (impl_isObj a _ rs g B W HR1.out hBW)).mono ?_
  rintro e _ ⟨rfl, p, rfl⟩
  generalize redO a rs g = r at HX H2
  generalize (isCtx a rs && decide (0 ≤ g ∧ g < rs.length)) = b at HX ⊢
  have p0 := k0 p
  have p1 := k1 p
  cases b with
  | false =>
    have hbb := HBW.out.trans (p.h.mono (by omega))
    go_wp2_with fail
    go_ret
    exact ⟨by rw [HX.out]; rfl, hbb⟩
  | true =>
    go_wp2_with fail
    refine (H2.out p).mono ?_
    rintro e _ ⟨rfl, p2, rfl⟩
    have hbb := HBW.out.trans (p2.h.mono (by omega))
    go_wp2_with fail
    go_ret
    exact ⟨by rw [HX.out]; rfl, hbb⟩
set_option maxHeartbeats 1600000 in
theorem impl_irrA (a : Int) (v : Value) (rs : List Int) (g : Int) (B : Nat) (w : World) (hr : Reads w B v (ints rs)) (hB : B ≤ w.heap.size) :
    Calls Tryd.prog 18 #[ctx a v, .int .i64 g] w fun e w' => e = .returned (.bool (irrA a rs g)) ∧ Below w.heap.size w w' := by
  obtain ⟨aa, ca, rfl⟩ := reads_form hr
  have hW := (Below.refl w.heap.size w).alloc (Nat.le_refl _) (.cells #[.int .i64 a, .slice aa rs.length ca] 26)
  have HR1 := Lib.hid (hr.below hW hB)
  have q0 : (w.alloc (.cells #[.int .i64 a, .slice aa rs.length ca] 26)).cell? ⟨w.heap.size, 0, none⟩ = some (.int .i64 a) := by simp
  have q1 : (w.alloc (.cells #[.int .i64 a, .slice aa rs.length ca] 26)).cell? ⟨w.heap.size, 1, none⟩ = some (.slice aa rs.length ca) := by simp
  have hz : w.heap.size < (w.alloc (.cells #[.int .i64 a, .slice aa rs.length ca] 26)).heap.size := by simp
  clear hr
  go_enter Tryd.func18, Tryd.ntmps18
  go_wp2_with fail
  generalize w.alloc (.cells #[.int .i64 a, .slice aa rs.length ca] 26) = W at HR1 hW q0 q1 hz ⊢
  have hBW : B ≤ W.heap.size := by omega
  have k0 := fun p : Past W => Past.cell q0 (by show w.heap.size < _; omega) p
  have k1 := fun p : Past W => Past.cell q1 (by show w.heap.size < _; omega) p
  have HBW := Lib.hid hW
  clear q0 q1 hW
  have H2 := Lib.hid fun p : Past W => p.of (impl_redA a _ rs g B p.w (Past.reads HR1.out hBW p) (Nat.le_trans hBW p.size))
  have HX : Hid (irrA a rs g = ((isCtx a rs && decide (0 ≤ g ∧ g < a)) && !redA a rs g)) := Lib.hid rfl
  refine ((Past.start W).of (impl_isAtt a _ rs g B W HR1.out hBW)).mono ?_
  rintro e _ ⟨rfl, p, rfl⟩
  generalize redA a rs g = r at HX H2
  generalize (isCtx a rs && decide (0 ≤ g ∧ g < a)) = b at HX ⊢
  have p0 := k0 p
  have p1 := k1 p
  cases b with
  | false =>
    have hbb := HBW.out.trans (p.h.mono (by omega))
    go_wp2_with fail
    go_ret
    exact ⟨by rw [HX.out]; rfl, hbb⟩
  | true =>
    go_wp2_with fail
    refine (H2.out p).mono ?_
    rintro e _ ⟨rfl, p2, rfl⟩
    have hbb := HBW.out.trans (p2.h.mono (by omega))
    go_wp2_with fail
    go_ret
    exact ⟨by rw [HX.out]; rfl, hbb⟩
end Go.Proofs.YtbpicpapkpomhaaDoor.Ctx
