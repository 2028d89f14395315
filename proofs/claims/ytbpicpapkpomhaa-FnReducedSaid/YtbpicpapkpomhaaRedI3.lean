/-
  Chapter 7 of the program: reducible objects and attributes, Clarify, ReduceContext.
-/
import Derived.Test.YtbpicpapkpomhaaRedI2
import Derived.Test.YtbpicpapkpomhaaPastI
import Derived.Deep.RegionHeld3
import Derived.Deep.DeepCutAuto
namespace Go.Proofs.Ytbpicpapkpomhaa.Ctx
open Go Go.RowKit Mem Sets Elems Tab
set_option maxRecDepth 100000

theorem fullA_256 {a : Int} {rs : List Int} (h : isCtx a rs = true) : fullA a < 256 := by
  have := pow_le8 (n := a.toNat) (by have := isCtx_parts h; omega)
  have := Nat.pow_pos (n := a.toNat) (show 0 < 2 by omega)
  show 2 ^ a.toNat - 1 < 256
  omega
theorem fullO_256 {a : Int} {rs : List Int} (h : isCtx a rs = true) : fullO rs < 256 := by
  have := pow_le8 (n := rs.length) (isCtx_parts h).2.2.1
  have := Nat.pow_pos (n := rs.length) (show 0 < 2 by omega)
  show 2 ^ rs.length - 1 < 256
  omega
theorem cols_le {a : Int} {rs : List Int} (h : isCtx a rs = true) (k : Nat) : 0 ≤ (cols a rs).getD k 0 ∧ (cols a rs).getD k 0 ≤ 255 := by
  by_cases hk : k < a.toNat
  · rw [cols_get hk]
    have := Nat.lt_of_lt_of_le (colTo_lt rs k rs.length) (pow_le8 (isCtx_parts h).2.2.1)
    omega
  · rw [List.getD_eq_getElem?_getD, List.getElem?_eq_none (by rw [dualTo_length]; omega)]; simp
set_option maxHeartbeats 1600000 in
theorem impl_redO (a : Int) (v : Value) (rs : List Int) (g : Int) (B : Nat) (w : World) (hr : Reads w B v (ints rs)) (hB : B ≤ w.heap.size) :
    Calls Try.prog 28 #[ctx a v, .int .i64 g] w fun e w' => e = .returned (.bool (redO a rs g)) ∧ Below w.heap.size w w' := by
  obtain ⟨aa, ca, rfl⟩ := reads_form hr
  have hW := (Below.refl w.heap.size w).alloc (Nat.le_refl _) (.cells #[.int .i64 a, .slice aa rs.length ca] 26)
  have HR1 := Lib.hid (hr.below hW hB)
  have q0 : (w.alloc (.cells #[.int .i64 a, .slice aa rs.length ca] 26)).cell? ⟨w.heap.size, 0, none⟩ = some (.int .i64 a) := by simp
  have q1 : (w.alloc (.cells #[.int .i64 a, .slice aa rs.length ca] 26)).cell? ⟨w.heap.size, 1, none⟩ = some (.slice aa rs.length ca) := by simp
  have hz : w.heap.size < (w.alloc (.cells #[.int .i64 a, .slice aa rs.length ca] 26)).heap.size := by simp
  clear hr
  go_enter Try.func28, Try.ntmps28
  go_upto_region 1 with fail
  generalize w.alloc (.cells #[.int .i64 a, .slice aa rs.length ca] 26) = W at HR1 hW q0 q1 hz ⊢
  have hBW : B ≤ W.heap.size := by omega
  have k0 := fun p : Past W => Past.cell q0 (by show w.heap.size < _; omega) p
  have k1 := fun p : Past W => Past.cell q1 (by show w.heap.size < _; omega) p
  have H1 := Lib.hid fun p : Past W => p.of (impl_isObj a _ rs g B p.w (Past.reads HR1.out hBW p) (Nat.le_trans hBW p.size))
  have H2 := Lib.hid fun p : Past W => p.ofSame (impl_full a p.w)
  have HBW := Lib.hid hW
  clear q0 q1 hW
  cases hic : (isCtx a rs && decide (0 ≤ g ∧ g < rs.length)) with
  | false =>
    have HX : Hid (redO a rs g = false) := Lib.hid (by rw [redO, if_neg]; intro h; simp [h.1, h.2.1, h.2.2] at hic)
    rw [hic] at H1
    clear hic
    go_wp2_with fail
    refine wp_region_past (by kernel_rfl) (by kernel_rfl) ?_
    repeat (go_big_quiet_step (first | with_reducible exact H1.out _ | with_reducible exact H2.out _))
    refine wpQuiet_nil ?_
    rintro _ ⟨p, rfl⟩
    have hbb := HBW.out.trans (p.h.mono (by omega))
    go_wp2_with fail
    go_ret
    exact ⟨by rw [HX.out]; rfl, hbb⟩
  | true =>
    rw [hic] at H1
    rw [Bool.and_eq_true, decide_eq_true_eq] at hic
    obtain ⟨hic, hg⟩ := hic
    obtain ⟨n, rfl⟩ := Int.eq_ofNat_of_zero_le hg.1
    have hn : n < rs.length := by omega
    have HX : Hid (redO a rs n = isCp (fullA a) rs n) := Lib.hid (by rw [redO, if_pos ⟨hic, hg⟩, Int.toNat_natCast])
    have hp := isCtx_parts hic
    rw [full_nat hp.1 (by omega)] at H2
    have H3 := Lib.hid fun p : Past W => p.ofSame (common_ _ rs n a.toNat B p.w (Past.reads HR1.out hBW p) hn hp.2.2.1 (by omega) (fun k hk => row_holds hic hk))
    generalize isCp (fullA a) rs n = R at HX H3
    clear hic hg hp
    go_wp2_with fail
    refine wp_region_past (by kernel_rfl) (by kernel_rfl) ?_
    repeat (go_big_quiet_step (first | with_reducible exact H1.out _ | with_reducible exact H2.out _ | with_reducible exact H3.out _))
    refine wpQuiet_nil ?_
    rintro _ ⟨p, rfl⟩
    have hbb := HBW.out.trans (p.h.mono (by omega))
    go_wp2_with fail
    go_ret
    exact ⟨by rw [HX.out]; rfl, hbb⟩
set_option maxHeartbeats 3200000 in
theorem impl_redA (a : Int) (v : Value) (rs : List Int) (g : Int) (B : Nat) (w : World) (hr : Reads w B v (ints rs)) (hB : B ≤ w.heap.size) :
    Calls Try.prog 30 #[ctx a v, .int .i64 g] w fun e w' => e = .returned (.bool (redA a rs g)) ∧ Below w.heap.size w w' := by
  obtain ⟨aa, ca, rfl⟩ := reads_form hr
  have hW := (Below.refl w.heap.size w).alloc (Nat.le_refl _) (.cells #[.int .i64 a, .slice aa rs.length ca] 26)
  have HR1 := Lib.hid (hr.below hW hB)
  have q0 : (w.alloc (.cells #[.int .i64 a, .slice aa rs.length ca] 26)).cell? ⟨w.heap.size, 0, none⟩ = some (.int .i64 a) := by simp
  have q1 : (w.alloc (.cells #[.int .i64 a, .slice aa rs.length ca] 26)).cell? ⟨w.heap.size, 1, none⟩ = some (.slice aa rs.length ca) := by simp
  have hz : w.heap.size < (w.alloc (.cells #[.int .i64 a, .slice aa rs.length ca] 26)).heap.size := by simp
  clear hr
  go_enter Try.func30, Try.ntmps30
  go_upto_region 1 with fail
  generalize w.alloc (.cells #[.int .i64 a, .slice aa rs.length ca] 26) = W at HR1 hW q0 q1 hz ⊢
  have hBW : B ≤ W.heap.size := by omega
  have k0 := fun p : Past W => Past.cell q0 (by show w.heap.size < _; omega) p
  have k1 := fun p : Past W => Past.cell q1 (by show w.heap.size < _; omega) p
  have H1 := Lib.hid fun p : Past W => p.of (impl_isAtt a _ rs g B p.w (Past.reads HR1.out hBW p) (Nat.le_trans hBW p.size))
  have H2 := Lib.hid fun p : Past W => impl_full (rs.length : Int) p.w
  have HBW := Lib.hid hW
  clear q0 q1 hW
  cases hic : (isCtx a rs && decide (0 ≤ g ∧ g < a)) with
  | false =>
    have HX : Hid (redA a rs g = false) := Lib.hid (by rw [redA, if_neg]; intro h; simp [h.1, h.2.1, h.2.2] at hic)
    rw [hic] at H1
    clear hic
    go_wp2_with fail
    refine wp_region_past (by kernel_rfl) (by kernel_rfl) ?_
    repeat (go_big_quiet_step (first | with_reducible exact H1.out _ | with_reducible exact (Past.ofSame _ (H2.out _))))
    refine wpQuiet_nil ?_
    rintro _ ⟨p, rfl⟩
    have hbb := HBW.out.trans (p.h.mono (by omega))
    go_wp2_with fail
    go_ret
    exact ⟨by rw [HX.out]; rfl, hbb⟩
  | true =>
    rw [hic] at H1
    rw [Bool.and_eq_true, decide_eq_true_eq] at hic
    obtain ⟨hic, hg⟩ := hic
    obtain ⟨n, rfl⟩ := Int.eq_ofNat_of_zero_le hg.1
    have hn : n < a.toNat := by omega
    have HX : Hid (redA a rs n = isCp (fullO rs) (cols a rs) n) := Lib.hid (by rw [redA, if_pos ⟨hic, hg⟩, Int.toNat_natCast])
    have hp := isCtx_parts hic
    rw [full_nat (a := (rs.length : Int)) (by omega) (by omega)] at H2
    have HC := Lib.hid fun p : Past W => p.ofInts (impl_cols a _ rs B p.w (Past.reads HR1.out hBW p) (Nat.le_trans hBW p.size) hic)
    have H3 := Lib.hid fun (v : Value) (B' : Nat) (p : Past W) (h : Reads p.w B' v (ints (cols a rs))) => p.ofSame (common_ v (cols a rs) n rs.length B' p.w h (by rw [dualTo_length]; exact hn) (by rw [dualTo_length]; omega) hp.2.2.1 (fun k hk => col_holds (by rw [dualTo_length] at hk; exact hk)))
    generalize isCp (fullO rs) (cols a rs) n = R at HX H3
    change Hid (∀ p : Past W, Calls _ _ _ _ fun e w' => ∃ a_1 c, e = .returned (.slice a_1 (cols a rs).length c) ∧ ∃ q : Past W, w' = q.w ∧ Reads q.w q.w.heap.size (.slice a_1 (cols a rs).length c) (ints (cols a rs))) at HC
    generalize cols a rs = xs at HC H3
    clear hic hg hp
    go_wp2_with fail
    go_region_held3 (fun wx => wx.cell? ⟨w.heap.size, 0, none⟩ = some (.int .i64 a) ∧ wx.cell? ⟨w.heap.size, 1, none⟩ = some (.slice aa rs.length ca))
      (first | with_reducible exact ⟨k0 ((Past.start W).drew), k1 ((Past.start W).drew)⟩ | with_reducible exact ⟨k0 p1, k1 p1⟩ | with_reducible exact ⟨k0 p2, k1 p2⟩ | with_reducible exact ⟨k0 p4, k1 p4⟩)
      (first | (go_at_call 77; with_reducible refine (H1.out ((Past.start W).drew)).mono ?_; rintro e _ ⟨rfl, p1, rfl⟩) | (go_at_call 55; with_reducible refine (HC.out p1).mono ?_; rintro e _ ⟨pa, pc, rfl, p2, rfl, r2⟩) | (go_at_call 54; with_reducible refine (H2.out p2).mono ?_; rintro e _ ⟨rfl, rfl⟩) | (go_at_call 75; with_reducible refine (H3.out _ _ p2 r2).mono ?_; rintro e _ ⟨rfl, p4, rfl⟩) | fail)
    have hbb := HBW.out.trans (p4.h.mono (by omega))
    go_wp2_with fail
    go_ret
    exact ⟨by rw [HX.out]; rfl, hbb⟩
end Go.Proofs.Ytbpicpapkpomhaa.Ctx
