/-
  Chapter 5, both sides: whether a pair is a concept, and its text; the laws' copy of a concept.
-/
import Derived.Test.YtdkgmjbhkifcbaaConc4
import Derived.Test.YtdkgmjbhkifcbaaPast
import Derived.Test.YtdkgmjbhkifcbaaText
namespace Go.Proofs.Ytdkgmjbhkifcbaa.PConcept
open Go Go.RowKit Mem
set_option maxRecDepth 100000
end Go.Proofs.Ytdkgmjbhkifcbaa.PConcept
namespace Go.Proofs.Ytdkgmjbhkifcbaa.Ctx
open Go Go.RowKit Mem Sets
set_option maxRecDepth 100000

def isConcept (a : Int) (rs : List Int) (p : PInt) : Bool := isCtx a rs && isSet rs.length p.1 && isSet a p.2 && (((intTo a rs p.1 rs.length : Nat) : Int) == p.2) && (((extTo rs p.2 rs.length : Nat) : Int) == p.1)
theorem isConcept_impl {a : Int} {rs : List Int} (hi : isCtx a rs = true) (x y : Int) : isConcept a rs (x, y) = (intent a rs x == y && extent a rs y == x) := by
  cases hx : isSet rs.length x with
  | true =>
    cases hy : isSet a y with
    | true => simp [isConcept, intent, extent, hi, hx, hy]
    | false =>
      have h1 : (intent a rs x == y) = false := by
        rw [beq_eq_false_iff_ne, intent, if_pos ⟨hi, hx⟩]
        rintro rfl
        rw [intTo_isSet hi] at hy; cases hy
      simp [isConcept, hy, h1]
  | false =>
    cases h1 : (intent a rs x == y) with
    | false => simp [isConcept, hx]
    | true =>
      have h0 : y = 0 := by
        rw [beq_iff_eq, intent, if_neg (by simp [hx])] at h1
        exact h1.symm
      have h2 : (extent a rs y == x) = false := by
        rw [beq_eq_false_iff_ne, h0, extent, if_pos ⟨hi, by
          obtain ⟨ha0, ha6, -, -⟩ := isCtx_parts hi
          have := isSet_of_nat (x := 0) ha0 (by omega) (Nat.pow_pos (by omega))
          simpa using this⟩]
        rintro rfl
        rw [extTo_isSet hi] at hx; cases hx
      simp [isConcept, hx, h2]
theorem keepd4 {w w' : World} {B : Nat} {p q r s : Addr} {x y z t : Value} (hb : Below B w w') (h : w.cell? p = some x ∧ w.cell? q = some y ∧ w.cell? r = some z ∧ w.cell? s = some t) (hp : p.block < B) (hq : q.block < B) (hr : r.block < B) (hs : s.block < B) :
    w'.cell? p = some x ∧ w'.cell? q = some y ∧ w'.cell? r = some z ∧ w'.cell? s = some t :=
  ⟨(hb.cell hp).trans h.1, (hb.cell hq).trans h.2.1, (hb.cell hr).trans h.2.2.1, (hb.cell hs).trans h.2.2.2⟩
set_option maxHeartbeats 3200000 in
theorem spec_isConcept (a : Int) (v : Value) (rs : List Int) (x y : Int) (B : Nat) (w : World) (hr : Reads w B v (ints rs)) (hB : B ≤ w.heap.size) :
    Calls Try.prog 49 #[ctx a v, .agg #[.int .i64 x, .int .i64 y]] w fun e w' => e = .returned (.bool (isConcept a rs (x, y))) ∧ Below w.heap.size w w' := by
  obtain ⟨aa, ca, rfl⟩ := reads_form hr
  have HR := Lib.hid hr
  clear hr
  have q0 : ((w.alloc (.cells #[.int .i64 a, .slice aa rs.length ca] 26)).alloc (.cells #[.int .i64 x, .int .i64 y] 38)).cell? ⟨w.heap.size, 0, none⟩ = some (.int .i64 a) := by simp
  have q1 : ((w.alloc (.cells #[.int .i64 a, .slice aa rs.length ca] 26)).alloc (.cells #[.int .i64 x, .int .i64 y] 38)).cell? ⟨w.heap.size, 1, none⟩ = some (.slice aa rs.length ca) := by simp
  have d0 : ((w.alloc (.cells #[.int .i64 a, .slice aa rs.length ca] 26)).alloc (.cells #[.int .i64 x, .int .i64 y] 38)).cell? ⟨w.heap.size + 1, 0, none⟩ = some (.int .i64 x) := by simp
  have d1 : ((w.alloc (.cells #[.int .i64 a, .slice aa rs.length ca] 26)).alloc (.cells #[.int .i64 x, .int .i64 y] 38)).cell? ⟨w.heap.size + 1, 1, none⟩ = some (.int .i64 y) := by simp
  have hW := ((Below.refl w.heap.size w).alloc (Nat.le_refl _) (.cells #[.int .i64 a, .slice aa rs.length ca] 26)).alloc (by simp) (.cells #[.int .i64 x, .int .i64 y] 38)
  have HR1 := Lib.hid (HR.out.below hW hB)
  have hz : w.heap.size + 2 ≤ ((w.alloc (.cells #[.int .i64 a, .slice aa rs.length ca] 26)).alloc (.cells #[.int .i64 x, .int .i64 y] 38)).heap.size := by simp
  go_enter Try.func49, Try.ntmps49
  go_wp2_with fail
  generalize ((w.alloc (.cells #[.int .i64 a, .slice aa rs.length ca] 26)).alloc (.cells #[.int .i64 x, .int .i64 y] 38)) = W at HR1 hW q0 q1 d0 d1 hz ⊢
  have g0 := fun p : Past W => Past.cell q0 (by show w.heap.size < _; omega) p
  have g1 := fun p : Past W => Past.cell q1 (by show w.heap.size < _; omega) p
  have g2 := fun p : Past W => Past.cell d0 (by show w.heap.size + 1 < _; omega) p
  have g3 := fun p : Past W => Past.cell d1 (by show w.heap.size + 1 < _; omega) p
  clear q0 q1 d0 d1
  have H0 := Lib.hid (fun v w h hB => spec_isCtx a v rs B w h hB)
  cases hi : isCtx a rs with
  | false =>
    have HX : Hid (isConcept a rs (x, y) = false) := Lib.hid (by simp [isConcept, hi])
    rw [hi] at H0
    clear hi
    have HP0 := Lib.hid (fun p : Past W => p.of (H0.out (.slice aa rs.length ca) p.w (Past.reads HR1.out (by omega) p) (by have := p.size; omega)))
    go_wp2_with fail
    refine wp_region_past (by kernel_rfl) (by kernel_rfl) ?_
    repeat (go_big_quiet_step (first | with_reducible exact HP0.out _))
    refine wpQuiet_nil ?_
    rintro _ ⟨p, rfl⟩
    have hbb := hW.trans (p.h.mono (by omega))
    go_wp2_with fail
    go_ret
    exact ⟨by rw [HX.out]; rfl, hbb⟩
  | true =>
    rw [hi] at H0
    have HS1 := Lib.hid (fun w => spec_isSet rs.length x w)
    cases hx : isSet rs.length x with
    | false =>
      have HX : Hid (isConcept a rs (x, y) = false) := Lib.hid (by simp [isConcept, hx])
      rw [hx] at HS1
      clear hi hx
      have HP0 := Lib.hid (fun p : Past W => p.of (H0.out (.slice aa rs.length ca) p.w (Past.reads HR1.out (by omega) p) (by have := p.size; omega)))
      have HP1 := Lib.hid (fun p : Past W => p.ofSame (HS1.out p.w))
      go_wp2_with fail
      refine wp_region_past (by kernel_rfl) (by kernel_rfl) ?_
      repeat (go_big_quiet_step (first | with_reducible exact HP0.out _ | with_reducible exact HP1.out _))
      refine wpQuiet_nil ?_
      rintro _ ⟨p, rfl⟩
      have hbb := hW.trans (p.h.mono (by omega))
      go_wp2_with fail
      go_ret
      exact ⟨by rw [HX.out]; rfl, hbb⟩
    | true =>
      rw [hx] at HS1
      have HS2 := Lib.hid (fun w => spec_isSet a y w)
      cases hy : isSet a y with
      | false =>
        have HX : Hid (isConcept a rs (x, y) = false) := Lib.hid (by simp [isConcept, hy])
        rw [hy] at HS2
        clear hi hx hy
        have HP0 := Lib.hid (fun p : Past W => p.of (H0.out (.slice aa rs.length ca) p.w (Past.reads HR1.out (by omega) p) (by have := p.size; omega)))
        have HP1 := Lib.hid (fun p : Past W => p.ofSame (HS1.out p.w))
        have HP2 := Lib.hid (fun p : Past W => p.ofSame (HS2.out p.w))
        go_wp2_with fail
        refine wp_region_past (by kernel_rfl) (by kernel_rfl) ?_
        repeat (go_big_quiet_step (first | with_reducible exact HP0.out _ | with_reducible exact HP1.out _ | with_reducible exact HP2.out _))
        refine wpQuiet_nil ?_
        rintro _ ⟨p, rfl⟩
        have hbb := hW.trans (p.h.mono (by omega))
        go_wp2_with fail
        go_ret
        exact ⟨by rw [HX.out]; rfl, hbb⟩
      | true =>
        rw [hy] at HS2
        have hxb := isSet_le hx
        have hyb := isSet_le hy
        have H1 := Lib.hid (fun v w h hB => l4Intent a v rs x B w h hB hi hxb)
        have H2 := Lib.hid (fun v w h hB => l4Extent a v rs y B w h hB hi hyb)
        have HX : Hid (isConcept a rs (x, y) = ((((intTo a rs x rs.length : Nat) : Int) == y) && (((extTo rs y rs.length : Nat) : Int) == x))) := Lib.hid (by simp [isConcept, hi, hx, hy])
        clear hi hx hy hxb hyb
        generalize intTo a rs x rs.length = m at H1 HX
        generalize extTo rs y rs.length = n at H2 HX
        cases hm : ((m : Int) == y) with
        | false =>
          rw [hm, Bool.false_and] at HX
          have HP0 := Lib.hid (fun p : Past W => p.of (H0.out (.slice aa rs.length ca) p.w (Past.reads HR1.out (by omega) p) (by have := p.size; omega)))
          have HP1 := Lib.hid (fun p : Past W => p.ofSame (HS1.out p.w))
          have HP2 := Lib.hid (fun p : Past W => p.ofSame (HS2.out p.w))
          have HP3 := Lib.hid (fun p : Past W => p.of (H1.out (.slice aa rs.length ca) p.w (Past.reads HR1.out (by omega) p) (by have := p.size; omega)))
          go_wp2_with fail
          refine wp_region_past (by kernel_rfl) (by kernel_rfl) ?_
          repeat (go_big_quiet_step (first | with_reducible exact HP0.out _ | with_reducible exact HP1.out _ | with_reducible exact HP2.out _ | with_reducible exact HP3.out _))
          refine wpQuiet_nil ?_
          rintro _ ⟨p, rfl⟩
          have hbb := hW.trans (p.h.mono (by omega))
          go_wp2_with fail
          go_ret
          exact ⟨by rw [HX.out]; rfl, hbb⟩
        | true =>
          rw [hm, Bool.true_and] at HX
          have HP0 := Lib.hid (fun p : Past W => p.of (H0.out (.slice aa rs.length ca) p.w (Past.reads HR1.out (by omega) p) (by have := p.size; omega)))
          have HP1 := Lib.hid (fun p : Past W => p.ofSame (HS1.out p.w))
          have HP2 := Lib.hid (fun p : Past W => p.ofSame (HS2.out p.w))
          have HP3 := Lib.hid (fun p : Past W => p.of (H1.out (.slice aa rs.length ca) p.w (Past.reads HR1.out (by omega) p) (by have := p.size; omega)))
          have HP4 := Lib.hid (fun p : Past W => p.of (H2.out (.slice aa rs.length ca) p.w (Past.reads HR1.out (by omega) p) (by have := p.size; omega)))
          go_wp2_with fail
          refine wp_region_past (by kernel_rfl) (by kernel_rfl) ?_
          repeat (go_big_quiet_step (first | with_reducible exact HP0.out _ | with_reducible exact HP1.out _ | with_reducible exact HP2.out _ | with_reducible exact HP3.out _ | with_reducible exact HP4.out _))
          refine wpQuiet_nil ?_
          rintro _ ⟨p, rfl⟩
          have hbb := hW.trans (p.h.mono (by omega))
          go_wp2_with fail
          go_ret
          exact ⟨by rw [HX.out]; rfl, hbb⟩
set_option maxHeartbeats 3200000 in
theorem impl_isConcept (a : Int) (v : Value) (rs : List Int) (x y : Int) (B : Nat) (w : World) (hr : Reads w B v (ints rs)) (hB : B ≤ w.heap.size) :
    Calls Try.prog 48 #[ctx a v, .agg #[.int .i64 x, .int .i64 y]] w fun e w' => e = .returned (.bool (isConcept a rs (x, y))) ∧ Below w.heap.size w w' := by
  obtain ⟨aa, ca, rfl⟩ := reads_form hr
  have HR := Lib.hid hr
  clear hr
  have q0 : ((w.alloc (.cells #[.int .i64 a, .slice aa rs.length ca] 26)).alloc (.cells #[.int .i64 x, .int .i64 y] 38)).cell? ⟨w.heap.size, 0, none⟩ = some (.int .i64 a) := by simp
  have q1 : ((w.alloc (.cells #[.int .i64 a, .slice aa rs.length ca] 26)).alloc (.cells #[.int .i64 x, .int .i64 y] 38)).cell? ⟨w.heap.size, 1, none⟩ = some (.slice aa rs.length ca) := by simp
  have d0 : ((w.alloc (.cells #[.int .i64 a, .slice aa rs.length ca] 26)).alloc (.cells #[.int .i64 x, .int .i64 y] 38)).cell? ⟨w.heap.size + 1, 0, none⟩ = some (.int .i64 x) := by simp
  have d1 : ((w.alloc (.cells #[.int .i64 a, .slice aa rs.length ca] 26)).alloc (.cells #[.int .i64 x, .int .i64 y] 38)).cell? ⟨w.heap.size + 1, 1, none⟩ = some (.int .i64 y) := by simp
  have hW := ((Below.refl w.heap.size w).alloc (Nat.le_refl _) (.cells #[.int .i64 a, .slice aa rs.length ca] 26)).alloc (by simp) (.cells #[.int .i64 x, .int .i64 y] 38)
  have HR1 := Lib.hid (HR.out.below hW hB)
  have hz : w.heap.size + 2 ≤ ((w.alloc (.cells #[.int .i64 a, .slice aa rs.length ca] 26)).alloc (.cells #[.int .i64 x, .int .i64 y] 38)).heap.size := by simp
  go_enter Try.func48, Try.ntmps48
  go_wp2_with fail
  generalize ((w.alloc (.cells #[.int .i64 a, .slice aa rs.length ca] 26)).alloc (.cells #[.int .i64 x, .int .i64 y] 38)) = W at HR1 hW q0 q1 d0 d1 hz ⊢
  have g0 := fun p : Past W => Past.cell q0 (by show w.heap.size < _; omega) p
  have g1 := fun p : Past W => Past.cell q1 (by show w.heap.size < _; omega) p
  have g2 := fun p : Past W => Past.cell d0 (by show w.heap.size + 1 < _; omega) p
  have g3 := fun p : Past W => Past.cell d1 (by show w.heap.size + 1 < _; omega) p
  clear q0 q1 d0 d1
  have H0 := Lib.hid (fun v w h hB => impl_isCtx a v rs B w h hB)
  cases hi : isCtx a rs with
  | false =>
    have HX : Hid (isConcept a rs (x, y) = false) := Lib.hid (by simp [isConcept, hi])
    rw [hi] at H0
    clear hi
    have HP0 := Lib.hid (fun p : Past W => p.of (H0.out (.slice aa rs.length ca) p.w (Past.reads HR1.out (by omega) p) (by have := p.size; omega)))
    go_wp2_with fail
    refine wp_region_past (by kernel_rfl) (by kernel_rfl) ?_
    repeat (go_big_quiet_step (first | with_reducible exact HP0.out _))
    refine wpQuiet_nil ?_
    rintro _ ⟨p, rfl⟩
    have hbb := hW.trans (p.h.mono (by omega))
    go_wp2_with fail
    go_ret
    exact ⟨by rw [HX.out]; rfl, hbb⟩
  | true =>
    rw [hi] at H0
    have H1 := Lib.hid (fun v w h hB => impl_intent a v rs x B w h hB)
    have H2 := Lib.hid (fun v w h hB => impl_extent a v rs y B w h hB)
    have HX := Lib.hid (isConcept_impl hi x y)
    clear hi
    generalize intent a rs x = m at H1 HX
    generalize extent a rs y = n at H2 HX
    cases hm : (m == y) with
    | false =>
      rw [hm, Bool.false_and] at HX
      have HP0 := Lib.hid (fun p : Past W => p.of (H0.out (.slice aa rs.length ca) p.w (Past.reads HR1.out (by omega) p) (by have := p.size; omega)))
      have HP1 := Lib.hid (fun p : Past W => p.of (H1.out (.slice aa rs.length ca) p.w (Past.reads HR1.out (by omega) p) (by have := p.size; omega)))
      go_wp2_with fail
      refine wp_region_past (by kernel_rfl) (by kernel_rfl) ?_
      repeat (go_big_quiet_step (first | with_reducible exact HP0.out _ | with_reducible exact HP1.out _))
      refine wpQuiet_nil ?_
      rintro _ ⟨p, rfl⟩
      have hbb := hW.trans (p.h.mono (by omega))
      go_wp2_with fail
      go_ret
      exact ⟨by rw [HX.out]; rfl, hbb⟩
    | true =>
      rw [hm, Bool.true_and] at HX
      have HP0 := Lib.hid (fun p : Past W => p.of (H0.out (.slice aa rs.length ca) p.w (Past.reads HR1.out (by omega) p) (by have := p.size; omega)))
      have HP1 := Lib.hid (fun p : Past W => p.of (H1.out (.slice aa rs.length ca) p.w (Past.reads HR1.out (by omega) p) (by have := p.size; omega)))
      have HP2 := Lib.hid (fun p : Past W => p.of (H2.out (.slice aa rs.length ca) p.w (Past.reads HR1.out (by omega) p) (by have := p.size; omega)))
      go_wp2_with fail
      refine wp_region_past (by kernel_rfl) (by kernel_rfl) ?_
      repeat (go_big_quiet_step (first | with_reducible exact HP0.out _ | with_reducible exact HP1.out _ | with_reducible exact HP2.out _))
      refine wpQuiet_nil ?_
      rintro _ ⟨p, rfl⟩
      have hbb := hW.trans (p.h.mono (by omega))
      go_wp2_with fail
      go_ret
      exact ⟨by rw [HX.out]; rfl, hbb⟩
end Go.Proofs.Ytdkgmjbhkifcbaa.Ctx
namespace Go.Proofs.Ytdkgmjbhkifcbaa.Text
open Go Go.RowKit Mem Sets
set_option maxRecDepth 100000
def cText (p : PInt) : List UInt8 := if isSet 8 p.1 = true ∧ isSet 8 p.2 = true then setText p.1 ++ [47] ++ setText p.2 else []
theorem join_text (l r : List UInt8) (c : UInt8) (B : ByteArray) (h : B = ⟨#[c]⟩) : Value.string (⟨l.toArray⟩ ++ B ++ ⟨r.toArray⟩) = Value.string ⟨(l ++ [c] ++ r).toArray⟩ := by
  subst h
  congr 1
theorem setText_len (s : Int) : (setText s).length ≤ 8 := by
  unfold setText
  split
  · split
    · simp
    · rw [chars, List.length_map, Elems.elems, Elems.elemsTo, List.length_map]
      exact Nat.le_trans (List.length_filter_le _ _) (by simp)
  · simp
set_option maxHeartbeats 1600000 in
theorem impl_cText (x y : Int) (w : World) :
    Calls Try.prog 50 #[.agg #[.int .i64 x, .int .i64 y]] w fun e w' => e = .returned (.string ⟨(cText (x, y)).toArray⟩) ∧ Below w.heap.size w w' := by
  cases h1 : isSet 8 x with
  | false =>
    have HX : Hid (cText (x, y) = []) := Lib.hid (by simp [cText, h1])
    go_enter Try.func50, Try.ntmps50
    go_wp2_with fail
    refine (impl_any x _).mono ?_
    rintro e w' ⟨rfl, hw⟩
    subst w'
    rw [h1]
    go_wp2_with fail
    go_ret
    exact ⟨by rw [HX.out]; rfl, (Below.refl _ _).alloc (Nat.le_refl _) _⟩
  | true =>
    cases h2 : isSet 8 y with
    | false =>
      have HX : Hid (cText (x, y) = []) := Lib.hid (by simp [cText, h2])
      go_enter Try.func50, Try.ntmps50
      go_wp2_with fail
      refine (impl_any x _).mono ?_
      rintro e w' ⟨rfl, hw⟩
      subst w'
      rw [h1]
      go_wp2_with fail
      refine (impl_any y _).mono ?_
      rintro e w' ⟨rfl, hw⟩
      subst w'
      rw [h2]
      go_wp2_with fail
      go_ret
      exact ⟨by rw [HX.out]; rfl, (Below.refl _ _).alloc (Nat.le_refl _) _⟩
    | true =>
      have HX : Hid (cText (x, y) = setText x ++ [47] ++ setText y) := Lib.hid (by simp [cText, h1, h2])
      have d0 : (w.alloc (.cells #[.int .i64 x, .int .i64 y] 38)).cell? ⟨w.heap.size, 0, none⟩ = some (.int .i64 x) := by simp
      have d1 : (w.alloc (.cells #[.int .i64 x, .int .i64 y] 38)).cell? ⟨w.heap.size, 1, none⟩ = some (.int .i64 y) := by simp
      have hW := (Below.refl w.heap.size w).alloc (Nat.le_refl _) (.cells #[.int .i64 x, .int .i64 y] 38)
      have hz : w.heap.size < (w.alloc (.cells #[.int .i64 x, .int .i64 y] 38)).heap.size := by simp
      have HT1 := Lib.hid (fun w => impl_text x w)
      have HT2 := Lib.hid (fun w => impl_text y w)
      have hlx := setText_len x
      have hly := setText_len y
      generalize setText x = tx at HX HT1 hlx
      generalize setText y = ty at HX HT2 hly
      have hn1 : ¬ 9223372036854775807 < tx.length + 1 := by omega
      have hn2 : ¬ 9223372036854775807 < tx.length + 1 + ty.length := by omega
      go_enter Try.func50, Try.ntmps50
      go_wp2_with fail
      generalize (w.alloc (.cells #[.int .i64 x, .int .i64 y] 38)) = W at hW d0 d1 hz ⊢
      refine (impl_any x _).mono ?_
      rintro e w' ⟨rfl, hw⟩
      subst w'
      rw [h1]
      go_wp2_with fail
      refine (impl_any y _).mono ?_
      rintro e w' ⟨rfl, hw⟩
      subst w'
      rw [h2]
      go_wp2_with fail
      have g0 := fun p : Past W => Past.cell d0 hz p
      have g1 := fun p : Past W => Past.cell d1 hz p
      have HP1 := Lib.hid (fun p : Past W => p.of (HT1.out p.w))
      have HP2 := Lib.hid (fun p : Past W => p.of (HT2.out p.w))
      refine wp_region_past (by kernel_rfl) (by kernel_rfl) ?_
      repeat (go_big_quiet_step (first | with_reducible exact HP1.out _ | with_reducible exact HP2.out _))
      refine wpQuiet_nil ?_
      rintro _ ⟨p, rfl⟩
      have hbb := hW.trans (p.h.mono (by omega))
      go_wp2_with fail
      go_ret
      exact ⟨by rw [HX.out, ← join_text tx ty 47 _ rfl]; rfl, hbb⟩
set_option maxHeartbeats 1600000 in
theorem spec_cText (x y : Int) (w : World) :
    Calls Try.prog 51 #[.agg #[.int .i64 x, .int .i64 y]] w fun e w' => e = .returned (.string ⟨(cText (x, y)).toArray⟩) ∧ Below w.heap.size w w' := by
  cases h1 : isSet 8 x with
  | false =>
    have HX : Hid (cText (x, y) = []) := Lib.hid (by simp [cText, h1])
    go_enter Try.func51, Try.ntmps51
    go_wp2_with fail
    refine (spec_isSet 8 x _).mono ?_
    rintro e w' ⟨rfl, hw⟩
    subst w'
    rw [h1]
    go_wp2_with fail
    go_ret
    exact ⟨by rw [HX.out]; rfl, (Below.refl _ _).alloc (Nat.le_refl _) _⟩
  | true =>
    cases h2 : isSet 8 y with
    | false =>
      have HX : Hid (cText (x, y) = []) := Lib.hid (by simp [cText, h2])
      go_enter Try.func51, Try.ntmps51
      go_wp2_with fail
      refine (spec_isSet 8 x _).mono ?_
      rintro e w' ⟨rfl, hw⟩
      subst w'
      rw [h1]
      go_wp2_with fail
      refine (spec_isSet 8 y _).mono ?_
      rintro e w' ⟨rfl, hw⟩
      subst w'
      rw [h2]
      go_wp2_with fail
      go_ret
      exact ⟨by rw [HX.out]; rfl, (Below.refl _ _).alloc (Nat.le_refl _) _⟩
    | true =>
      have HX : Hid (cText (x, y) = setText x ++ [47] ++ setText y) := Lib.hid (by simp [cText, h1, h2])
      have d0 : (w.alloc (.cells #[.int .i64 x, .int .i64 y] 38)).cell? ⟨w.heap.size, 0, none⟩ = some (.int .i64 x) := by simp
      have d1 : (w.alloc (.cells #[.int .i64 x, .int .i64 y] 38)).cell? ⟨w.heap.size, 1, none⟩ = some (.int .i64 y) := by simp
      have hW := (Below.refl w.heap.size w).alloc (Nat.le_refl _) (.cells #[.int .i64 x, .int .i64 y] 38)
      have hz : w.heap.size < (w.alloc (.cells #[.int .i64 x, .int .i64 y] 38)).heap.size := by simp
      have HT1 := Lib.hid (fun w => spec_text x w)
      have HT2 := Lib.hid (fun w => spec_text y w)
      have hlx := setText_len x
      have hly := setText_len y
      generalize setText x = tx at HX HT1 hlx
      generalize setText y = ty at HX HT2 hly
      have hn1 : ¬ 9223372036854775807 < tx.length + 1 := by omega
      have hn2 : ¬ 9223372036854775807 < tx.length + 1 + ty.length := by omega
      go_enter Try.func51, Try.ntmps51
      go_wp2_with fail
      generalize (w.alloc (.cells #[.int .i64 x, .int .i64 y] 38)) = W at hW d0 d1 hz ⊢
      refine (spec_isSet 8 x _).mono ?_
      rintro e w' ⟨rfl, hw⟩
      subst w'
      rw [h1]
      go_wp2_with fail
      refine (spec_isSet 8 y _).mono ?_
      rintro e w' ⟨rfl, hw⟩
      subst w'
      rw [h2]
      go_wp2_with fail
      have g0 := fun p : Past W => Past.cell d0 hz p
      have g1 := fun p : Past W => Past.cell d1 hz p
      have HP1 := Lib.hid (fun p : Past W => p.of (HT1.out p.w))
      have HP2 := Lib.hid (fun p : Past W => p.of (HT2.out p.w))
      refine wp_region_past (by kernel_rfl) (by kernel_rfl) ?_
      repeat (go_big_quiet_step (first | with_reducible exact HP1.out _ | with_reducible exact HP2.out _))
      refine wpQuiet_nil ?_
      rintro _ ⟨p, rfl⟩
      have hbb := hW.trans (p.h.mono (by omega))
      go_wp2_with fail
      go_ret
      exact ⟨by rw [HX.out, ← join_text tx ty 47 _ rfl]; rfl, hbb⟩
end Go.Proofs.Ytdkgmjbhkifcbaa.Text
