/-
  Chapter 5 of the program: the concept of an object, of an attribute.
-/
import Derived.Test.YtdkgmjbhkifcbaaConc3
namespace Go.Proofs.Ytdkgmjbhkifcbaa.Ctx
open Go Go.RowKit Mem Sets
set_option maxRecDepth 100000
attribute [local go_sem ↓] Go.wp_at_zero Go.wp_at_succ

set_option maxHeartbeats 1600000 in
theorem impl_attrConcept (a : Int) (v : Value) (rs : List Int) (s : Int) (B : Nat) (w : World) (hr : Reads w B v (ints rs)) (hB : B ≤ w.heap.size) :
    Calls Try.prog 43 #[ctx a v, .int .i64 s] w fun e w' => e = .returned (optC (attrConcept a rs s)) ∧ Below w.heap.size w w' := by
  have hl : rs.length ≤ maxLen := by have := hr.1; simpa [ints] using this
  unfold maxLen at hl
  obtain ⟨aa, ca, rfl⟩ := reads_form hr
  have HR := Lib.hid hr
  clear hr
  have q0 : ((w.alloc (.cells #[.int .i64 a, .slice aa rs.length ca] 26)).alloc (.cells #[.int .i64 0, .int .i64 0] 38)).cell? ⟨w.heap.size, 0, none⟩ = some (.int .i64 a) := by simp
  have q1 : ((w.alloc (.cells #[.int .i64 a, .slice aa rs.length ca] 26)).alloc (.cells #[.int .i64 0, .int .i64 0] 38)).cell? ⟨w.heap.size, 1, none⟩ = some (.slice aa rs.length ca) := by simp
  have hW := ((Below.refl w.heap.size w).alloc (Nat.le_refl _) (.cells #[.int .i64 a, .slice aa rs.length ca] 26)).alloc (by simp) (.cells #[.int .i64 0, .int .i64 0] 38)
  have HR1 := Lib.hid (HR.out.below hW hB)
  have hz : w.heap.size + 2 ≤ ((w.alloc (.cells #[.int .i64 a, .slice aa rs.length ca] 26)).alloc (.cells #[.int .i64 0, .int .i64 0] 38)).heap.size := by simp
  have hbx : BoxAt ((w.alloc (.cells #[.int .i64 a, .slice aa rs.length ca] 26)).alloc (.cells #[.int .i64 0, .int .i64 0] 38)) (w.heap.size + 1) 38 #[.int .i64 0, .int .i64 0] := by
    have := BoxAt.new (w.alloc (.cells #[.int .i64 a, .slice aa rs.length ca] 26)) 38 #[.int .i64 0, .int .i64 0]; simpa using this
  by_cases hs : 0 ≤ s ∧ s ≤ a - 1
  · have d1 : decide (s < 0) = false := by simp; omega
    have d2 : decide (s ≥ a) = false := by simp; omega
    have HX : Hid (attrConcept a rs s = conceptAt a rs (IntKind.i64.wrap (2 ^ min s.toNat 64))) := Lib.hid (by
      rw [IntWalk.i64_left]
      cases hi : isCtx a rs with
      | false => simp [attrConcept, conceptAt, hi]
      | true =>
        obtain ⟨ha0, ha6, -, -⟩ := isCtx_parts hi
        have hk8 : 2 ^ s.toNat < 256 := Nat.lt_of_lt_of_le (Nat.pow_lt_pow_right (by omega : 1 < 2) (show s.toNat < 8 by omega)) (by decide)
        have hka : 2 ^ s.toNat < 2 ^ a.toNat := Nat.pow_lt_pow_right (by omega) (by omega)
        have hw64 : wrap64 (2 ^ s.toNat) = ((2 ^ s.toNat : Nat) : Int) := by
          have e : ((2 : Int) ^ s.toNat) = ((2 ^ s.toNat : Nat) : Int) := by simp
          rw [e]
          generalize 2 ^ s.toNat = z at hk8
          exact IntWalk.wrap64_in _ ⟨by omega, by omega⟩
        rw [show min s.toNat 64 = s.toNat by omega, hw64, attrConcept, if_pos ⟨hi, hs⟩, conceptAt, if_pos ⟨hi, isSet_of_nat ha0 (by omega) hka⟩])
    obtain ⟨o, ho⟩ : ∃ o, conceptAt a rs (IntKind.i64.wrap (2 ^ min s.toNat 64)) = o := ⟨_, rfl⟩
    have H1 := Lib.hid (fun v w h hB => impl_conceptAt a v rs (IntKind.i64.wrap (2 ^ min s.toNat 64)) B w h hB)
    rw [ho] at H1 HX
    obtain ⟨p, hp⟩ : ∃ p, o.getD (0, 0) = p := ⟨_, rfl⟩
    obtain ⟨ok, hok⟩ : ∃ ok, o.isSome = ok := ⟨_, rfl⟩
    rw [show optC o = .tuple #[.agg #[.int .i64 p.1, .int .i64 p.2], .bool ok] from by rw [optC, hp, hok]] at H1
    have HQ : Hid (optC o = .tuple #[.agg #[.int .i64 p.1, .int .i64 p.2], .bool ok]) := Lib.hid (by rw [optC, hp, hok])
    clear ho hp hok
    go_enter Try.func43, Try.ntmps43
    go_wp2_with fail
    generalize ((w.alloc (.cells #[.int .i64 a, .slice aa rs.length ca] 26)).alloc (.cells #[.int .i64 0, .int .i64 0] 38)) = w1 at HR1 hW q0 q1 hz hbx ⊢
    have B1 := Lib.hid hW
    have HBX1 := Lib.hid hbx
    have e0 : w1.cell? ⟨w.heap.size + 1, 0, none⟩ = some (.int .i64 0) := HBX1.out.cell 0
    have e1 : w1.cell? ⟨w.heap.size + 1, 1, none⟩ = some (.int .i64 0) := HBX1.out.cell 1
    have f0 : w1.frozen? ⟨w.heap.size + 1, 0, none⟩ = false := HBX1.out.free 0
    have f1 : w1.frozen? ⟨w.heap.size + 1, 1, none⟩ = false := HBX1.out.free 1
    have hzw : w.heap.size + 2 ≤ w1.heap.size := hz
    clear hbx hW hz
    go_wp2_with fail
    go_region_held3 (fun wx => wx.cell? ⟨w.heap.size, 0, none⟩ = some (.int .i64 a) ∧ wx.cell? ⟨w.heap.size, 1, none⟩ = some (.slice aa rs.length ca))
      (first | exact ⟨q0, q1⟩ | exact keepq (w := w1.drew) (B := w1.heap.size) b2 ⟨q0, q1⟩ (by show w.heap.size < _; omega) (by show w.heap.size < _; omega) | exact keepq (w := w1.drew) (B := w.heap.size + 1) (((b2.mono (by show w.heap.size + 1 ≤ w1.heap.size; omega)).setCell (p := ⟨w.heap.size + 1, 0, none⟩) (Nat.le_refl _) _).setCell (p := ⟨w.heap.size + 1, 1, none⟩) (Nat.le_refl _) _) ⟨q0, q1⟩ (by show w.heap.size < _; omega) (by show w.heap.size < _; omega))
      (first | (go_at_call 38; refine (H1.out _ w1.drew (HR1.out.below (Below.refl w1.heap.size w1).drew (by omega)) (by show B ≤ w1.heap.size; omega)).mono ?_; rintro e w2 ⟨rfl, b2⟩; have hb2 := (show BoxAt w1.drew _ _ _ from HBX1.out).below b2 (by show w.heap.size + 1 < w1.heap.size; omega); have e0b : w2.cell? ⟨w.heap.size + 1, 0, none⟩ = some (.int .i64 0) := hb2.cell 0; have e1b : w2.cell? ⟨w.heap.size + 1, 1, none⟩ = some (.int .i64 0) := hb2.cell 1; have f0b : w2.frozen? ⟨w.heap.size + 1, 0, none⟩ = false := hb2.free 0; have f1b : w2.frozen? ⟨w.heap.size + 1, 1, none⟩ = false := hb2.free 1) | fail)
    have HBX2 := Lib.hid hb2
    have B2 := Lib.hid (B1.out.trans (((Below.refl w1.heap.size w1).drew.trans b2).mono (by omega)))
    clear b2 hb2 e0 e1 f0 f1
    have e0 : w2.cell? ⟨w.heap.size + 1, 0, none⟩ = some (.int .i64 0) := HBX2.out.cell 0
    have e1 : w2.cell? ⟨w.heap.size + 1, 1, none⟩ = some (.int .i64 0) := HBX2.out.cell 1
    have f0 : w2.frozen? ⟨w.heap.size + 1, 0, none⟩ = false := HBX2.out.free 0
    have f1 : w2.frozen? ⟨w.heap.size + 1, 1, none⟩ = false := HBX2.out.free 1
    go_wp2_with fail
    refine bodyPost_ret (v := .tuple #[.agg #[.int .i64 p.1, .int .i64 p.2], .bool ok]) (by simp [results, Try.results43, go_sem, e0, e1]) rfl ⟨by rw [HX.out, HQ.out], (B2.out.setCell (p := ⟨w.heap.size + 1, 0, none⟩) (by show w.heap.size ≤ w.heap.size + 1; omega) _).setCell (p := ⟨w.heap.size + 1, 1, none⟩) (by show w.heap.size ≤ w.heap.size + 1; omega) _⟩
  · have HX : Hid (attrConcept a rs s = none) := Lib.hid (by rw [attrConcept, if_neg (fun h => hs h.2)])
    have hg : (decide (s < 0) || decide (a ≤ s)) = true := by simp; omega
    have hg1 : decide (s < 0) = true ∨ (decide (s < 0) = false ∧ decide (s ≥ a) = true) := by simp; omega
    go_enter Try.func43, Try.ntmps43
    go_wp2_with fail
    all_goals (
    generalize ((w.alloc (.cells #[.int .i64 a, .slice aa rs.length ca] 26)).alloc (.cells #[.int .i64 0, .int .i64 0] 38)) = w1 at HR1 hW q0 q1 hz hbx ⊢
    have B1 := Lib.hid hW
    have HBX1 := Lib.hid hbx
    have e0 : w1.cell? ⟨w.heap.size + 1, 0, none⟩ = some (.int .i64 0) := HBX1.out.cell 0
    have e1 : w1.cell? ⟨w.heap.size + 1, 1, none⟩ = some (.int .i64 0) := HBX1.out.cell 1
    have f0 : w1.frozen? ⟨w.heap.size + 1, 0, none⟩ = false := HBX1.out.free 0
    have f1 : w1.frozen? ⟨w.heap.size + 1, 1, none⟩ = false := HBX1.out.free 1
    clear hbx hW
    refine bodyPost_ret (v := .tuple #[.agg #[.int .i64 0, .int .i64 0], .bool false]) (by simp [results, Try.results43, go_sem, e0, e1]) rfl ⟨by rw [HX.out]; rfl, B1.out⟩)
set_option maxHeartbeats 1600000 in
theorem impl_objConcept (a : Int) (v : Value) (rs : List Int) (s : Int) (B : Nat) (w : World) (hr : Reads w B v (ints rs)) (hB : B ≤ w.heap.size) :
    Calls Try.prog 41 #[ctx a v, .int .i64 s] w fun e w' => e = .returned (optC (objConcept a rs s)) ∧ Below w.heap.size w w' := by
  have hl : rs.length ≤ maxLen := by have := hr.1; simpa [ints] using this
  unfold maxLen at hl
  obtain ⟨aa, ca, rfl⟩ := reads_form hr
  have HR := Lib.hid hr
  clear hr
  have q0 : ((w.alloc (.cells #[.int .i64 a, .slice aa rs.length ca] 26)).alloc (.cells #[.int .i64 0, .int .i64 0] 38)).cell? ⟨w.heap.size, 0, none⟩ = some (.int .i64 a) := by simp
  have q1 : ((w.alloc (.cells #[.int .i64 a, .slice aa rs.length ca] 26)).alloc (.cells #[.int .i64 0, .int .i64 0] 38)).cell? ⟨w.heap.size, 1, none⟩ = some (.slice aa rs.length ca) := by simp
  have hW := ((Below.refl w.heap.size w).alloc (Nat.le_refl _) (.cells #[.int .i64 a, .slice aa rs.length ca] 26)).alloc (by simp) (.cells #[.int .i64 0, .int .i64 0] 38)
  have HR1 := Lib.hid (HR.out.below hW hB)
  have hz : w.heap.size + 2 ≤ ((w.alloc (.cells #[.int .i64 a, .slice aa rs.length ca] 26)).alloc (.cells #[.int .i64 0, .int .i64 0] 38)).heap.size := by simp
  have hbx : BoxAt ((w.alloc (.cells #[.int .i64 a, .slice aa rs.length ca] 26)).alloc (.cells #[.int .i64 0, .int .i64 0] 38)) (w.heap.size + 1) 38 #[.int .i64 0, .int .i64 0] := by
    have := BoxAt.new (w.alloc (.cells #[.int .i64 a, .slice aa rs.length ca] 26)) 38 #[.int .i64 0, .int .i64 0]; simpa using this
  by_cases hs : 0 ≤ s ∧ s ≤ (rs.length : Int) - 1
  · obtain ⟨k, rfl⟩ := Int.eq_ofNat_of_zero_le hs.1
    have hkl : k < rs.length := by omega
    have d1 : decide ((k : Int) < 0) = false := by simp
    have d2 : decide ((k : Int) ≥ (rs.length : Int)) = false := by simp; omega
    have HX : Hid (objConcept a rs (k : Int) = conceptAt a rs (rs.getD k 0)) := Lib.hid (by
      cases hi : isCtx a rs with
      | false => simp [objConcept, conceptAt, hi]
      | true => rw [objConcept, if_pos ⟨hi, hs⟩, conceptAt, if_pos ⟨hi, (isCtx_parts hi).2.2.2 k hkl⟩, Int.toNat_natCast])
    obtain ⟨_, _, _, hv, hcells⟩ := HR1.out
    injection hv with e1' e2' e3'
    subst e1' e3'
    clear e2'
    obtain ⟨bk, of, haa, hb, gca⟩ := hcells (by rintro h; rw [show rs = [] from by simpa [ints] using h] at hkl; simp at hkl)
    have kr : ((w.alloc (.cells #[.int .i64 a, .slice aa rs.length ca] 26)).alloc (.cells #[.int .i64 0, .int .i64 0] 38)).cell? ⟨bk, of + k, none⟩ = some (.int .i64 (rs.getD k 0)) := by rw [gca k (by simpa [ints] using hkl), ints_get rs k hkl]
    have HAA := Lib.hid haa
    clear gca hcells haa
    generalize hgy : rs.getD k 0 = y at kr HX
    clear hgy
    obtain ⟨o, ho⟩ : ∃ o, conceptAt a rs y = o := ⟨_, rfl⟩
    have H1 := Lib.hid (fun v w h hB => impl_conceptAt a v rs y B w h hB)
    rw [ho] at H1 HX
    obtain ⟨p, hp⟩ : ∃ p, o.getD (0, 0) = p := ⟨_, rfl⟩
    obtain ⟨ok, hok⟩ : ∃ ok, o.isSome = ok := ⟨_, rfl⟩
    rw [show optC o = .tuple #[.agg #[.int .i64 p.1, .int .i64 p.2], .bool ok] from by rw [optC, hp, hok]] at H1
    have HQ : Hid (optC o = .tuple #[.agg #[.int .i64 p.1, .int .i64 p.2], .bool ok]) := Lib.hid (by rw [optC, hp, hok])
    clear ho hp hok
    go_enter Try.func41, Try.ntmps41
    go_wp2_with fail
    generalize ((w.alloc (.cells #[.int .i64 a, .slice aa rs.length ca] 26)).alloc (.cells #[.int .i64 0, .int .i64 0] 38)) = w1 at HR1 hW q0 q1 hz hbx kr ⊢
    have haa := HAA.out
    clear HAA
    subst haa
    have B1 := Lib.hid hW
    have HBX1 := Lib.hid hbx
    have e0 : w1.cell? ⟨w.heap.size + 1, 0, none⟩ = some (.int .i64 0) := HBX1.out.cell 0
    have e1 : w1.cell? ⟨w.heap.size + 1, 1, none⟩ = some (.int .i64 0) := HBX1.out.cell 1
    have f0 : w1.frozen? ⟨w.heap.size + 1, 0, none⟩ = false := HBX1.out.free 0
    have f1 : w1.frozen? ⟨w.heap.size + 1, 1, none⟩ = false := HBX1.out.free 1
    have hzw : w.heap.size + 2 ≤ w1.heap.size := hz
    clear hbx hW hz
    go_wp2_with fail
    go_region_held3 (fun wx => wx.cell? ⟨w.heap.size, 0, none⟩ = some (.int .i64 a) ∧ wx.cell? ⟨w.heap.size, 1, none⟩ = some (.slice (some ⟨bk, of, none⟩) rs.length ca) ∧ wx.cell? ⟨bk, of + k, none⟩ = some (.int .i64 y))
      (first | exact ⟨q0, q1, kr⟩ | exact keepk (w := w1.drew) (B := w1.heap.size) b2 ⟨q0, q1, kr⟩ (by show w.heap.size < _; omega) (by show w.heap.size < _; omega) (by show bk < _; omega) | exact keepk (w := w1.drew) (B := w.heap.size + 1) (((b2.mono (by show w.heap.size + 1 ≤ w1.heap.size; omega)).setCell (p := ⟨w.heap.size + 1, 0, none⟩) (Nat.le_refl _) _).setCell (p := ⟨w.heap.size + 1, 1, none⟩) (Nat.le_refl _) _) ⟨q0, q1, kr⟩ (by show w.heap.size < _; omega) (by show w.heap.size < _; omega) (by show bk < _; omega))
      (first | (go_at_call 38; refine (H1.out _ w1.drew (HR1.out.below (Below.refl w1.heap.size w1).drew (by omega)) (by show B ≤ w1.heap.size; omega)).mono ?_; rintro e w2 ⟨rfl, b2⟩; have hb2 := (show BoxAt w1.drew _ _ _ from HBX1.out).below b2 (by show w.heap.size + 1 < w1.heap.size; omega); have e0b : w2.cell? ⟨w.heap.size + 1, 0, none⟩ = some (.int .i64 0) := hb2.cell 0; have e1b : w2.cell? ⟨w.heap.size + 1, 1, none⟩ = some (.int .i64 0) := hb2.cell 1; have f0b : w2.frozen? ⟨w.heap.size + 1, 0, none⟩ = false := hb2.free 0; have f1b : w2.frozen? ⟨w.heap.size + 1, 1, none⟩ = false := hb2.free 1) | fail)
    have HBX2 := Lib.hid hb2
    have B2 := Lib.hid (B1.out.trans (((Below.refl w1.heap.size w1).drew.trans b2).mono (by omega)))
    clear b2 hb2 e0 e1 f0 f1
    have e0 : w2.cell? ⟨w.heap.size + 1, 0, none⟩ = some (.int .i64 0) := HBX2.out.cell 0
    have e1 : w2.cell? ⟨w.heap.size + 1, 1, none⟩ = some (.int .i64 0) := HBX2.out.cell 1
    have f0 : w2.frozen? ⟨w.heap.size + 1, 0, none⟩ = false := HBX2.out.free 0
    have f1 : w2.frozen? ⟨w.heap.size + 1, 1, none⟩ = false := HBX2.out.free 1
    go_wp2_with fail
    refine bodyPost_ret (v := .tuple #[.agg #[.int .i64 p.1, .int .i64 p.2], .bool ok]) (by simp [results, Try.results41, go_sem, e0, e1]) rfl ⟨by rw [HX.out, HQ.out], (B2.out.setCell (p := ⟨w.heap.size + 1, 0, none⟩) (by show w.heap.size ≤ w.heap.size + 1; omega) _).setCell (p := ⟨w.heap.size + 1, 1, none⟩) (by show w.heap.size ≤ w.heap.size + 1; omega) _⟩
  · have HX : Hid (objConcept a rs s = none) := Lib.hid (by rw [objConcept, if_neg (fun h => hs h.2)])
    have hg1 : decide (s < 0) = true ∨ (decide (s < 0) = false ∧ decide (s ≥ (rs.length : Int)) = true) := by simp; omega
    go_enter Try.func41, Try.ntmps41
    go_wp2_with fail
    all_goals (
    generalize ((w.alloc (.cells #[.int .i64 a, .slice aa rs.length ca] 26)).alloc (.cells #[.int .i64 0, .int .i64 0] 38)) = w1 at HR1 hW q0 q1 hz hbx ⊢
    have B1 := Lib.hid hW
    have HBX1 := Lib.hid hbx
    have e0 : w1.cell? ⟨w.heap.size + 1, 0, none⟩ = some (.int .i64 0) := HBX1.out.cell 0
    have e1 : w1.cell? ⟨w.heap.size + 1, 1, none⟩ = some (.int .i64 0) := HBX1.out.cell 1
    have f0 : w1.frozen? ⟨w.heap.size + 1, 0, none⟩ = false := HBX1.out.free 0
    have f1 : w1.frozen? ⟨w.heap.size + 1, 1, none⟩ = false := HBX1.out.free 1
    clear hbx hW
    refine bodyPost_ret (v := .tuple #[.agg #[.int .i64 0, .int .i64 0], .bool false]) (by simp [results, Try.results41, go_sem, e0, e1]) rfl ⟨by rw [HX.out]; rfl, B1.out⟩)
end Go.Proofs.Ytdkgmjbhkifcbaa.Ctx
