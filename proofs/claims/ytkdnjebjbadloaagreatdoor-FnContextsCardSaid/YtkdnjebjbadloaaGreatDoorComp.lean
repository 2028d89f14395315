/-
  ComplementContext of the program and of the model.
-/
import Derived.Test.YtkdnjebjbadloaaGreatDoorDual
import Derived.Deep.RegionHeld3
namespace Go.Proofs.YtkdnjebjbadloaaGreatDoor.Ctx
open Go Go.RowKit Mem Sets
set_option maxRecDepth 100000
attribute [local go_sem ↓] Go.wp_at_zero Go.wp_at_succ

theorem andNot_full (a r : Int) (h : isSet a r = true) : bits .andNot .i64 (full a) r = full a - r := by
  simp only [isSet, decide_eq_true_eq] at h
  obtain ⟨⟨h0, h1⟩, h2, h3⟩ := h
  obtain ⟨n, rfl⟩ := Int.eq_ofNat_of_zero_le h0
  obtain ⟨m, rfl⟩ := Int.eq_ofNat_of_zero_le h2
  have key : ∀ n : Nat, n < 9 → ∀ m : Nat, m < 256 → (m : Int) ≤ 2 ^ ((n : Int)).toNat - 1 → bits .andNot .i64 (full n) m = full n - m := by decide +kernel
  have hm : (m : Int) ≤ 255 := (isSet_le (a := n) (s := m) (by simp only [isSet, decide_eq_true_eq]; exact ⟨⟨h0, h1⟩, h2, h3⟩)).2
  exact key n (by omega) m (by omega) h3
theorem full_bounds (a : Int) : 0 ≤ full a ∧ full a ≤ 255 := by
  unfold full
  split
  · rename_i h
    rcases cases9 h with rfl | rfl | rfl | rfl | rfl | rfl | rfl | rfl | rfl <;> decide
  · omega
def compTo (a : Int) (rs : List Int) (k : Nat) : List Int := (rs.take k).map fun r => full a - r
theorem compTo_step (a : Int) (rs : List Int) (k : Nat) (hk : k < rs.length) : compTo a rs (k + 1) = compTo a rs k ++ [full a - rs.getD k 0] := by
  simp only [compTo, List.take_add_one, List.getD, List.getElem?_eq_getElem hk, Option.toList_some, List.map_append, List.map_cons, List.map_nil, Option.getD_some]
theorem compTo_length (a : Int) (rs : List Int) (k : Nat) (hk : k ≤ rs.length) : (compTo a rs k).length = k := by simp [compTo]; omega
def comp (a : Int) (rs : List Int) : Option (Int × List Int) := if isCtx a rs = true then some (a, compTo a rs rs.length) else none

theorem keepc {w w' : World} {B : Nat} {p q r : Addr} {x y z : Value} (hb : Below B w w') (h : w.cell? p = some x ∧ w.cell? q = some y ∧ w.cell? r = some z) (hp : p.block < B) (hq : q.block < B) (hr : r.block < B) :
    w'.cell? p = some x ∧ w'.cell? q = some y ∧ w'.cell? r = some z :=
  ⟨(hb.cell hp).trans h.1, (hb.cell hq).trans h.2.1, (hb.cell hr).trans h.2.2⟩
set_option maxHeartbeats 8000000 in
theorem spec_comp (a : Int) (v : Value) (rs : List Int) (B : Nat) (w : World) (hr : Reads w B v (ints rs)) (hB : B ≤ w.heap.size) :
    Calls Tryz.prog 11 #[ctx a v] w (CtxRes (comp a rs) w) := by
  obtain ⟨i0, hi, hz0, hz1, hz2⟩ := info_parts Ints.info
  obtain ⟨aa, ca, rfl⟩ := reads_form hr
  have HR := Lib.hid hr
  clear hr
  go_enter Tryz.func11, Tryz.ntmps11
  go_wp2_with fail
  refine (spec_isCtx a _ rs B _ ((HR.out.below (B' := w.heap.size) ((Below.refl _ _).alloc (Nat.le_refl _) _ |>.alloc (by simp) _) hB)) (by simp; omega)).mono ?_
  rintro e w1 ⟨rfl, b⟩
  obtain ⟨hc, hf⟩ := bcell b
  have hz := b.size
  simp at hz
  have BB := Lib.hid b
  clear b
  cases hic : isCtx a rs with
  | false =>
    have HX := Lib.hid (show comp a rs = none by simp [comp, hic])
    clear hic
    go_wp2_with fail
    refine bodyPost_ret (v := .tuple #[ctx 0 (.slice none 0 0), .bool false]) (by simp [results, Tryz.results11, go_sem, hc]) rfl (ctxRes_none HX.out ?_)
    exact ((((Below.refl _ _).alloc (Nat.le_refl _) _ |>.alloc (by simp) _).trans (BB.out.mono (by simp; omega))).setCell (by simp) _).setCell (by simp) _
  | true =>
    have HX := Lib.hid (show comp a rs = some (a, compTo a rs rs.length) by simp [comp, hic])
    have HI := Lib.hid hic
    obtain ⟨ha0, ha6, h8, -⟩ := isCtx_parts hic
    clear hic
    have q0 : w1.cell? ⟨w.heap.size, 0, none⟩ = some (.int .i64 a) := by rw [hc _ _ (by simp; omega)]; simp
    have q1 : w1.cell? ⟨w.heap.size, 1, none⟩ = some (.slice aa rs.length ca) := by rw [hc _ _ (by simp; omega)]; simp
    have HB1 : Hid (BoxAt w1 (w.heap.size + 1) 26 #[.int .i64 0, .slice none 0 0]) := Lib.hid ((show BoxAt _ (w.heap.size + 1) _ _ by have := BoxAt.new (w.alloc (.cells #[.int .i64 a, .slice aa rs.length ca] 26)) 26 #[.int .i64 0, .slice none 0 0]; simpa using this).below BB.out (by simp))
    have HR1 := Lib.hid ((HR.out.below (B' := w.heap.size) ((Below.refl _ _).alloc (Nat.le_refl _) (.cells #[.int .i64 a, .slice aa rs.length ca] 26) |>.alloc (by simp) (.cells #[.int .i64 0, .slice none 0 0] 26)) hB).below BB.out (by simp; omega))
    go_wp2_with fail
    go_loopw [5] (fun i wr => ∃ (k : Nat) (v' : Value), k ≤ rs.length ∧ i = .int .i64 k ∧ Hid (BoxAt wr w1.heap.size 26 #[.int .i64 a, v']) ∧ Hid (wr.ownsRow (w1.heap.size + 1) 3 1 v' k (ints (compTo a rs k))) ∧ Hid (Below w1.heap.size w1 wr)) (fun i _ => rs.length - (intOf i).toNat)
    case atStart => exact ⟨0, .slice none 0 0, Nat.zero_le _, rfl, Lib.hid (BoxAt.new _ _ _), Lib.hid (World.ownsRow_nil _ _ _ _), Lib.hid ((Below.refl _ _).alloc (Nat.le_refl _) _)⟩
    case round =>
      obtain ⟨k, v', hk, rfl, hbox, hown, hbel⟩ := hrel
      obtain ⟨av, cv, rfl⟩ := owns_form hown.out
      have c0 : wr.cell? ⟨w.heap.size, 0, none⟩ = some (.int .i64 a) := (hbel.out.cell (p := ⟨w.heap.size, 0, none⟩) (by show w.heap.size < _; omega)).trans q0
      have c1 : wr.cell? ⟨w.heap.size, 1, none⟩ = some (.slice aa rs.length ca) := (hbel.out.cell (p := ⟨w.heap.size, 1, none⟩) (by show w.heap.size < _; omega)).trans q1
      have c2 : wr.cell? ⟨w1.heap.size, 1, none⟩ = some (.slice av k cv) := hbox.out.cell 1
      have hzr : w1.heap.size < wr.heap.size := hbox.out.lt
      by_cases hlt : k < rs.length
      · have HK1 : Hid (k + 1 ≤ maxLen) := Lib.hid (by unfold maxLen; omega)
        have HK2 : Hid ((k + 1) * 8 ≤ 140737488355328) := Lib.hid (by omega)
        obtain ⟨_, _, _, hv, hcells⟩ := HR1.out
        injection hv with e1 e2 e3
        subst e1 e3
        clear e2
        obtain ⟨bk, o, rfl, hb, gca⟩ := hcells (by intro h; simp [ints] at h; subst h; simp at hlt)
        have ce : wr.cell? ⟨bk, o + k, none⟩ = some (.int .i64 (rs.getD k 0)) := (hbel.out.cell (p := ⟨bk, o + k, none⟩) (by show bk < _; omega)).trans ((gca k (by simpa [ints] using hlt)).trans (ints_get rs k hlt))
        clear gca hcells
        have HS := Lib.hid (row_le HI.out k)
        have HST := Lib.hid (compTo_step a rs k hlt)
        generalize rs.getD k 0 = x at ce HS HST
        have hx := HS.out
        have hfb := full_bounds a
        have hwr : IntKind.i64.wrap (full a - x) = full a - x := IntWalk.i64_in _ (by omega)
        go_wp2_with fail
        go_region_law (first | (refine step_append_lies _ (by rfl) _ _ _ (by rfl) (w1.heap.size + 1) 3 i0 (.int .i64 0) 1 8 Tryz.underlying24 hi hz0 hz1 hz2 rfl (by decide) _ k _ (by rfl) (show (wr.alloc _).drew.ownsRow _ _ _ _ _ _ from hown.out.alloc _) ⟨wr.heap.size, 0, none⟩ 1 1 [.int .i64 (full a - x)] (by rfl) (by rfl) (news1 _ _ _) (one1 _ _) Nat.one_pos HK1.out HK2.out (Nat.le_trans hzr (Below.refl 0 wr |>.alloc (Nat.zero_le _) _).size) _ rfl ?_; intro g cap w3 hown3 hgrow hat hlt3; have b4' := ((Below.refl w1.heap.size wr).alloc (Nat.le_of_lt hzr) _).drew.grown hgrow (Nat.le_trans (Nat.le_of_lt hzr) (Below.refl 0 wr |>.alloc (Nat.zero_le _) _).size) (fun q hq => Nat.le_trans (Nat.le_succ _) (hown.out.lt q hq).1); have f4 := (((hbox.out.alloc _).drew.grown hgrow (fun e => by have := (hown.out.lt _ e.symm).1; omega))); have d4 := f4.cell 1; have g4 := f4.free 1) | (go_simp; go_wp2_with (go_at_call 31; refine (spec_full _ _).mono ?_; rintro e w' ⟨rfl, rfl⟩)) | fail)
        all_goals
          have HB4 := Lib.hid (f4.set 1 (.slice (some ⟨g, 0, none⟩) (k + 1) cap))
          have HO4 := Lib.hid (ownsRow_setCell_below hown3 (a := ⟨w1.heap.size, 1, none⟩) (by show w1.heap.size < _; omega) (.slice (some ⟨g, 0, none⟩) (k + 1) cap))
          have HW4 := Lib.hid ((hbel.out.trans b4').setCell (p := ⟨w1.heap.size, 1, none⟩) (by show w1.heap.size ≤ w1.heap.size; omega) (.slice (some ⟨g, 0, none⟩) (k + 1) cap))
          clear b4' hown3 hgrow hat hlt3 f4 d4 g4
          go_wp2_with fail
          go_roundw
          case rel => exact ⟨k + 1, _, by omega, by simp, HB4, Lib.hid (by rw [HST.out]; simpa [ints] using HO4.out), HW4⟩
          case measure => simp [intOf]; omega
      · have HK := Lib.hid (show k = rs.length by omega)
        have c3 : wr.cell? ⟨w1.heap.size, 0, none⟩ = some (.int .i64 a) := hbox.out.cell 0
        have hbr := HB1.out.below hbel.out (by omega)
        have e0 : wr.cell? ⟨w.heap.size + 1, 0, none⟩ = some (.int .i64 0) := hbr.cell 0
        have e1 : wr.cell? ⟨w.heap.size + 1, 1, none⟩ = some (.slice none 0 0) := hbr.cell 1
        have f0 : wr.frozen? ⟨w.heap.size + 1, 0, none⟩ = false := hbr.free 0
        have f1 : wr.frozen? ⟨w.heap.size + 1, 1, none⟩ = false := hbr.free 1
        clear hbr
        go_wp2_with fail
        refine bodyPost_ret (v := .tuple #[ctx a (.slice av k cv), .bool true]) (by simp [results, Tryz.results11, go_sem, e0, e1]) rfl (ctxRes_some HX.out ?_ ?_)
        · rw [← HK.out]
          refine (own_set (own_set (lo := w1.heap.size + 1) (hi := wr.heap.size) (Own.made hown.out) (.inl (by simp; omega)) _) (.inl (by simp; omega)) _).mono (by omega) (by simp)
        · exact ((((Below.refl _ _).alloc (Nat.le_refl _) _ |>.alloc (by simp) _).trans (BB.out.mono (by simp; omega))).trans (hbel.out.mono (by omega))).setCell (by simp) _ |>.setCell (by simp) _
set_option maxHeartbeats 800000 in
theorem impl_comp (a : Int) (v : Value) (rs : List Int) (B : Nat) (w : World) (hr : Reads w B v (ints rs)) (hB : B ≤ w.heap.size) :
    Calls Tryz.prog 10 #[ctx a v] w (CtxRes (comp a rs) w) := by
  obtain ⟨i0, hi, hz0, hz1, hz2⟩ := info_parts Ints.info
  obtain ⟨aa, ca, rfl⟩ := reads_form hr
  have HR := Lib.hid hr
  clear hr
  go_enter Tryz.func10, Tryz.ntmps10
  go_wp2_with fail
  refine (impl_isCtx a _ rs B _ ((HR.out.below (B' := w.heap.size) ((Below.refl _ _).alloc (Nat.le_refl _) _ |>.alloc (by simp) _) hB)) (by simp; omega)).mono ?_
  rintro e w1 ⟨rfl, b⟩
  obtain ⟨hc, hf⟩ := bcell b
  have hz := b.size
  simp at hz
  have BB := Lib.hid b
  clear b
  cases hic : isCtx a rs with
  | false =>
    have HX := Lib.hid (show comp a rs = none by simp [comp, hic])
    clear hic
    go_wp2_with fail
    refine bodyPost_ret (v := .tuple #[ctx 0 (.slice none 0 0), .bool false]) (by simp [results, Tryz.results10, go_sem, hc]) rfl (ctxRes_none HX.out ?_)
    exact ((((Below.refl _ _).alloc (Nat.le_refl _) _ |>.alloc (by simp) _).trans (BB.out.mono (by simp; omega))).setCell (by simp) _).setCell (by simp) _
  | true =>
    have HX := Lib.hid (show comp a rs = some (a, compTo a rs rs.length) by simp [comp, hic])
    have HI := Lib.hid hic
    obtain ⟨ha0, ha6, h8, -⟩ := isCtx_parts hic
    clear hic
    have q0 : w1.cell? ⟨w.heap.size, 0, none⟩ = some (.int .i64 a) := by rw [hc _ _ (by simp; omega)]; simp
    have q1 : w1.cell? ⟨w.heap.size, 1, none⟩ = some (.slice aa rs.length ca) := by rw [hc _ _ (by simp; omega)]; simp
    have HB1 : Hid (BoxAt w1 (w.heap.size + 1) 26 #[.int .i64 0, .slice none 0 0]) := Lib.hid ((show BoxAt _ (w.heap.size + 1) _ _ by have := BoxAt.new (w.alloc (.cells #[.int .i64 a, .slice aa rs.length ca] 26)) 26 #[.int .i64 0, .slice none 0 0]; simpa using this).below BB.out (by simp))
    have HR1 := Lib.hid ((HR.out.below (B' := w.heap.size) ((Below.refl _ _).alloc (Nat.le_refl _) (.cells #[.int .i64 a, .slice aa rs.length ca] 26) |>.alloc (by simp) (.cells #[.int .i64 0, .slice none 0 0] 26)) hB).below BB.out (by simp; omega))
    go_wp2_with (at_make; refine wpList_make_full _ rfl _ _ 24 rfl w1.heap.size 3 i0 (.int .i64 0) 1 Tryz.underlying24 hi hz0 hz1 .i64 .i64 _ _ rs.length rfl rfl rfl rfl (by rw [hz2]; omega) (by unfold maxLen; omega) (Nat.le_refl _) ?_; intro w0 hown0 hgrow0; have p1 := (((Below.refl w1.heap.size w1).grown hgrow0 (Nat.le_refl _) (fun q hq => by cases hq)).cell (p := ⟨w.heap.size, 1, none⟩) (by show w.heap.size < _; omega)).trans q1)
    have H0 := Lib.hid hown0
    have HG := Lib.hid hgrow0
    clear hown0 hgrow0
    have hsz : (madeCells (Value.int .i64 0).cells (rs.length * 1)).toList.length = rs.length := by simp [size_madeCells]
    have HSZ := Lib.hid hsz
    clear hsz
    generalize (madeCells (Value.int .i64 0).cells (rs.length * 1)).toList = ys at H0 HSZ
    go_loopw [18] (fun i wr => ∃ k : Nat, k ≤ rs.length ∧ i = .int .i64 k ∧ Hid (wr.ownsRow w1.heap.size 3 1 (.slice (some ⟨w1.heap.size, 0, none⟩) rs.length rs.length) rs.length (ints (compTo a rs k) ++ ys.drop k)) ∧ Hid (Below w1.heap.size w1 wr)) (fun i _ => rs.length - (intOf i).toNat)
    case atStart => exact ⟨0, Nat.zero_le _, rfl, Lib.hid (by simpa [compTo] using H0.out), Lib.hid ((Below.refl _ _).grown HG.out (Nat.le_refl _) (fun q hq => by cases hq))⟩
    case round =>
      obtain ⟨k, hk, rfl, hown, hbel⟩ := hrel
      have c0 : wr.cell? ⟨w.heap.size, 0, none⟩ = some (.int .i64 a) := (hbel.out.cell (p := ⟨w.heap.size, 0, none⟩) (by show w.heap.size < _; omega)).trans q0
      have c1 : wr.cell? ⟨w.heap.size, 1, none⟩ = some (.slice aa rs.length ca) := (hbel.out.cell (p := ⟨w.heap.size, 1, none⟩) (by show w.heap.size < _; omega)).trans q1
      have HRk := Lib.hid (HR1.out.below hbel.out (by omega))
      have hzr : w1.heap.size < wr.heap.size := (hown.out.lt _ rfl).2
      by_cases hlt : k < rs.length
      · obtain ⟨_, _, _, hv, hcells⟩ := HRk.out
        injection hv with e1 e2 e3
        subst e1 e3
        clear e2
        obtain ⟨bk, o, rfl, hb, gca⟩ := hcells (by intro h; simp [ints] at h; subst h; simp at hlt)
        have ce : wr.cell? ⟨bk, o + k, none⟩ = some (.int .i64 (rs.getD k 0)) := (gca k (by simpa [ints] using hlt)).trans (ints_get rs k hlt)
        clear gca hcells
        have HAN := Lib.hid (andNot_full a (rs.getD k 0) ((isCtx_parts HI.out).2.2.2 k hlt))
        have HST := Lib.hid (compTo_step a rs k hlt)
        generalize rs.getD k 0 = x at ce HAN HST
        have hown2 := hown.out
        have hlen : (ints (compTo a rs k) ++ ys.drop k).length = rs.length := by simp [ints, compTo_length a rs k hk, HSZ.out]; omega
        have hsome : ∃ u, wr.cell? ⟨w1.heap.size, k, none⟩ = some u := by
          rw [hown2.cellAt k (by omega)]
          exact ⟨_, List.getElem?_eq_getElem (by omega)⟩
        obtain ⟨u, c2⟩ := hsome
        have hfz : wr.frozen? ⟨w1.heap.size, k, none⟩ = false := hown2.frozenAt k
        have st := Lib.hid (hown2.stored k (.int .i64 (full a - x)))
        clear hown2 hlen
        go_wp2_with fail
        refine (impl_full _ _).mono ?_
        rintro e w' ⟨rfl, rfl⟩
        go_wp2_with fail
        go_roundw
        case rel =>
          refine ⟨k + 1, by omega, by simp, Lib.hid ?_, Lib.hid (by rw [HAN.out]; exact hbel.out.grown st.out.2 (by omega) (fun q hq => by cases hq; omega))⟩
          have := st.out.1
          rw [set_step _ _ _ _ (compTo_length a rs k hk) (by rw [HSZ.out]; exact hlt), ← HST.out] at this
          rw [HAN.out]
          exact this
        case measure => simp [intOf]; omega
      · have HK := Lib.hid (show k = rs.length by omega)
        have hbr := HB1.out.below hbel.out (by omega)
        have e0 : wr.cell? ⟨w.heap.size + 1, 0, none⟩ = some (.int .i64 0) := hbr.cell 0
        have e1 : wr.cell? ⟨w.heap.size + 1, 1, none⟩ = some (.slice none 0 0) := hbr.cell 1
        have f0 : wr.frozen? ⟨w.heap.size + 1, 0, none⟩ = false := hbr.free 0
        have f1 : wr.frozen? ⟨w.heap.size + 1, 1, none⟩ = false := hbr.free 1
        clear hbr
        go_wp2_with fail
        refine bodyPost_ret (v := .tuple #[ctx a (.slice (some ⟨w1.heap.size, 0, none⟩) rs.length rs.length), .bool true]) (by simp [results, Tryz.results10, go_sem, e0, e1]) rfl (ctxRes_some HX.out ?_ ?_)
        · have := hown.out
          rw [HK.out, List.drop_of_length_le (by rw [HSZ.out]; omega), List.append_nil] at this
          refine (own_set (own_set (lo := w1.heap.size) (hi := wr.heap.size) (Own.made this) (.inl (by simp; omega)) _) (.inl (by simp; omega)) _).mono (by omega) (by simp)
        · exact ((((Below.refl _ _).alloc (Nat.le_refl _) _ |>.alloc (by simp) _).trans (BB.out.mono (by simp; omega))).trans (hbel.out.mono (by omega))).setCell (by simp) _ |>.setCell (by simp) _
end Go.Proofs.YtkdnjebjbadloaaGreatDoor.Ctx
