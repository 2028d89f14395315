/-
  Chapter 7 of the model: rows without some objects, rows without some attributes.
-/
import Derived.Test.YtlomfgbmijhgiaaRedP
import Derived.Test.YtlomfgbmijhgiaaDerive
import Derived.Deep.RegionHeld3
namespace Go.Proofs.Ytlomfgbmijhgiaa.Ctx
open Go Go.RowKit Mem Sets Elems
set_option maxRecDepth 100000
attribute [local go_sem ↓] Go.wp_at_zero Go.wp_at_succ

set_option maxHeartbeats 1600000 in
theorem l7Pack (s keep : Int) (hs : 0 ≤ s ∧ s ≤ 255) (hk : 0 ≤ keep ∧ keep ≤ 255) (w : World) :
    Calls Try.prog 84 #[.int .i64 s, .int .i64 keep] w fun e w' => e = .returned (.int .i64 (pack s keep : Nat)) ∧ w' = w := by
  have HL : Hid (∀ e : Nat, e ≤ 8 → (packTo s keep e).1 < 256) := Lib.hid fun e he => Nat.lt_of_lt_of_le (packTo_lt s keep e) (pow_le8 (Nat.le_trans (packTo_le s keep e) he))
  go_enter Try.func84, Try.ntmps84
  go_wp2_with fail
  go_loop [5, 6, 7] (fun o n i => ∃ e x m : Nat, e ≤ 8 ∧ i = .int .i64 e ∧ o = .int .i64 x ∧ n = .int .i64 m ∧ m ≤ e ∧ x < 256 ∧ Hid (packTo s keep e = (x, m))) (fun _ _ i => 8 - (intOf i).toNat)
  case atStart => exact ⟨0, 0, 0, by omega, rfl, rfl, rfl, by omega, by omega, Lib.hid rfl⟩
  case round =>
    obtain ⟨e, x, m, he, rfl, rfl, rfl, hm, hx, hp⟩ := hrel
    by_cases hlt : e < 8
    · have hH1 := Lib.hid (fun w => l2Has keep e (by omega) hk w)
      have hH2 := Lib.hid (fun w => l2Has s e (by omega) hs w)
      cases hb : bit keep e with
      | false =>
        have HP := Lib.hid ((packTo_no (s := s) hb).trans hp.out)
        rw [hb] at hH1
        clear hb
        go_wp2_with fail
        refine (hH1.out _).mono ?_
        rintro e w' ⟨rfl, hw⟩
        subst w'
        go_wp2_with fail
        go_round
        case rel => exact ⟨e + 1, x, m, by omega, by simp, rfl, rfl, by omega, hx, HP⟩
        case measure => simp [intOf]; omega
      | true =>
        rw [hb] at hH1
        cases ht : bit s e with
        | false =>
          have HP := Lib.hid (packTo_skip hb ht)
          rw [ht] at hH2
          clear hb ht
          go_wp2_with fail
          refine (hH1.out _).mono ?_
          rintro e w' ⟨rfl, hw⟩
          subst w'
          go_wp2_with fail
          refine (hH2.out _).mono ?_
          rintro e w' ⟨rfl, hw⟩
          subst w'
          go_wp2_with fail
          go_round
          case rel => exact ⟨e + 1, x, m + 1, by omega, by simp, rfl, by simp, by omega, hx, Lib.hid (by rw [HP.out, hp.out])⟩
          case measure => simp [intOf]; omega
        | true =>
          have HP := Lib.hid (packTo_yes hb ht)
          rw [ht] at hH2
          clear hb ht
          go_wp2_with fail
          refine (hH1.out _).mono ?_
          rintro e w' ⟨rfl, hw⟩
          subst w'
          go_wp2_with fail
          refine (hH2.out _).mono ?_
          rintro e w' ⟨rfl, hw⟩
          subst w'
          go_wp2_with fail
          go_round
          case rel => exact ⟨e + 1, x ||| 2 ^ m, m + 1, by omega, by simp, by rw [or_pow x m hx (by omega)], by simp, by omega, Nat.or_lt_two_pow (n := 8) hx (Nat.pow_lt_pow_right (by omega) (by omega)), Lib.hid (by rw [HP.out, hp.out])⟩
          case measure => simp [intOf]; omega
    · have HV := Lib.hid (show (pack s keep : Nat) = x by rw [pack, show (8 : Nat) = e by omega, hp.out])
      go_wp2_with fail
      go_ret
      exact ⟨by rw [HV.out]; rfl, rfl⟩
set_option maxHeartbeats 8000000 in
theorem spec_dropA (a : Int) (v : Value) (rs : List Int) (s : Int) (B : Nat) (w : World) (hr : Reads w B v (ints rs)) (hB : B ≤ w.heap.size) :
    Calls Try.prog 73 #[ctx a v, .int .i64 s] w (CtxRes (dropA a rs s) w) := by
  obtain ⟨i0, hi, hz0, hz1, hz2⟩ := info_parts Ints.info
  obtain ⟨aa, ca, rfl⟩ := reads_form hr
  have HR := Lib.hid hr
  clear hr
  go_enter Try.func73, Try.ntmps73
  go_wp2_with fail
  refine (spec_isCtx a _ rs B _ ((HR.out.below (B' := w.heap.size) ((Below.refl _ _).alloc (Nat.le_refl _) _ |>.alloc (by simp) _) hB)) (by simp; omega)).mono ?_
  rintro e w1 ⟨rfl, b⟩
  obtain ⟨hc, hf⟩ := bcell b
  have hz := b.size
  simp at hz
  have BB := Lib.hid b
  clear b
  cases hic : isCtx a rs with
  | false =>
    have HX := Lib.hid (show dropA a rs s = none by simp [dropA, hic])
    clear hic
    go_wp2_with fail
    refine bodyPost_ret (v := .tuple #[ctx 0 (.slice none 0 0), .bool false]) (by simp [results, Try.results73, go_sem, hc]) rfl (ctxRes_none HX.out ?_)
    exact ((((Below.refl _ _).alloc (Nat.le_refl _) _ |>.alloc (by simp) _).trans (BB.out.mono (by simp; omega))).setCell (by simp) _).setCell (by simp) _
  | true =>
    cases his : isSet a s with
    | false =>
      have HX := Lib.hid (show dropA a rs s = none by simp [dropA, his])
      have HS := Lib.hid (fun w => by have := spec_isSet a s w; rw [his] at this; exact this)
      clear hic his
      go_wp2_with fail
      refine (HS.out _).mono ?_
      rintro e w' ⟨rfl, rfl⟩
      go_wp2_with fail
      refine bodyPost_ret (v := .tuple #[ctx 0 (.slice none 0 0), .bool false]) (by simp [results, Try.results73, go_sem, hc]) rfl (ctxRes_none HX.out ?_)
      exact ((((Below.refl _ _).alloc (Nat.le_refl _) _ |>.alloc (by simp) _).trans (BB.out.mono (by simp; omega))).setCell (by simp) _).setCell (by simp) _
    | true =>
      obtain ⟨kn, hkn, hkl⟩ := keepOf_nat hic his
      have HX := Lib.hid (show dropA a rs s = some (count kn, packRows rs kn rs.length) by simp [dropA, hic, his, hkn])
      have HS := Lib.hid (fun w => by have := spec_isSet a s w; rw [his] at this; exact this)
      have HI := Lib.hid hic
      have hsb := isSet_le his
      obtain ⟨ha0, ha6, h8, -⟩ := isCtx_parts hic
      have HF := Lib.hid hkn
      rw [keepOf] at hkn
      have hwr : IntKind.i64.wrap (full a - s) = ((kn : Nat) : Int) := by rw [hkn]; exact IntWalk.i64_in _ (by omega)
      clear hic his hkn
      have q0 : w1.cell? ⟨w.heap.size, 0, none⟩ = some (.int .i64 a) := by rw [hc _ _ (by simp; omega)]; simp
      have q1 : w1.cell? ⟨w.heap.size, 1, none⟩ = some (.slice aa rs.length ca) := by rw [hc _ _ (by simp; omega)]; simp
      have HB1 : Hid (BoxAt w1 (w.heap.size + 1) 26 #[.int .i64 0, .slice none 0 0]) := Lib.hid ((show BoxAt _ (w.heap.size + 1) _ _ by have := BoxAt.new (w.alloc (.cells #[.int .i64 a, .slice aa rs.length ca] 26)) 26 #[.int .i64 0, .slice none 0 0]; simpa using this).below BB.out (by simp))
      have HR1 := Lib.hid ((HR.out.below (B' := w.heap.size) ((Below.refl _ _).alloc (Nat.le_refl _) (.cells #[.int .i64 a, .slice aa rs.length ca] 26) |>.alloc (by simp) (.cells #[.int .i64 0, .slice none 0 0] 26)) hB).below BB.out (by simp; omega))
      go_wp2_with fail
      refine (HS.out _).mono ?_
      rintro e w' ⟨rfl, hw⟩
      subst w'
      go_wp2_with fail
      refine (spec_full _ _).mono ?_
      rintro e w' ⟨rfl, hw⟩
      subst w'
      go_wp2_with fail
      refine (spec_count _ _).mono ?_
      rintro e w' ⟨rfl, hw⟩
      subst w'
      go_wp2_with fail
      go_loopw [8] (fun i wr => ∃ (k : Nat) (v' : Value), k ≤ rs.length ∧ i = .int .i64 k ∧ Hid (BoxAt wr w1.heap.size 26 #[.int .i64 (count kn), v']) ∧ Hid (wr.ownsRow (w1.heap.size + 1) 3 1 v' k (ints (packRows rs kn k))) ∧ Hid (Below w1.heap.size w1 wr)) (fun i _ => rs.length - (intOf i).toNat)
      case atStart => exact ⟨0, .slice none 0 0, Nat.zero_le _, rfl, Lib.hid (BoxAt.new _ _ _), Lib.hid (World.ownsRow_nil _ _ _ _), Lib.hid ((Below.refl _ _).alloc (Nat.le_refl _) _)⟩
      case round =>
        obtain ⟨k, v', hk, rfl, hbox, hown, hbel⟩ := hrel
        obtain ⟨av, cv, rfl⟩ := owns_form hown.out
        have c0 : wr.cell? ⟨w.heap.size, 0, none⟩ = some (.int .i64 a) := (hbel.out.cell (p := ⟨w.heap.size, 0, none⟩) (by show w.heap.size < _; omega)).trans q0
        have c1 : wr.cell? ⟨w.heap.size, 1, none⟩ = some (.slice aa rs.length ca) := (hbel.out.cell (p := ⟨w.heap.size, 1, none⟩) (by show w.heap.size < _; omega)).trans q1
        have c2 : wr.cell? ⟨w1.heap.size, 1, none⟩ = some (.slice av k cv) := hbox.out.cell 1
        have c2f : wr.frozen? ⟨w1.heap.size, 1, none⟩ = false := hbox.out.free 1
        have hzr : w1.heap.size < wr.heap.size := hbox.out.lt
        by_cases hlt : k < rs.length
        · have HK1 : Hid (k + 1 ≤ maxLen) := Lib.hid (by unfold maxLen; omega)
          have HK2 : Hid ((k + 1) * 8 ≤ 140737488355328) := Lib.hid (by omega)
          obtain ⟨_, _, _, hv, hcells⟩ := HR1.out
          injection hv with e1 e2 e3
          subst e1 e3
          clear e2
          obtain ⟨bk, o, rfl, hb, gca⟩ := hcells (by intro h; simp [ints] at h; subst h; simp at hlt)
          have ce : wr.cell? ⟨bk, o + k, none⟩ = some (.int .i64 (rs.getD k 0)) := (hbel.out.cell (p := ⟨bk, o + k, none⟩) (by show bk < _; omega)).trans ((gca k (by simpa [ints] using hlt)).trans (ints_get rs k hlt))
          clear gca hcells
          have hx := row_le HI.out k
          have HST := Lib.hid (packRows_step rs kn k hlt)
          generalize rs.getD k 0 = x at ce hx HST
          have HP := Lib.hid (fun w => l7Pack x kn hx (by omega) w)
          generalize pack x kn = px at HP HST
          go_wp2_with fail
          go_region_law (first | (refine step_append_lies _ (by rfl) _ _ _ (by rfl) (w1.heap.size + 1) 3 i0 (.int .i64 0) 1 8 Try.underlying22 hi hz0 hz1 hz2 rfl (by decide) _ k _ (by rfl) (show (wr.alloc _).drew.ownsRow _ _ _ _ _ _ from hown.out.alloc _) ⟨wr.heap.size, 0, none⟩ 1 1 [.int .i64 (px : Nat)] (by rfl) (by rfl) (news1 _ _ _) (one1 _ _) Nat.one_pos HK1.out HK2.out (Nat.le_trans hzr (Below.refl 0 wr |>.alloc (Nat.zero_le _) _).size) _ rfl ?_; intro g cap w3 hown3 hgrow hat hlt3; have b4' := ((Below.refl w1.heap.size wr).alloc (Nat.le_of_lt hzr) _).drew.grown hgrow (Nat.le_trans (Nat.le_of_lt hzr) (Below.refl 0 wr |>.alloc (Nat.zero_le _) _).size) (fun q hq => Nat.le_trans (Nat.le_succ _) (hown.out.lt q hq).1); have f4 := (((hbox.out.alloc _).drew.grown hgrow (fun e => by have := (hown.out.lt _ e.symm).1; omega))); have d4 := f4.cell 1; have g4 := f4.free 1) | (go_simp; go_wp2_with (go_at_call 84; refine (HP.out _).mono ?_; rintro e w' ⟨rfl, rfl⟩)) | fail)
          all_goals
            have HB4 := Lib.hid (f4.set 1 (.slice (some ⟨g, 0, none⟩) (k + 1) cap))
            have HO4 := Lib.hid (ownsRow_setCell_below hown3 (a := ⟨w1.heap.size, 1, none⟩) (by show w1.heap.size < _; omega) (.slice (some ⟨g, 0, none⟩) (k + 1) cap))
            have HW4 := Lib.hid ((hbel.out.trans b4').setCell (p := ⟨w1.heap.size, 1, none⟩) (by show w1.heap.size ≤ w1.heap.size; omega) (.slice (some ⟨g, 0, none⟩) (k + 1) cap))
            clear b4' hown3 hgrow hat hlt3 f4 d4 g4
            go_wp2_with fail
            go_roundw
            case rel => exact ⟨k + 1, _, by omega, by simp, HB4, Lib.hid (by rw [HST.out]; simpa [ints] using HO4.out), HW4⟩
            case measure => simp [intOf]; omega
        · have HK := Lib.hid (show k = rs.length by omega)
          have c3 : wr.cell? ⟨w1.heap.size, 0, none⟩ = some (.int .i64 (count kn)) := hbox.out.cell 0
          have hbr := HB1.out.below hbel.out (by omega)
          have e0 : wr.cell? ⟨w.heap.size + 1, 0, none⟩ = some (.int .i64 0) := hbr.cell 0
          have e1 : wr.cell? ⟨w.heap.size + 1, 1, none⟩ = some (.slice none 0 0) := hbr.cell 1
          have f0 : wr.frozen? ⟨w.heap.size + 1, 0, none⟩ = false := hbr.free 0
          have f1 : wr.frozen? ⟨w.heap.size + 1, 1, none⟩ = false := hbr.free 1
          clear hbr
          go_wp2_with fail
          refine bodyPost_ret (v := .tuple #[ctx (count kn) (.slice av k cv), .bool true]) (by simp [results, Try.results73, go_sem, e0, e1]) rfl (ctxRes_some HX.out ?_ ?_)
          · rw [← HK.out]
            refine (own_set (own_set (lo := w1.heap.size + 1) (hi := wr.heap.size) (Own.made hown.out) (.inl (by simp; omega)) _) (.inl (by simp; omega)) _).mono (by omega) (by simp)
          · exact ((((Below.refl _ _).alloc (Nat.le_refl _) _ |>.alloc (by simp) _).trans (BB.out.mono (by simp; omega))).trans (hbel.out.mono (by omega))).setCell (by simp) _ |>.setCell (by simp) _
end Go.Proofs.Ytlomfgbmijhgiaa.Ctx
