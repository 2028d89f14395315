/-
  Chapter 6 of the model: the height.
-/
import Derived.Test.YtdkgmjbhkifcbaaSLat4
namespace Go.Proofs.Ytdkgmjbhkifcbaa.Tab
open Go Go.RowKit Mem Sets Ctx
set_option maxRecDepth 100000

theorem setLast (ds : List Nat) (z y k : Nat) (hk : ds.length = k) (u : Int) (hu : u = y) : (ints (nats (ds ++ [z]))).set k (.int .i64 u) = ints (nats (ds ++ [y])) := by
  subst hk
  subst hu
  simp only [ints, nats, List.map_append, List.map_cons, List.map_nil]
  rw [List.set_append_right _ _ (by simp)]
  simp
theorem max_ (x y : Int) (w : World) : Calls Try.prog 117 #[.int .i64 x, .int .i64 y] w fun e w' => e = .returned (.int .i64 (max x y)) ∧ w' = w := by
  by_cases h : y < x
  · have HV : Hid (max x y = x) := Lib.hid (by omega)
    go_enter Try.func117, Try.ntmps117
    go_wp2_with fail
    go_ret
    exact ⟨by rw [HV.out]; rfl, rfl⟩
  · have HV : Hid (max x y = y) := Lib.hid (by omega)
    go_enter Try.func117, Try.ntmps117
    go_wp2_with fail
    go_ret
    exact ⟨by rw [HV.out]; rfl, rfl⟩
set_option maxHeartbeats 3200000 in
theorem spec_height (a : Int) (v : Value) (rs : List Int) (B : Nat) (w : World) (hr : Reads w B v (ints rs)) (hB : B ≤ w.heap.size) :
    Calls Try.prog 72 #[ctx a v] w fun e w' => e = .returned (.int .i64 (hgt (concepts a rs) (concepts a rs).length)) ∧ Below w.heap.size w w' := by
  obtain ⟨i0, hinf, hy0, hy1, hy2⟩ := info_parts Ints.info
  obtain ⟨aa, ca, rfl⟩ := reads_form hr
  obtain ⟨l, hl⟩ : ∃ l, concepts a rs = l := ⟨_, rfl⟩
  have h256 := concepts_len a rs
  have hW := (Below.refl w.heap.size w).alloc (Nat.le_refl _) (.cells #[.int .i64 a, .slice aa rs.length ca] 26)
  have HO := Lib.hid (spec_concepts a _ rs B _ (hr.below hW hB) (by simp; omega))
  have HR := Lib.hid (hr.below hW hB)
  rw [hl] at h256 HO
  try rw [hl]
  have HLC := Lib.hid hl
  clear hl hr
  have q0 : (w.alloc (.cells #[.int .i64 a, .slice aa rs.length ca] 26)).cell? ⟨w.heap.size, 0, none⟩ = some (.int .i64 a) := by simp
  have q1 : (w.alloc (.cells #[.int .i64 a, .slice aa rs.length ca] 26)).cell? ⟨w.heap.size, 1, none⟩ = some (.slice aa rs.length ca) := by simp
  have hz : w.heap.size < (w.alloc (.cells #[.int .i64 a, .slice aa rs.length ca] 26)).heap.size := by simp
  go_enter Try.func72, Try.ntmps72
  go_upto_region 1 with fail
  generalize (w.alloc (.cells #[.int .i64 a, .slice aa rs.length ca] 26)) = V at hW HO HR q0 q1 hz ⊢
  go_wp2_with fail
  refine HO.out.mono ?_
  clear HO
  rintro e w1 ⟨u, rfl, hu, bb⟩
  obtain ⟨ap, cp, rfl⟩ := hu.form
  have HU := Lib.hid hu.reads
  have hW1 := hW.trans (bb.mono (Nat.le_of_lt hz))
  have hz1 := bb.size
  have HR1 := Lib.hid (HR.out.below bb (by omega))
  have p0 := (bb.cell (p := ⟨w.heap.size, 0, none⟩) hz).trans q0
  have p1 := (bb.cell (p := ⟨w.heap.size, 1, none⟩) hz).trans q1
  clear hu bb hW q0 q1 HR
  obtain ⟨n, hn⟩ : ∃ n, l.length = n := ⟨_, rfl⟩
  have HN := Lib.hid hn
  rw [hn] at h256
  rw [hn]
  clear hn
  clear p0 p1 HR1
  have HUN : Hid (∀ i j, i < n → j < n → und' l i j = und l i j) := Lib.hid (fun i j hi hj => by
    have := und_eq (a := a) (rs := rs) (i := i) (j := j) (by rw [HLC.out, HN.out]; exact hi) (by rw [HLC.out, HN.out]; exact hj)
    rw [HLC.out] at this
    exact this.symm)
  have hO0 : ((w1.alloc (.cells #[] 3))).ownsRow w1.heap.size 3 1 (.slice (some ⟨w1.heap.size, 0, none⟩) 0 0) 0 [] := by
    have := World.ownsRow_lit w1 (e := 3) (size := 1) (base := w1.heap.size) #[] 0 (by simp) (Nat.zero_le _) rfl
    simpa using this
  have hb0 := (Below.refl w1.heap.size w1).alloc (Nat.le_refl _) (.cells #[] 3)
  go_wp2_with fail
  generalize (w1.alloc (.cells #[] 3)) = V at hO0 hb0 ⊢
  go_loopw [4, 5, 6] (fun t h j wr => ∃ k : Nat, j = .int .i64 k ∧ h = .int .i64 (hgt l k) ∧ k ≤ n ∧ Hid (wr.ownsRow w1.heap.size 3 1 t k (ints (nats (deps l k)))) ∧ Hid (Below w1.heap.size w1 wr)) (fun _ _ j _ => n - (intOf j).toNat)
  case atStart => exact ⟨0, rfl, rfl, by omega, Lib.hid hO0, Lib.hid hb0⟩
  case round =>
    obtain ⟨k, rfl, rfl, hk, ho, hb⟩ := hrel
    clear hO0 hb0
    by_cases hkn : k < n
    · obtain ⟨av, cv, rfl⟩ := rowP_form ho.out
      have hgb := hgt_le l k
      obtain ⟨hh, hhe⟩ : ∃ hh, hgt l k = hh := ⟨_, rfl⟩
      rw [hhe] at hgb ⊢
      have HHH := Lib.hid hhe
      clear hhe
      have hzr := hb.out.size
      have O3 := Lib.hid (ho.out.alloc (.cells #[.int .i64 0] 3))
      have D3 := Lib.hid (hb.out.alloc hzr (.cells #[.int .i64 0] 3))
      have HK1 : Hid (k + 1 ≤ maxLen) := Lib.hid (by unfold maxLen; omega)
      have HK2 : Hid ((k + 1) * 8 ≤ 140737488355328) := Lib.hid (by omega)
      go_wp2_with (at_builtin; refine wpList_append_lies _ rfl _ _ _ rfl w1.heap.size 3 i0 (.int .i64 0) 1 8 Try.underlying24 hinf hy0 hy1 hy2 rfl (by decide) _ k _ rfl O3.out ⟨wr.heap.size, 0, none⟩ 1 1 [.int .i64 0] rfl rfl (news1 _ _ _) (one1 _ _) Nat.one_pos HK1.out HK2.out (by simp; omega) _ rfl ?_)
      intro g cap w4 hown hgrow hat hlt4
      have D4 := D3.out.grown hgrow (by simp; omega) (fun q hq => (O3.out.lt q hq).1)
      have O4 : Hid (w4.ownsRow w1.heap.size 3 1 (.slice (some ⟨g, 0, none⟩) (k + 1) cap) (k + 1) (ints (nats (deps l k ++ [0])))) := Lib.hid (by simpa using hown)
      have hgw := (O4.out.lt g rfl).1
      have D5 := Lib.hid D4
      clear hown hgrow hat hlt4 D4 O3 D3 ho hb hzr
      obtain ⟨ds, hds⟩ : ∃ ds, deps l k = ds := ⟨_, rfl⟩
      have HDL : Hid (ds.length = k) := Lib.hid (by rw [← hds]; exact deps_len l k)
      have HDD : Hid (∀ j, j < k → ds.getD j 0 ≤ j) := Lib.hid (by rw [← hds]; exact deps_le l k)
      have HDS : Hid (deps l (k + 1) = ds ++ [stepD l ds k k]) := Lib.hid (by rw [← hds]; rfl)
      have HHS : Hid (hgt l (k + 1) = max hh ((stepD l ds k k : Nat) : Int)) := Lib.hid (by rw [← hds, ← HHH.out]; rfl)
      rw [hds] at O4
      clear hds
      go_wp2_with fail
      go_loopw [7] (fun j wi => ∃ m : Nat, j = .int .i64 m ∧ m ≤ k ∧ Hid (wi.ownsRow w1.heap.size 3 1 (.slice (some ⟨g, 0, none⟩) (k + 1) cap) (k + 1) (ints (nats (ds ++ [stepD l ds k m])))) ∧ Hid (Below w1.heap.size w1 wi)) (fun j _ => k - (intOf j).toNat)
      case atStart => exact ⟨0, rfl, by omega, O4, D5⟩
      case round =>
        obtain ⟨m, rfl, hm, ho, hb⟩ := hrel
        clear O4 D5
        have hst := stepD_le (l := l) (ds := ds) (k := k) (m := m) fun j hj => HDD.out j (by omega)
        have hzr := hb.out.size
        have HCur := ho.out.cellAt k (by omega)
        rw [show (ints (nats (ds ++ [stepD l ds k m])))[k]? = some (.int .i64 (stepD l ds k m : Nat)) by simp [HDL.out]] at HCur
        by_cases hmk : m < k
        · have hmn : m < n := by omega
          have HOm := ho.out.cellAt m (by omega)
          rw [show (ints (nats (ds ++ [stepD l ds k m])))[m]? = some (.int .i64 (ds.getD m 0 : Nat)) by
            have hml : m < ds.length := by rw [HDL.out]; exact hmk
            simp only [ints, nats, List.getElem?_map]
            rw [List.getElem?_append_left hml]
            simp [List.getElem?_eq_getElem hml]] at HOm
          have hdm := HDD.out m hmk
          obtain ⟨-, a', c', hform, hcells⟩ := HU.out
          obtain ⟨e1, -, -⟩ := Value.slice.inj hform
          subst e1
          clear hform
          obtain ⟨bk, of, rfl, hbk, hcl⟩ := hcells (fun e => by have := HN.out; rw [e] at this; simp at this; omega)
          obtain ⟨i0', i1'⟩ := hcl k (by rw [HN.out]; exact hkn)
          obtain ⟨j0', j1'⟩ := hcl m (by rw [HN.out]; exact hmn)
          clear hcl hcells
          have hbk1 : bk < w1.heap.size := hbk
          have e0 := (hb.out.cell (p := ⟨bk, of + k * 2, none⟩) hbk1).trans i0'
          have e1 := (hb.out.cell (p := ⟨bk, of + k * 2 + 1, none⟩) hbk1).trans i1'
          have e2 := (hb.out.cell (p := ⟨bk, of + m * 2, none⟩) hbk1).trans j0'
          have e3 := (hb.out.cell (p := ⟨bk, of + m * 2 + 1, none⟩) hbk1).trans j1'
          have q0 := fun p : Past wr => Past.cell (W := wr) e0 (show bk < wr.heap.size by omega) p
          have q1 := fun p : Past wr => Past.cell (W := wr) e1 (show bk < wr.heap.size by omega) p
          have q2 := fun p : Past wr => Past.cell (W := wr) e2 (show bk < wr.heap.size by omega) p
          have q3 := fun p : Past wr => Past.cell (W := wr) e3 (show bk < wr.heap.size by omega) p
          have HR0 : Hid (subB (l.getD k (0, 0)).1 (l.getD m (0, 0)).1 = und l k m) := Lib.hid (HUN.out k m hkn hmn)
          clear i0' i1' j0' j1' e0 e1 e2 e3
          generalize l.getD k (0, 0) = pk at *
          generalize l.getD m (0, 0) = pm at *
          have HP := Lib.hid fun p : Past wr => p.of (under_ pk pm p.w)
          rw [HR0.out] at HP
          rcases Bool.eq_false_or_eq_true (und l k m) with hc | hc
          · rw [hc] at HP
            have HS : Hid (stepD l ds k (m + 1) = Nat.max (stepD l ds k m) (ds.getD m 0 + 1)) := Lib.hid (by rw [stepD, if_pos hc])
            generalize ds.getD m 0 = d at HOm hdm HS
            generalize stepD l ds k m = z at hst HS HCur ho ⊢
            have hgb2 := (ho.out.lt g rfl).2
            clear hc
            go_wp2_with fail
            refine wp_region_past (by kernel_rfl) (by kernel_rfl) ?_
            repeat (go_big_quiet_step (with_reducible exact HP.out _))
            refine wpQuiet_nil ?_
            rintro _ ⟨p, rfl⟩
            have hbb := Lib.hid (hb.out.trans (p.h.mono hzr))
            have O5 := Lib.hid (rowP_same ho.out fun q hq => p.h.block q (ho.out.lt q hq).2)
            have z1 := (p.h.cell (p := ⟨g, k, none⟩) hgb2).trans HCur
            have z2 := (p.h.cell (p := ⟨g, m, none⟩) hgb2).trans HOm
            have f1 := O5.out.frozenAt k
            generalize p.w = w6 at hbb O5 z1 z2 f1 ⊢
            clear HCur HOm q0 q1 q2 q3 HP ho hb
            go_wp2_with fail
            have j0 : (0 : Int) ≤ (m : Int) := by omega
            have j1 : (m : Int) < (k : Int) + 1 := by omega
            have j2 : (0 : Int) ≤ (k : Int) := by omega
            have j3 : (k : Int) < (k : Int) + 1 := by omega
            go_region_with ((go_at_call 117; refine (max_ _ _ _).mono ?_; rintro e w' ⟨rfl, rfl⟩))
            all_goals have O7 := (O5.out.stored k (.int .i64 (max (z : Int) ((d : Int) + 1)))).1
            all_goals rw [setLast ds z (Nat.max z (d + 1)) k HDL.out (max (z : Int) ((d : Int) + 1)) (by rw [show Nat.max z (d + 1) = max z (d + 1) from rfl]; omega), ← HS.out] at O7
            all_goals have O8 := Lib.hid O7
            all_goals have H8 := Lib.hid ((hbb.out.setCell (p := ⟨g, k, none⟩) hgw (.int .i64 (max (z : Int) ((d : Int) + 1)))).drew)
            all_goals clear O7 O5 hbb
            all_goals go_wp2_with fail
            all_goals exact ⟨⟨m + 1, by simp, by omega, O8, H8⟩, by simp only [intOf]; omega⟩
          · rw [hc] at HP
            have HS : Hid (stepD l ds k (m + 1) = stepD l ds k m) := Lib.hid (by rw [stepD, if_neg (by rw [hc]; simp)])
            clear hc
            go_wp2_with fail
            refine wp_region_past (by kernel_rfl) (by kernel_rfl) ?_
            repeat (go_big_quiet_step (with_reducible exact HP.out _))
            refine wpQuiet_nil ?_
            rintro _ ⟨p, rfl⟩
            have hbb := Lib.hid (hb.out.trans (p.h.mono hzr))
            have O5 := rowP_same ho.out fun q hq => p.h.block q (ho.out.lt q hq).2
            rw [← HS.out] at O5
            have O6 := Lib.hid O5
            clear O5
            generalize p.w = w6 at hbb O6 ⊢
            go_wp2_with fail
            exact ⟨⟨m + 1, by simp, by omega, O6, hbb⟩, by simp only [intOf]; omega⟩
        · have hmk2 : m = k := by omega
          subst hmk2
          have O6 := Lib.hid (show wr.ownsRow w1.heap.size 3 1 (.slice (some ⟨g, 0, none⟩) (m + 1) cap) (m + 1) (ints (nats (deps l (m + 1)))) by rw [HDS.out]; exact ho.out)
          generalize stepD l ds m m = z at hst HHS HCur
          have HM := Lib.hid (max_ hh z wr)
          go_wp2_with fail
          refine HM.out.mono ?_
          rintro e w' ⟨rfl, rfl⟩
          go_wp2_with fail
          exact ⟨⟨m + 1, by simp, by rw [HHS.out], by omega, O6, hb⟩, by simp only [intOf]; omega⟩
    · have hkn2 : k = n := by omega
      subst hkn2
      go_wp2_with fail
      go_ret
      exact ⟨by rw [HN.out]; rfl, hW1.trans (hb.out.mono (by omega))⟩
end Go.Proofs.Ytdkgmjbhkifcbaa.Tab
