/-
  Chapter 6 of the model: what its functions answer.
-/
import Derived.Test.YtdkgmjbhkifcbaaSLat2
namespace Go.Proofs.Ytdkgmjbhkifcbaa.Tab
open Go Go.RowKit Mem Sets Ctx
set_option maxRecDepth 100000

def isBelS (l : List PInt) (x y : Int) : Bool := exi l x && (exi l y && und' l x.toNat y.toNat)
set_option maxHeartbeats 1600000 in
theorem spec_isBelow (a : Int) (v : Value) (rs : List Int) (x y : Int) (B : Nat) (w : World) (hr : Reads w B v (ints rs)) (hB : B ≤ w.heap.size) :
    Calls Try.prog 66 #[ctx a v, .int .i64 x, .int .i64 y] w fun e w' => e = .returned (.bool (isBelS (concepts a rs) x y)) ∧ Below w.heap.size w w' := by
  obtain ⟨aa, ca, rfl⟩ := reads_form hr
  obtain ⟨l, hl⟩ : ∃ l, concepts a rs = l := ⟨_, rfl⟩
  have h256 := concepts_len a rs
  have hW := (Below.refl w.heap.size w).alloc (Nat.le_refl _) (.cells #[.int .i64 a, .slice aa rs.length ca] 26)
  have HO := Lib.hid (spec_concepts a _ rs B _ (hr.below hW hB) (by simp; omega))
  have HR := Lib.hid (hr.below hW hB)
  rw [hl] at h256 HO
  try rw [hl]
  have HLC := Lib.hid hl
  clear hl hr
  have q0 : (w.alloc (.cells #[.int .i64 a, .slice aa rs.length ca] 26)).cell? ⟨w.heap.size, 0, none⟩ = some (.int .i64 a) := by simp
  have q1 : (w.alloc (.cells #[.int .i64 a, .slice aa rs.length ca] 26)).cell? ⟨w.heap.size, 1, none⟩ = some (.slice aa rs.length ca) := by simp
  have hz : w.heap.size < (w.alloc (.cells #[.int .i64 a, .slice aa rs.length ca] 26)).heap.size := by simp
  go_enter Try.func66, Try.ntmps66
  go_upto_region 1 with fail
  generalize (w.alloc (.cells #[.int .i64 a, .slice aa rs.length ca] 26)) = V at hW HO HR q0 q1 hz ⊢
  go_wp2_with fail
  refine HO.out.mono ?_
  clear HO
  rintro e w1 ⟨u, rfl, hu, bb⟩
  obtain ⟨ap, cp, rfl⟩ := hu.form
  have HU := Lib.hid hu.reads
  have hW1 := hW.trans (bb.mono (Nat.le_of_lt hz))
  have hz1 := bb.size
  have HR1 := Lib.hid (HR.out.below bb (by omega))
  have p0 := (bb.cell (p := ⟨w.heap.size, 0, none⟩) hz).trans q0
  have p1 := (bb.cell (p := ⟨w.heap.size, 1, none⟩) hz).trans q1
  clear hu bb hW q0 q1 HR
  obtain ⟨n, hn⟩ : ∃ n, l.length = n := ⟨_, rfl⟩
  have HN := Lib.hid hn
  rw [hn] at h256
  rw [hn]
  clear hn
  have H1 : Hid (∀ w, Calls Try.prog 113 #[.slice ap n cp, .int .i64 x] w fun e w' => e = .returned (.bool (exi l x)) ∧ w' = w) := Lib.hid (fun w => by rw [exi, HN.out]; exact exists_ ap n cp x w h256)
  have H2 : Hid (∀ w, Calls Try.prog 113 #[.slice ap n cp, .int .i64 y] w fun e w' => e = .returned (.bool (exi l y)) ∧ w' = w) := Lib.hid (fun w => by rw [exi, HN.out]; exact exists_ ap n cp y w h256)
  have HP1 := Lib.hid fun p : Past w1 => p.ofSame (H1.out p.w)
  have HP2 := Lib.hid fun p : Past w1 => p.ofSame (H2.out p.w)
  clear H1 H2 p0 p1
  go_upto_region 2 with fail
  rcases Bool.eq_false_or_eq_true (exi l x) with hx | hx
  · rw [hx] at HP1
    rcases Bool.eq_false_or_eq_true (exi l y) with hy | hy
    · rw [hy] at HP2
      obtain ⟨i, rfl, hi⟩ := exi_nat hx
      obtain ⟨j, rfl, hj⟩ := exi_nat hy
      rw [HN.out] at hi hj
      obtain ⟨-, a', c', hform, hcells⟩ := HU.out
      obtain ⟨e1, -, -⟩ := Value.slice.inj hform
      subst e1
      clear hform
      obtain ⟨bk, of, rfl, hbk, hcl⟩ := hcells (fun e => by have := HN.out; rw [e] at this; simp at this; omega)
      obtain ⟨i0, i1⟩ := hcl i (by rw [HN.out]; exact hi)
      obtain ⟨j0, j1⟩ := hcl j (by rw [HN.out]; exact hj)
      clear hcl hcells
      have g0 := fun p : Past w1 => Past.cell i0 (by show bk < _; omega) p
      have g1 := fun p : Past w1 => Past.cell i1 (by show bk < _; omega) p
      have g2 := fun p : Past w1 => Past.cell j0 (by show bk < _; omega) p
      have g3 := fun p : Past w1 => Past.cell j1 (by show bk < _; omega) p
      clear i0 i1 j0 j1
      have HV : Hid (isBelS l i j = subB (l.getD i (0, 0)).1 (l.getD j (0, 0)).1) := Lib.hid (by rw [isBelS, hx, hy]; rfl)
      have HP3 := Lib.hid fun p : Past w1 => p.of (under_ (l.getD i (0, 0)) (l.getD j (0, 0)) p.w)
      clear hx hy
      generalize l.getD i (0, 0) = pi at *
      generalize l.getD j (0, 0) = pj at *
      generalize subB pi.1 pj.1 = r at HV HP3
      refine wp_region_past (by kernel_rfl) (by kernel_rfl) ?_
      repeat (go_big_quiet_step (first | with_reducible exact HP1.out _ | with_reducible exact HP2.out _ | with_reducible exact HP3.out _))
      refine wpQuiet_nil ?_
      rintro _ ⟨p, rfl⟩
      have hbb := hW1.trans (p.h.mono (by omega))
      go_wp2_with fail
      go_ret
      exact ⟨by rw [HV.out]; rfl, hbb⟩
    · rw [hy] at HP2
      have HV : Hid (isBelS l x y = false) := Lib.hid (by simp [isBelS, hy])
      clear hx hy
      refine wp_region_past (by kernel_rfl) (by kernel_rfl) ?_
      repeat (go_big_quiet_step (first | with_reducible exact HP1.out _ | with_reducible exact HP2.out _))
      refine wpQuiet_nil ?_
      rintro _ ⟨p, rfl⟩
      have hbb := hW1.trans (p.h.mono (by omega))
      go_wp2_with fail
      go_ret
      exact ⟨by rw [HV.out]; rfl, hbb⟩
  · rw [hx] at HP1
    have HV : Hid (isBelS l x y = false) := Lib.hid (by simp [isBelS, hx])
    clear hx
    refine wp_region_past (by kernel_rfl) (by kernel_rfl) ?_
    repeat (go_big_quiet_step (first | with_reducible exact HP1.out _))
    refine wpQuiet_nil ?_
    rintro _ ⟨p, rfl⟩
    have hbb := hW1.trans (p.h.mono (by omega))
    go_wp2_with fail
    go_ret
    exact ⟨by rw [HV.out]; rfl, hbb⟩
set_option maxHeartbeats 1600000 in
theorem spec_up (a : Int) (v : Value) (rs : List Int) (x : Int) (B : Nat) (w : World) (hr : Reads w B v (ints rs)) (hB : B ≤ w.heap.size) :
    Calls Try.prog 63 #[ctx a v, .int .i64 x] w fun e w' => ∃ u, e = .returned u ∧ Mem.Own 3 w' w.heap.size w'.heap.size u (ints (covL (concepts a rs) true x)) ∧ Below w.heap.size w w' := by
  obtain ⟨aa, ca, rfl⟩ := reads_form hr
  obtain ⟨l, hl⟩ : ∃ l, concepts a rs = l := ⟨_, rfl⟩
  have h256 := concepts_len a rs
  have hW := (Below.refl w.heap.size w).alloc (Nat.le_refl _) (.cells #[.int .i64 a, .slice aa rs.length ca] 26)
  have HO := Lib.hid (spec_concepts a _ rs B _ (hr.below hW hB) (by simp; omega))
  have HR := Lib.hid (hr.below hW hB)
  rw [hl] at h256 HO
  try rw [hl]
  have HLC := Lib.hid hl
  clear hl hr
  have q0 : (w.alloc (.cells #[.int .i64 a, .slice aa rs.length ca] 26)).cell? ⟨w.heap.size, 0, none⟩ = some (.int .i64 a) := by simp
  have q1 : (w.alloc (.cells #[.int .i64 a, .slice aa rs.length ca] 26)).cell? ⟨w.heap.size, 1, none⟩ = some (.slice aa rs.length ca) := by simp
  have hz : w.heap.size < (w.alloc (.cells #[.int .i64 a, .slice aa rs.length ca] 26)).heap.size := by simp
  go_enter Try.func63, Try.ntmps63
  go_upto_region 1 with fail
  generalize (w.alloc (.cells #[.int .i64 a, .slice aa rs.length ca] 26)) = V at hW HO HR q0 q1 hz ⊢
  go_wp2_with fail
  refine HO.out.mono ?_
  clear HO
  rintro e w1 ⟨u, rfl, hu, bb⟩
  obtain ⟨ap, cp, rfl⟩ := hu.form
  have HU := Lib.hid hu.reads
  have hW1 := hW.trans (bb.mono (Nat.le_of_lt hz))
  have hz1 := bb.size
  have HR1 := Lib.hid (HR.out.below bb (by omega))
  have p0 := (bb.cell (p := ⟨w.heap.size, 0, none⟩) hz).trans q0
  have p1 := (bb.cell (p := ⟨w.heap.size, 1, none⟩) hz).trans q1
  clear hu bb hW q0 q1 HR
  obtain ⟨n, hn⟩ : ∃ n, l.length = n := ⟨_, rfl⟩
  have HN := Lib.hid hn
  rw [hn] at h256
  rw [hn]
  clear hn
  have HC := Lib.hid (covers_ (.slice ap l.length cp) l x true w1.heap.size w1 HU.out (Nat.le_refl _) (by rw [HN.out]; exact h256))
  rw [HN.out] at HC
  clear p0 p1
  go_wp2_with fail
  refine HC.out.mono ?_
  rintro e w2 ⟨u2, rfl, ho, b2⟩
  have HF := Lib.hid (ho.mono (lo' := w.heap.size) (by omega) (Nat.le_refl _))
  have hbb := hW1.trans (b2.mono (by omega))
  clear ho b2 HC
  go_wp2_with fail
  go_ret
  exact ⟨_, rfl, HF.out, hbb⟩
set_option maxHeartbeats 1600000 in
theorem spec_lo (a : Int) (v : Value) (rs : List Int) (x : Int) (B : Nat) (w : World) (hr : Reads w B v (ints rs)) (hB : B ≤ w.heap.size) :
    Calls Try.prog 64 #[ctx a v, .int .i64 x] w fun e w' => ∃ u, e = .returned u ∧ Mem.Own 3 w' w.heap.size w'.heap.size u (ints (covL (concepts a rs) false x)) ∧ Below w.heap.size w w' := by
  obtain ⟨aa, ca, rfl⟩ := reads_form hr
  obtain ⟨l, hl⟩ : ∃ l, concepts a rs = l := ⟨_, rfl⟩
  have h256 := concepts_len a rs
  have hW := (Below.refl w.heap.size w).alloc (Nat.le_refl _) (.cells #[.int .i64 a, .slice aa rs.length ca] 26)
  have HO := Lib.hid (spec_concepts a _ rs B _ (hr.below hW hB) (by simp; omega))
  have HR := Lib.hid (hr.below hW hB)
  rw [hl] at h256 HO
  try rw [hl]
  have HLC := Lib.hid hl
  clear hl hr
  have q0 : (w.alloc (.cells #[.int .i64 a, .slice aa rs.length ca] 26)).cell? ⟨w.heap.size, 0, none⟩ = some (.int .i64 a) := by simp
  have q1 : (w.alloc (.cells #[.int .i64 a, .slice aa rs.length ca] 26)).cell? ⟨w.heap.size, 1, none⟩ = some (.slice aa rs.length ca) := by simp
  have hz : w.heap.size < (w.alloc (.cells #[.int .i64 a, .slice aa rs.length ca] 26)).heap.size := by simp
  go_enter Try.func64, Try.ntmps64
  go_upto_region 1 with fail
  generalize (w.alloc (.cells #[.int .i64 a, .slice aa rs.length ca] 26)) = V at hW HO HR q0 q1 hz ⊢
  go_wp2_with fail
  refine HO.out.mono ?_
  clear HO
  rintro e w1 ⟨u, rfl, hu, bb⟩
  obtain ⟨ap, cp, rfl⟩ := hu.form
  have HU := Lib.hid hu.reads
  have hW1 := hW.trans (bb.mono (Nat.le_of_lt hz))
  have hz1 := bb.size
  have HR1 := Lib.hid (HR.out.below bb (by omega))
  have p0 := (bb.cell (p := ⟨w.heap.size, 0, none⟩) hz).trans q0
  have p1 := (bb.cell (p := ⟨w.heap.size, 1, none⟩) hz).trans q1
  clear hu bb hW q0 q1 HR
  obtain ⟨n, hn⟩ : ∃ n, l.length = n := ⟨_, rfl⟩
  have HN := Lib.hid hn
  rw [hn] at h256
  rw [hn]
  clear hn
  have HC := Lib.hid (covers_ (.slice ap l.length cp) l x false w1.heap.size w1 HU.out (Nat.le_refl _) (by rw [HN.out]; exact h256))
  rw [HN.out] at HC
  clear p0 p1
  go_wp2_with fail
  refine HC.out.mono ?_
  rintro e w2 ⟨u2, rfl, ho, b2⟩
  have HF := Lib.hid (ho.mono (lo' := w.heap.size) (by omega) (Nat.le_refl _))
  have hbb := hW1.trans (b2.mono (by omega))
  clear ho b2 HC
  go_wp2_with fail
  go_ret
  exact ⟨_, rfl, HF.out, hbb⟩
end Go.Proofs.Ytdkgmjbhkifcbaa.Tab
