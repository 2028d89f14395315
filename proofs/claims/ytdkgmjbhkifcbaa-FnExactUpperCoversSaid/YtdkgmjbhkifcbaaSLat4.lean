/-
  Chapter 6 of the model: meet, join, top, bottom, edges.
-/
import Derived.Test.YtdkgmjbhkifcbaaSLat3
import Derived.Test.YtdkgmjbhkifcbaaLatP
namespace Go.Proofs.Ytdkgmjbhkifcbaa.Tab
open Go Go.RowKit Mem Sets Ctx
set_option maxRecDepth 100000

set_option maxHeartbeats 1600000 in
theorem spec_meet (a : Int) (v : Value) (rs : List Int) (x y : Int) (B : Nat) (w : World) (hr : Reads w B v (ints rs)) (hB : B ≤ w.heap.size) :
    Calls Try.prog 60 #[ctx a v, .int .i64 x, .int .i64 y] w fun e w' => e = .returned (.int .i64 (meetS a rs x y)) ∧ Below w.heap.size w w' := by
  obtain ⟨aa, ca, rfl⟩ := reads_form hr
  obtain ⟨l, hl⟩ : ∃ l, concepts a rs = l := ⟨_, rfl⟩
  have h256 := concepts_len a rs
  have hW := (Below.refl w.heap.size w).alloc (Nat.le_refl _) (.cells #[.int .i64 a, .slice aa rs.length ca] 26)
  have HO := Lib.hid (spec_concepts a _ rs B _ (hr.below hW hB) (by simp; omega))
  have HR := Lib.hid (hr.below hW hB)
  rw [hl] at h256 HO
  try rw [hl]
  have HLC := Lib.hid hl
  clear hl hr
  have q0 : (w.alloc (.cells #[.int .i64 a, .slice aa rs.length ca] 26)).cell? ⟨w.heap.size, 0, none⟩ = some (.int .i64 a) := by simp
  have q1 : (w.alloc (.cells #[.int .i64 a, .slice aa rs.length ca] 26)).cell? ⟨w.heap.size, 1, none⟩ = some (.slice aa rs.length ca) := by simp
  have hz : w.heap.size < (w.alloc (.cells #[.int .i64 a, .slice aa rs.length ca] 26)).heap.size := by simp
  go_enter Try.func60, Try.ntmps60
  go_upto_region 1 with fail
  generalize (w.alloc (.cells #[.int .i64 a, .slice aa rs.length ca] 26)) = V at hW HO HR q0 q1 hz ⊢
  go_wp2_with fail
  refine HO.out.mono ?_
  clear HO
  rintro e w1 ⟨u, rfl, hu, bb⟩
  obtain ⟨ap, cp, rfl⟩ := hu.form
  have HU := Lib.hid hu.reads
  have hW1 := hW.trans (bb.mono (Nat.le_of_lt hz))
  have hz1 := bb.size
  have HR1 := Lib.hid (HR.out.below bb (by omega))
  have p0 := (bb.cell (p := ⟨w.heap.size, 0, none⟩) hz).trans q0
  have p1 := (bb.cell (p := ⟨w.heap.size, 1, none⟩) hz).trans q1
  clear hu bb hW q0 q1 HR
  obtain ⟨n, hn⟩ : ∃ n, l.length = n := ⟨_, rfl⟩
  have HN := Lib.hid hn
  rw [hn] at h256
  rw [hn]
  clear hn
  have H1 : Hid (∀ w, Calls Try.prog 113 #[.slice ap n cp, .int .i64 x] w fun e w' => e = .returned (.bool (exi l x)) ∧ w' = w) := Lib.hid (fun w => by rw [exi, HN.out]; exact exists_ ap n cp x w h256)
  have H2 : Hid (∀ w, Calls Try.prog 113 #[.slice ap n cp, .int .i64 y] w fun e w' => e = .returned (.bool (exi l y)) ∧ w' = w) := Lib.hid (fun w => by rw [exi, HN.out]; exact exists_ ap n cp y w h256)
  have p0' := fun p : Past w1 => Past.cell (W := w1) p0 (show w.heap.size < w1.heap.size by omega) p
  have p1' := fun p : Past w1 => Past.cell (W := w1) p1 (show w.heap.size < w1.heap.size by omega) p
  rcases Bool.eq_false_or_eq_true (exi l x) with hx | hx
  · rw [hx] at H1
    rcases Bool.eq_false_or_eq_true (exi l y) with hy | hy
    · rw [hy] at H2
      have hic : isCtx a rs = true := by
        obtain ⟨i, -, hi⟩ := exi_nat hx
        exact con_ctx (i := i) (by rw [HLC.out]; exact hi)
      have HIC := Lib.hid hic
      clear hic
      obtain ⟨i, rfl, hi⟩ := exi_nat hx
      obtain ⟨j, rfl, hj⟩ := exi_nat hy
      rw [HN.out] at hi hj
      obtain ⟨-, a', c', hform, hcells⟩ := HU.out
      obtain ⟨e1, -, -⟩ := Value.slice.inj hform
      subst e1
      clear hform
      obtain ⟨bk, of, rfl, hbk, hcl⟩ := hcells (fun e => by have := HN.out; rw [e] at this; simp at this; omega)
      obtain ⟨i0, i1⟩ := hcl i (by rw [HN.out]; exact hi)
      obtain ⟨j0, j1⟩ := hcl j (by rw [HN.out]; exact hj)
      clear hcl hcells
      have g0 := fun p : Past w1 => Past.cell i0 (by show bk < _; omega) p
      have g1 := fun p : Past w1 => Past.cell i1 (by show bk < _; omega) p
      have g2 := fun p : Past w1 => Past.cell j0 (by show bk < _; omega) p
      have g3 := fun p : Past w1 => Past.cell j1 (by show bk < _; omega) p
      clear i0 i1 j0 j1 p0 p1
      have hs : 0 ≤ bits .and .i64 (l.getD i (0, 0)).1 (l.getD j (0, 0)).1 ∧ bits .and .i64 (l.getD i (0, 0)).1 (l.getD j (0, 0)).1 ≤ 255 := by
        have h1 := ex_eq (a := a) (rs := rs) (i := i) (by rw [HLC.out, HN.out]; exact hi)
        have h2 := ex_eq (a := a) (rs := rs) (i := j) (by rw [HLC.out, HN.out]; exact hj)
        rw [HLC.out, ex] at h1 h2
        rw [h1, h2, and_nat _ _ (E_256 HIC.out _) (E_256 HIC.out _)]
        have := and_lt (E rs (it a rs i)) (E rs (it a rs j)) (E_256 HIC.out _)
        omega
      have HV : Hid (meetS a rs i j = atFrom l (intTo a rs (bits .and .i64 (l.getD i (0, 0)).1 (l.getD j (0, 0)).1) rs.length : Nat) 0 n) := Lib.hid (by rw [meetS, HLC.out, if_pos ⟨hx, hy⟩, HN.out]; rfl)
      generalize l.getD i (0, 0) = pi at *
      generalize l.getD j (0, 0) = pj at *
      have HI := Lib.hid fun p : Past w1 => p.of (l4Intent a (.slice aa rs.length ca) rs (bits .and .i64 pi.1 pj.1) B p.w (Past.reads HR1.out (by omega) p) (by have := p.size; omega) HIC.out hs)
      generalize hq : (intTo a rs (bits .and .i64 pi.1 pj.1) rs.length : Nat) = q at HI HV
      clear hs hq
      have HA := Lib.hid fun p : Past w1 => p.ofSame (at_ _ l q w1.heap.size p.w (HU.out.below p.h (Nat.le_refl _)) (by rw [HN.out]; exact h256))
      rw [HN.out] at HA
      clear hx hy
      go_wp2_with fail
      refine (H1.out _).mono ?_
      rintro e w' ⟨rfl, rfl⟩
      go_wp2_with fail
      refine (H2.out _).mono ?_
      rintro e w' ⟨rfl, rfl⟩
      go_upto_region 4 with fail
      refine wp_region_past (by kernel_rfl) (by kernel_rfl) ?_
      repeat (go_big_quiet_step (first | with_reducible exact HA.out _ | with_reducible exact HI.out _))
      refine wpQuiet_nil ?_
      rintro _ ⟨p, rfl⟩
      have hbb := hW1.trans (p.h.mono (by omega))
      go_wp2_with fail
      go_ret
      exact ⟨by rw [HV.out]; rfl, hbb⟩
    · rw [hy] at H2
      have HV : Hid (meetS a rs x y = -1) := Lib.hid (by rw [meetS, HLC.out, if_neg (by simp [hy])])
      clear hx hy
      go_wp2_with fail
      refine (H1.out _).mono ?_
      rintro e w' ⟨rfl, rfl⟩
      go_wp2_with fail
      refine (H2.out _).mono ?_
      rintro e w' ⟨rfl, rfl⟩
      go_wp2_with fail
      go_ret
      exact ⟨by rw [HV.out]; rfl, hW1⟩
  · rw [hx] at H1
    have HV : Hid (meetS a rs x y = -1) := Lib.hid (by rw [meetS, HLC.out, if_neg (by simp [hx])])
    clear hx
    go_wp2_with fail
    refine (H1.out _).mono ?_
    rintro e w' ⟨rfl, rfl⟩
    go_wp2_with fail
    go_ret
    exact ⟨by rw [HV.out]; rfl, hW1⟩
set_option maxHeartbeats 1600000 in
theorem spec_join (a : Int) (v : Value) (rs : List Int) (x y : Int) (B : Nat) (w : World) (hr : Reads w B v (ints rs)) (hB : B ≤ w.heap.size) :
    Calls Try.prog 61 #[ctx a v, .int .i64 x, .int .i64 y] w fun e w' => e = .returned (.int .i64 (joinS a rs x y)) ∧ Below w.heap.size w w' := by
  obtain ⟨aa, ca, rfl⟩ := reads_form hr
  obtain ⟨l, hl⟩ : ∃ l, concepts a rs = l := ⟨_, rfl⟩
  have h256 := concepts_len a rs
  have hW := (Below.refl w.heap.size w).alloc (Nat.le_refl _) (.cells #[.int .i64 a, .slice aa rs.length ca] 26)
  have HO := Lib.hid (spec_concepts a _ rs B _ (hr.below hW hB) (by simp; omega))
  have HR := Lib.hid (hr.below hW hB)
  rw [hl] at h256 HO
  try rw [hl]
  have HLC := Lib.hid hl
  clear hl hr
  have q0 : (w.alloc (.cells #[.int .i64 a, .slice aa rs.length ca] 26)).cell? ⟨w.heap.size, 0, none⟩ = some (.int .i64 a) := by simp
  have q1 : (w.alloc (.cells #[.int .i64 a, .slice aa rs.length ca] 26)).cell? ⟨w.heap.size, 1, none⟩ = some (.slice aa rs.length ca) := by simp
  have hz : w.heap.size < (w.alloc (.cells #[.int .i64 a, .slice aa rs.length ca] 26)).heap.size := by simp
  go_enter Try.func61, Try.ntmps61
  go_upto_region 1 with fail
  generalize (w.alloc (.cells #[.int .i64 a, .slice aa rs.length ca] 26)) = V at hW HO HR q0 q1 hz ⊢
  go_wp2_with fail
  refine HO.out.mono ?_
  clear HO
  rintro e w1 ⟨u, rfl, hu, bb⟩
  obtain ⟨ap, cp, rfl⟩ := hu.form
  have HU := Lib.hid hu.reads
  have hW1 := hW.trans (bb.mono (Nat.le_of_lt hz))
  have hz1 := bb.size
  have HR1 := Lib.hid (HR.out.below bb (by omega))
  have p0 := (bb.cell (p := ⟨w.heap.size, 0, none⟩) hz).trans q0
  have p1 := (bb.cell (p := ⟨w.heap.size, 1, none⟩) hz).trans q1
  clear hu bb hW q0 q1 HR
  obtain ⟨n, hn⟩ : ∃ n, l.length = n := ⟨_, rfl⟩
  have HN := Lib.hid hn
  rw [hn] at h256
  rw [hn]
  clear hn
  have H1 : Hid (∀ w, Calls Try.prog 113 #[.slice ap n cp, .int .i64 x] w fun e w' => e = .returned (.bool (exi l x)) ∧ w' = w) := Lib.hid (fun w => by rw [exi, HN.out]; exact exists_ ap n cp x w h256)
  have H2 : Hid (∀ w, Calls Try.prog 113 #[.slice ap n cp, .int .i64 y] w fun e w' => e = .returned (.bool (exi l y)) ∧ w' = w) := Lib.hid (fun w => by rw [exi, HN.out]; exact exists_ ap n cp y w h256)
  have p0' := fun p : Past w1 => Past.cell (W := w1) p0 (show w.heap.size < w1.heap.size by omega) p
  have p1' := fun p : Past w1 => Past.cell (W := w1) p1 (show w.heap.size < w1.heap.size by omega) p
  rcases Bool.eq_false_or_eq_true (exi l x) with hx | hx
  · rw [hx] at H1
    rcases Bool.eq_false_or_eq_true (exi l y) with hy | hy
    · rw [hy] at H2
      have hic : isCtx a rs = true := by
        obtain ⟨i, -, hi⟩ := exi_nat hx
        exact con_ctx (i := i) (by rw [HLC.out]; exact hi)
      have HIC := Lib.hid hic
      clear hic
      obtain ⟨i, rfl, hi⟩ := exi_nat hx
      obtain ⟨j, rfl, hj⟩ := exi_nat hy
      rw [HN.out] at hi hj
      obtain ⟨-, a', c', hform, hcells⟩ := HU.out
      obtain ⟨e1, -, -⟩ := Value.slice.inj hform
      subst e1
      clear hform
      obtain ⟨bk, of, rfl, hbk, hcl⟩ := hcells (fun e => by have := HN.out; rw [e] at this; simp at this; omega)
      obtain ⟨i0, i1⟩ := hcl i (by rw [HN.out]; exact hi)
      obtain ⟨j0, j1⟩ := hcl j (by rw [HN.out]; exact hj)
      clear hcl hcells
      have g0 := fun p : Past w1 => Past.cell i0 (by show bk < _; omega) p
      have g1 := fun p : Past w1 => Past.cell i1 (by show bk < _; omega) p
      have g2 := fun p : Past w1 => Past.cell j0 (by show bk < _; omega) p
      have g3 := fun p : Past w1 => Past.cell j1 (by show bk < _; omega) p
      clear i0 i1 j0 j1 p0 p1
      have HV : Hid (joinS a rs i j = atFrom l (bits .and .i64 (l.getD i (0, 0)).2 (l.getD j (0, 0)).2) 0 n) := Lib.hid (by rw [joinS, HLC.out, if_pos ⟨hx, hy⟩, HN.out]; rfl)
      generalize l.getD i (0, 0) = pi at *
      generalize l.getD j (0, 0) = pj at *
      have HA := Lib.hid fun p : Past w1 => p.ofSame (at_ _ l (bits .and .i64 pi.2 pj.2) w1.heap.size p.w (HU.out.below p.h (Nat.le_refl _)) (by rw [HN.out]; exact h256))
      rw [HN.out] at HA
      clear hx hy
      go_wp2_with fail
      refine (H1.out _).mono ?_
      rintro e w' ⟨rfl, rfl⟩
      go_wp2_with fail
      refine (H2.out _).mono ?_
      rintro e w' ⟨rfl, rfl⟩
      go_upto_region 4 with fail
      refine wp_region_past (by kernel_rfl) (by kernel_rfl) ?_
      repeat (go_big_quiet_step (first | with_reducible exact HA.out _))
      refine wpQuiet_nil ?_
      rintro _ ⟨p, rfl⟩
      have hbb := hW1.trans (p.h.mono (by omega))
      go_wp2_with fail
      go_ret
      exact ⟨by rw [HV.out]; rfl, hbb⟩
    · rw [hy] at H2
      have HV : Hid (joinS a rs x y = -1) := Lib.hid (by rw [joinS, HLC.out, if_neg (by simp [hy])])
      clear hx hy
      go_wp2_with fail
      refine (H1.out _).mono ?_
      rintro e w' ⟨rfl, rfl⟩
      go_wp2_with fail
      refine (H2.out _).mono ?_
      rintro e w' ⟨rfl, rfl⟩
      go_wp2_with fail
      go_ret
      exact ⟨by rw [HV.out]; rfl, hW1⟩
  · rw [hx] at H1
    have HV : Hid (joinS a rs x y = -1) := Lib.hid (by rw [joinS, HLC.out, if_neg (by simp [hx])])
    clear hx
    go_wp2_with fail
    refine (H1.out _).mono ?_
    rintro e w' ⟨rfl, rfl⟩
    go_wp2_with fail
    go_ret
    exact ⟨by rw [HV.out]; rfl, hW1⟩
theorem spec_top (a : Int) (v : Value) (rs : List Int) (B : Nat) (w : World) (hr : Reads w B v (ints rs)) (hB : B ≤ w.heap.size) :
    Calls Try.prog 68 #[ctx a v] w fun e w' => e = .returned (.int .i64 (if isCtx a rs = true then 0 else -1)) ∧ Below w.heap.size w w' := by
  obtain ⟨aa, ca, rfl⟩ := reads_form hr
  have hW := (Below.refl w.heap.size w).alloc (Nat.le_refl _) (.cells #[.int .i64 a, .slice aa rs.length ca] 26)
  have HO := Lib.hid (spec_isCtx a _ rs B _ (hr.below hW hB) (by simp; omega))
  clear hr
  go_enter Try.func68, Try.ntmps68
  cases hi : isCtx a rs
  all_goals rw [hi] at HO
  all_goals clear hi
  all_goals go_wp2_with fail
  all_goals refine HO.out.mono ?_
  all_goals rintro e w1 ⟨rfl, bb⟩
  all_goals have hW1 := hW.trans (bb.mono (by simp))
  all_goals clear bb hW HO
  all_goals go_wp2_with fail
  all_goals go_ret
  all_goals exact ⟨by rfl, hW1⟩
set_option maxHeartbeats 1600000 in
theorem spec_bottom (a : Int) (v : Value) (rs : List Int) (B : Nat) (w : World) (hr : Reads w B v (ints rs)) (hB : B ≤ w.heap.size) :
    Calls Try.prog 70 #[ctx a v] w fun e w' => e = .returned (.int .i64 (((concepts a rs).length : Int) - 1)) ∧ Below w.heap.size w w' := by
  obtain ⟨aa, ca, rfl⟩ := reads_form hr
  obtain ⟨l, hl⟩ : ∃ l, concepts a rs = l := ⟨_, rfl⟩
  have h256 := concepts_len a rs
  have hW := (Below.refl w.heap.size w).alloc (Nat.le_refl _) (.cells #[.int .i64 a, .slice aa rs.length ca] 26)
  have HO := Lib.hid (spec_concepts a _ rs B _ (hr.below hW hB) (by simp; omega))
  have HR := Lib.hid (hr.below hW hB)
  rw [hl] at h256 HO
  try rw [hl]
  have HLC := Lib.hid hl
  clear hl hr
  have q0 : (w.alloc (.cells #[.int .i64 a, .slice aa rs.length ca] 26)).cell? ⟨w.heap.size, 0, none⟩ = some (.int .i64 a) := by simp
  have q1 : (w.alloc (.cells #[.int .i64 a, .slice aa rs.length ca] 26)).cell? ⟨w.heap.size, 1, none⟩ = some (.slice aa rs.length ca) := by simp
  have hz : w.heap.size < (w.alloc (.cells #[.int .i64 a, .slice aa rs.length ca] 26)).heap.size := by simp
  go_enter Try.func70, Try.ntmps70
  go_upto_region 1 with fail
  generalize (w.alloc (.cells #[.int .i64 a, .slice aa rs.length ca] 26)) = V at hW HO HR q0 q1 hz ⊢
  go_wp2_with fail
  refine HO.out.mono ?_
  clear HO
  rintro e w1 ⟨u, rfl, hu, bb⟩
  obtain ⟨ap, cp, rfl⟩ := hu.form
  have HU := Lib.hid hu.reads
  have hW1 := hW.trans (bb.mono (Nat.le_of_lt hz))
  have hz1 := bb.size
  have HR1 := Lib.hid (HR.out.below bb (by omega))
  have p0 := (bb.cell (p := ⟨w.heap.size, 0, none⟩) hz).trans q0
  have p1 := (bb.cell (p := ⟨w.heap.size, 1, none⟩) hz).trans q1
  clear hu bb hW q0 q1 HR
  obtain ⟨n, hn⟩ : ∃ n, l.length = n := ⟨_, rfl⟩
  have HN := Lib.hid hn
  rw [hn] at h256
  rw [hn]
  clear hn
  clear p0 p1
  go_wp2_with fail
  go_ret
  exact ⟨by rw [HN.out]; rfl, hW1⟩
/-- The number of edges, as the model counts them. -/
def edS (l : List PInt) : Nat → Nat
  | 0 => 0
  | k + 1 => edS l k + (covL l true k).length
theorem covL_len (l : List PInt) (up : Bool) (x : Int) : (covL l up x).length ≤ l.length := by
  unfold covL
  split
  · exact covN_len _ _
  · simp
theorem edS_le (l : List PInt) (k : Nat) : edS l k ≤ k * l.length := by
  induction k with
  | zero => simp [edS]
  | succ k ih =>
    have := covL_len l true k
    rw [edS, Nat.succ_mul]
    omega
set_option maxHeartbeats 1600000 in
theorem spec_edges (a : Int) (v : Value) (rs : List Int) (B : Nat) (w : World) (hr : Reads w B v (ints rs)) (hB : B ≤ w.heap.size) :
    Calls Try.prog 74 #[ctx a v] w fun e w' => e = .returned (.int .i64 (edS (concepts a rs) (concepts a rs).length : Nat)) ∧ Below w.heap.size w w' := by
  obtain ⟨aa, ca, rfl⟩ := reads_form hr
  obtain ⟨l, hl⟩ : ∃ l, concepts a rs = l := ⟨_, rfl⟩
  have h256 := concepts_len a rs
  have hW := (Below.refl w.heap.size w).alloc (Nat.le_refl _) (.cells #[.int .i64 a, .slice aa rs.length ca] 26)
  have HO := Lib.hid (spec_concepts a _ rs B _ (hr.below hW hB) (by simp; omega))
  have HR := Lib.hid (hr.below hW hB)
  rw [hl] at h256 HO
  try rw [hl]
  have HLC := Lib.hid hl
  clear hl hr
  have q0 : (w.alloc (.cells #[.int .i64 a, .slice aa rs.length ca] 26)).cell? ⟨w.heap.size, 0, none⟩ = some (.int .i64 a) := by simp
  have q1 : (w.alloc (.cells #[.int .i64 a, .slice aa rs.length ca] 26)).cell? ⟨w.heap.size, 1, none⟩ = some (.slice aa rs.length ca) := by simp
  have hz : w.heap.size < (w.alloc (.cells #[.int .i64 a, .slice aa rs.length ca] 26)).heap.size := by simp
  go_enter Try.func74, Try.ntmps74
  go_upto_region 1 with fail
  generalize (w.alloc (.cells #[.int .i64 a, .slice aa rs.length ca] 26)) = V at hW HO HR q0 q1 hz ⊢
  go_wp2_with fail
  refine HO.out.mono ?_
  clear HO
  rintro e w1 ⟨u, rfl, hu, bb⟩
  obtain ⟨ap, cp, rfl⟩ := hu.form
  have HU := Lib.hid hu.reads
  have hW1 := hW.trans (bb.mono (Nat.le_of_lt hz))
  have hz1 := bb.size
  have HR1 := Lib.hid (HR.out.below bb (by omega))
  have p0 := (bb.cell (p := ⟨w.heap.size, 0, none⟩) hz).trans q0
  have p1 := (bb.cell (p := ⟨w.heap.size, 1, none⟩) hz).trans q1
  clear hu bb hW q0 q1 HR
  obtain ⟨n, hn⟩ : ∃ n, l.length = n := ⟨_, rfl⟩
  have HN := Lib.hid hn
  rw [hn] at h256
  rw [hn]
  clear hn
  clear p0 p1
  have HE := Lib.hid (fun k => edS_le l k)
  have HC := Lib.hid fun (k : Nat) (w' : World) (hb : Below w1.heap.size w1 w') => covers_ (.slice ap l.length cp) l k true w1.heap.size w' (HU.out.below hb (Nat.le_refl _)) hb.size (by rw [HN.out]; exact h256)
  rw [HN.out] at HC
  go_wp2_with fail
  go_loopw [4, 5] (fun t j wr => ∃ k : Nat, j = .int .i64 k ∧ t = .int .i64 (edS l k : Nat) ∧ k ≤ n ∧ Hid (Below w1.heap.size w1 wr)) (fun _ j _ => n - (intOf j).toNat)
  case atStart => exact ⟨0, rfl, rfl, by omega, Lib.hid (Below.refl _ _)⟩
  case round =>
    obtain ⟨k, rfl, rfl, hk, hb⟩ := hrel
    by_cases hkn : k < n
    · have hEk := HE.out k
      rw [HN.out] at hEk
      have hkk : k * n ≤ 65536 := Nat.mul_le_mul (show k ≤ 256 by omega) h256
      have HF : Hid (edS l (k + 1) = edS l k + (covL l true k).length) := Lib.hid rfl
      have hcl := covL_len l true k
      rw [HN.out] at hcl
      generalize edS l k = s at hEk HF ⊢
      have hsb : s ≤ 65536 := by omega
      have HCk := Lib.hid (HC.out k wr hb.out)
      clear hEk hkk
      go_wp2_with fail
      refine HCk.out.mono ?_
      rintro e w3 ⟨u, rfl, ho, b3⟩
      obtain ⟨au, cu, rfl⟩ := own_form ho
      have b3' := Lib.hid (hb.out.trans (b3.mono hb.out.size))
      clear ho b3 HCk
      generalize (covL l true k).length = z at hcl HF ⊢
      go_wp2_with fail
      exact ⟨⟨k + 1, by simp, congrArg (Value.int .i64) (by have := HF.out; omega), by omega, b3'⟩, by simp only [intOf]; omega⟩
    · have hkn2 : k = n := by omega
      subst hkn2
      go_wp2_with fail
      go_ret
      exact ⟨by rw [HN.out]; rfl, hW1.trans (hb.out.mono (by omega))⟩
end Go.Proofs.Ytdkgmjbhkifcbaa.Tab
