/-
  Chapter 6 of the program: the order of all concepts of a context, as two tables.
-/
import Derived.Test.YtdkgmjbhkifcbaaLat2
namespace Go.Proofs.Ytdkgmjbhkifcbaa.Tab
open Go Go.RowKit Mem Sets Ctx
set_option maxRecDepth 100000

def ex (l : List PInt) (i : Nat) : Int := (l.getD i (0, 0)).1
/-- Concept x is below concept y. -/
def und (l : List PInt) (x y : Nat) : Bool := decide (x < l.length) && (decide (y < l.length) && sub (ex l x) (ex l y))
/-- The same as far as the two loops have come. -/
def U (l : List PInt) (k m x y : Nat) : Bool := und l x y && (decide (x < k) || (decide (x = k) && decide (y < m)))
theorem U_zero (l : List PInt) (x y : Nat) : U l 0 0 x y = false := by simp [U]
theorem U_next (l : List PInt) (k x y : Nat) : U l k l.length x y = U l (k + 1) 0 x y := by
  rw [Bool.eq_iff_iff]
  simp [U, und]
  omega
theorem U_end (l : List PInt) (x y : Nat) : U l l.length 0 x y = und l x y := by
  rw [Bool.eq_iff_iff]
  simp [U, und]
  omega
theorem U_no (l : List PInt) {k m : Nat} (h : sub (ex l k) (ex l m) = false) (x y : Nat) : U l k (m + 1) x y = U l k m x y := by
  by_cases hxy : x = k ∧ y = m
  · obtain ⟨rfl, rfl⟩ := hxy
    simp [U, und, h]
  · rw [Bool.eq_iff_iff]
    simp [U]
    intro _
    omega
theorem U_yes (l : List PInt) {k m : Nat} (hk : k < l.length) (hm : m < l.length) (h : sub (ex l k) (ex l m) = true) (x y : Nat) : U l k (m + 1) x y = if x = k ∧ y = m then true else U l k m x y := by
  by_cases hxy : x = k ∧ y = m
  · obtain ⟨rfl, rfl⟩ := hxy
    simp [U, und, h, hk, hm]
  · rw [if_neg hxy, Bool.eq_iff_iff]
    simp [U]
    intro _
    omega
abbrev below (l : List PInt) : Nat → Nat → Bool := fun b x => und l x b
abbrev above (l : List PInt) : Nat → Nat → Bool := und l
theorem madeT (n : Nat) : madeCells (rowA fun _ => false) (n * 64) = tabA n fun _ _ => false := by
  apply Array.ext_getElem?
  intro i
  by_cases hi : i < n * 64
  · rw [tabA_get _ _ hi]
    simp only [madeCells, rowA_size, Array.getElem?_map, Array.getElem?_range, hi, if_true, Option.map_some, Option.some.injEq]
    have h2 : i % 64 < 64 := Nat.mod_lt _ (by omega)
    have := rowA_get (fun _ => false) h2
    simp [getElem!_def, this]
  · rw [Array.getElem?_eq_none (by rw [size_madeCells]; omega), Array.getElem?_eq_none (by rw [tabA_size]; omega)]
theorem runMake (n : Nat) (hn : n ≤ 64) (w : World) : (Instr.makeSlice 79 (.int .i64 (n : Int)) (.int .i64 (n : Int))).run Try.prog w = .ok (sl w.heap.size n) (w.alloc (.cells (tabA n fun _ _ => false) 85)) := by
  obtain ⟨i, h1, h2, h3, h4⟩ := info_parts infoT
  rw [run_makeSlice w 79 85 i (.agg (rowA fun _ => false)) Try.underlying79 h1 h2 .i64 .i64 n n (by omega) (Int.le_refl _) (by rw [h3]; omega) (by rw [h4]; omega) (by omega), h3, Int.toNat_natCast, boxT, madeT]
theorem three (w : World) (c1 c2 c3 : Array Value) (t1 t2 t3 : TypeId) :
    BoxAt (((w.alloc (.cells c1 t1)).alloc (.cells c2 t2)).alloc (.cells c3 t3)).drew w.heap.size t1 c1 ∧ BoxAt (((w.alloc (.cells c1 t1)).alloc (.cells c2 t2)).alloc (.cells c3 t3)).drew (w.heap.size + 1) t2 c2 ∧
    BoxAt (((w.alloc (.cells c1 t1)).alloc (.cells c2 t2)).alloc (.cells c3 t3)).drew (w.heap.size + 1 + 1) t3 c3 ∧ Below w.heap.size w (((w.alloc (.cells c1 t1)).alloc (.cells c2 t2)).alloc (.cells c3 t3)).drew := by
  have h2 := BoxAt.new (w.alloc (.cells c1 t1)) t2 c2
  have h3 := BoxAt.new ((w.alloc (.cells c1 t1)).alloc (.cells c2 t2)) t3 c3
  simp only [World.size_alloc] at h2 h3
  exact ⟨((BoxAt.new w t1 c1).alloc _).alloc _, h2.alloc _, h3, (((Below.refl w.heap.size w).alloc (Nat.le_refl _) _).alloc (by simp) _).alloc (by simp; omega) _ |>.drew⟩
set_option maxHeartbeats 3200000 in
theorem orderOf_ (a : Int) (v : Value) (rs : List Int) (B : Nat) (w : World) (hr : Reads w B v (ints rs)) (hB : B ≤ w.heap.size) (hl64 : (concepts a rs).length ≤ 64) :
    Calls Try.prog 108 #[ctx a v] w fun e w' => ∃ g1 g2, e = .returned (ordV g1 g2 (concepts a rs).length) ∧ BoxAt w' g1 85 (tabA (concepts a rs).length (below (concepts a rs))) ∧ BoxAt w' g2 85 (tabA (concepts a rs).length (above (concepts a rs))) ∧ w.heap.size ≤ g1 ∧ w.heap.size ≤ g2 ∧ g1 ≠ g2 ∧ Below w.heap.size w w' := by
  obtain ⟨aa, ca, rfl⟩ := reads_form hr
  have HR := Lib.hid hr
  clear hr
  have b0 := (BoxAt.new w 26 #[.int .i64 a, .slice aa rs.length ca]).alloc (.cells #[.slice none 0 0, .slice none 0 0] 81)
  have b1 := BoxAt.new (w.alloc (.cells #[.int .i64 a, .slice aa rs.length ca] 26)) 81 #[.slice none 0 0, .slice none 0 0]
  have hW := ((Below.refl w.heap.size w).alloc (Nat.le_refl _) (.cells #[.int .i64 a, .slice aa rs.length ca] 26)).alloc (by simp) (.cells #[.slice none 0 0, .slice none 0 0] 81)
  simp only [World.size_alloc] at b1
  go_enter Try.func108, Try.ntmps108
  go_upto_region 1 with fail
  have hz : w.heap.size + 2 ≤ ((w.alloc (.cells #[.int .i64 a, .slice aa rs.length ca] 26)).alloc (.cells #[.slice none 0 0, .slice none 0 0] 81)).heap.size := by simp
  generalize ((w.alloc (.cells #[.int .i64 a, .slice aa rs.length ca] 26)).alloc (.cells #[.slice none 0 0, .slice none 0 0] 81)) = W at b0 b1 hW hz ⊢
  have q0 := b0.cell 0
  have q1 := b0.cell 1
  simp only [List.getElem?_toArray, List.getElem?_cons_zero, List.getElem?_cons_succ] at q0 q1
  have HC := Lib.hid (fun v w h hB => impl_concepts a v rs B w h hB)
  obtain ⟨l, hlc⟩ : ∃ l, concepts a rs = l := ⟨_, rfl⟩
  have HLC := Lib.hid hlc
  rw [hlc] at HC hl64
  clear hlc
  go_wp2_with fail
  refine (HC.out _ W (HR.out.below hW hB) (by omega)).mono ?_
  rintro e w1 ⟨u, rfl, hu, bb⟩
  obtain ⟨ap, cp, rfl⟩ := hu.form
  have HU := Lib.hid hu.reads
  have b1' := b1.below bb b1.lt
  have hW1 := hW.trans (bb.mono (by omega))
  have hz1 := bb.size
  clear hu bb b1 hW b0 q0 q1 HR HC
  obtain ⟨n, hn⟩ : ∃ n, l.length = n := ⟨_, rfl⟩
  have HN := Lib.hid hn
  rw [hn] at hl64
  rw [hn]
  clear hn
  have hmk := fun w => runMake n hl64 w
  go_upto_region 2 with fail
  go_cut [4] (fun s4 wx => ∃ g1 g2 p, s4 = .pointer (some ⟨p, 0, none⟩) ∧ Hid (BoxAt wx p 81 #[sl g1 n, sl g2 n]) ∧ w1.heap.size ≤ g1 ∧ w1.heap.size ≤ g2 ∧ g1 ≠ g2 ∧ p ≠ g1 ∧ p ≠ g2 ∧ w1.heap.size ≤ p ∧ Hid (BoxAt wx g1 85 (tabA n fun _ _ => false)) ∧ Hid (BoxAt wx g2 85 (tabA n fun _ _ => false)) ∧ Hid (Below w1.heap.size w1 wx))
  case first =>
    go_region
    all_goals go_wp2
    all_goals go_meet
    all_goals refine ⟨_, _, _, rfl, (by first | exact Lib.hid (three _ _ _ _ _ _ _).1 | exact Lib.hid (three _ _ _ _ _ _ _).2.1 | exact Lib.hid (three _ _ _ _ _ _ _).2.2.1), ?_, ?_, ?_, ?_, ?_, ?_, ?_, ?_, Lib.hid (three _ _ _ _ _ _ _).2.2.2⟩
    all_goals first | omega | exact Lib.hid (three _ _ _ _ _ _ _).1 | exact Lib.hid (three _ _ _ _ _ _ _).2.1 | exact Lib.hid (three _ _ _ _ _ _ _).2.2.1
  case rest =>
  obtain ⟨g1, g2, p, rfl, P0, x1, x2, x3, x4, x5, x6, T1, T2, W0⟩ := hcut
  clear hmk
  go_wp2_with fail
  go_loopw [20] (fun i wr => ∃ k : Nat, i = .int .i64 k ∧ k ≤ n ∧ Hid (BoxAt wr p 81 #[sl g1 n, sl g2 n]) ∧ Hid (BoxAt wr g1 85 (tabA n fun b x => U l k 0 x b)) ∧ Hid (BoxAt wr g2 85 (tabA n fun x b => U l k 0 x b)) ∧ Hid (Below w1.heap.size w1 wr)) (fun i _ => n - (intOf i).toNat)
  case atStart => exact ⟨0, rfl, by omega, P0, Lib.hid (by simp only [U_zero]; exact T1.out), Lib.hid (by simp only [U_zero]; exact T2.out), W0⟩
  case round =>
    obtain ⟨k, rfl, hk, P1, A1, A2, W1⟩ := hrel
    clear P0 T1 T2 W0
    by_cases hkn : k < n
    · have hlne : l ≠ [] := fun e => by have := HN.out; rw [e] at this; simp at this; omega
      obtain ⟨-, a', c', hform, hcells⟩ := HU.out
      obtain ⟨e1, -, -⟩ := Value.slice.inj hform
      subst e1
      clear hform
      obtain ⟨bk, of, rfl, hbk, hcl⟩ := hcells hlne
      clear hcells
      have HCL := Lib.hid fun j (hj : j < n) => hcl j (by rw [HN.out]; exact hj)
      clear hcl hlne
      obtain ⟨ck0, ck1⟩ := HCL.out k hkn
      have ck0' := (W1.out.cell (p := ⟨bk, of + k * 2, none⟩) hbk).trans ck0
      have ck1' := (W1.out.cell (p := ⟨bk, of + k * 2 + 1, none⟩) hbk).trans ck1
      clear ck0 ck1
      obtain ⟨y, hy⟩ : ∃ y, (l.getD k (0, 0)).2 = y := ⟨_, rfl⟩
      obtain ⟨x, hx⟩ : ∃ x, ex l k = x := ⟨_, rfl⟩
      rw [show (l.getD k (0, 0)).1 = x from hx] at ck0'
      rw [hy] at ck1'
      have HX := Lib.hid hx
      clear hx hy
      have hg1 := A1.out.lt
      have hg2 := A2.out.lt
      have hp := P1.out.lt
      have bx := BoxAt.new wr 38 #[.int .i64 x, .int .i64 y]
      have P2 := P1.out.alloc (.cells #[.int .i64 x, .int .i64 y] 38)
      have A3 := A1.out.alloc (.cells #[.int .i64 x, .int .i64 y] 38)
      have A4 := A2.out.alloc (.cells #[.int .i64 x, .int .i64 y] 38)
      have W2 := W1.out.alloc W1.out.size (.cells #[.int .i64 x, .int .i64 y] 38)
      have hz2 : wr.heap.size < (wr.alloc (.cells #[.int .i64 x, .int .i64 y] 38)).heap.size := by simp
      go_upto_region 6 with fail
      generalize (wr.alloc (.cells #[.int .i64 x, .int .i64 y] 38)) = V at bx P2 A3 A4 W2 hz2 ⊢
      clear A1 A2 P1 ck0' ck1'
      go_wp2_with fail
      go_loopw [27] (fun i wi => ∃ m : Nat, i = .int .i64 m ∧ m ≤ n ∧ Hid (BoxAt wi p 81 #[sl g1 n, sl g2 n]) ∧ Hid (BoxAt wi g1 85 (tabA n fun b x => U l k m x b)) ∧ Hid (BoxAt wi g2 85 (tabA n fun x b => U l k m x b)) ∧ Hid (Below w1.heap.size w1 wi) ∧ Hid (BoxAt wi wr.heap.size 38 #[.int .i64 x, .int .i64 y])) (fun i _ => n - (intOf i).toNat)
      case atStart => exact ⟨0, rfl, by omega, Lib.hid P2, Lib.hid A3, Lib.hid A4, Lib.hid W2, Lib.hid bx⟩
      case round =>
        obtain ⟨m, rfl, hm, P3, A5, A6, W3, bx3⟩ := hrel
        clear P2 A3 A4 W2 bx
        by_cases hmn : m < n
        · obtain ⟨cm0, cm1⟩ := HCL.out m hmn
          have cm0' := (W3.out.cell (p := ⟨bk, of + m * 2, none⟩) hbk).trans cm0
          have cm1' := (W3.out.cell (p := ⟨bk, of + m * 2 + 1, none⟩) hbk).trans cm1
          clear cm0 cm1
          obtain ⟨y2, hy2⟩ : ∃ y2, (l.getD m (0, 0)).2 = y2 := ⟨_, rfl⟩
          obtain ⟨x2, hx2⟩ : ∃ x2, ex l m = x2 := ⟨_, rfl⟩
          rw [show (l.getD m (0, 0)).1 = x2 from hx2] at cm0'
          rw [hy2] at cm1'
          have HX2 := Lib.hid hx2
          clear hx2 hy2
          have hg1' := A5.out.lt
          have hg2' := A6.out.lt
          have hp' := P3.out.lt
          have by2 := BoxAt.new wr 38 #[.int .i64 x2, .int .i64 y2]
          have P4 := P3.out.alloc (.cells #[.int .i64 x2, .int .i64 y2] 38)
          have A7 := A5.out.alloc (.cells #[.int .i64 x2, .int .i64 y2] 38)
          have A8 := A6.out.alloc (.cells #[.int .i64 x2, .int .i64 y2] 38)
          have W4 := W3.out.alloc W3.out.size (.cells #[.int .i64 x2, .int .i64 y2] 38)
          have bx4 := bx3.out.alloc (.cells #[.int .i64 x2, .int .i64 y2] 38)
          have hz4 : wr.heap.size < (wr.alloc (.cells #[.int .i64 x2, .int .i64 y2] 38)).heap.size := by simp
          go_upto_region 9 with fail
          generalize (wr.alloc (.cells #[.int .i64 x2, .int .i64 y2] 38)) = V2 at by2 P4 A7 A8 W4 bx4 hz4 ⊢
          clear A5 A6 P3 W3 bx3 cm0' cm1'
          have e0 := bx4.cell 0
          have e1 := by2.cell 0
          have p0 := P4.cell 0
          have p1 := P4.cell 1
          simp only [List.getElem?_toArray, List.getElem?_cons_zero, List.getElem?_cons_succ] at e0 e1 p0 p1
          have HS := Lib.hid (impl_sub x x2 V2)
          rcases Bool.eq_false_or_eq_true (sub x x2) with hs | hs
          · have c1 : V2.cell? ⟨g1, m * 64 + k, none⟩ = some (.bool (U l k m k m)) := by rw [A7.cell, tabA_at _ _ hmn (by omega)]
            have c2 : V2.cell? ⟨g2, k * 64 + m, none⟩ = some (.bool (U l k m k m)) := by rw [A8.cell, tabA_at _ _ hkn (by omega)]
            have f1 := A7.free (m * 64 + k)
            have f2 := A8.free (k * 64 + m)
            have hk64 : k < 64 := by omega
            have hm64 : m < 64 := by omega
            have HU1 := Lib.hid (fun x y => U_yes l (k := k) (m := m) (by rw [HN.out]; exact hkn) (by rw [HN.out]; exact hmn) (by rw [HX.out, HX2.out]; exact hs) x y)
            rw [hs] at HS
            clear hs
            go_wp2_with fail
            refine HS.out.mono ?_
            rintro e w' ⟨rfl, rfl⟩
            go_wp2_with fail
            have A9 := (A7.set (m * 64 + k) (.bool true)).far (p := ⟨g2, k * 64 + m, none⟩) x3 (.bool true)
            have A10 := (A8.far (p := ⟨g1, m * 64 + k, none⟩) (Ne.symm x3) (.bool true)).set (k * 64 + m) (.bool true)
            rw [tabA_set _ _ hk64, show put (fun b x => U l k m x b) m k = fun b x => U l k (m + 1) x b by funext b x; rw [HU1.out, put]; simp only [and_comm]] at A9
            rw [tabA_set _ _ hm64, show put (fun x b => U l k m x b) k m = fun x b => U l k (m + 1) x b by funext x b; rw [HU1.out, put]] at A10
            exact ⟨⟨m + 1, by simp, by omega, Lib.hid ((P4.far (p := ⟨g1, m * 64 + k, none⟩) x4 _).far (p := ⟨g2, k * 64 + m, none⟩) x5 _), Lib.hid A9, Lib.hid A10, Lib.hid ((W4.setCell (p := ⟨g1, m * 64 + k, none⟩) x1 _).setCell (p := ⟨g2, k * 64 + m, none⟩) (by show w1.heap.size ≤ g2; omega) _), Lib.hid ((bx4.far (p := ⟨g1, m * 64 + k, none⟩) (Nat.ne_of_gt hg1) _).far (p := ⟨g2, k * 64 + m, none⟩) (Nat.ne_of_gt hg2) _)⟩, by simp only [intOf]; omega⟩
          · have HU1 := Lib.hid (fun x y => U_no l (k := k) (m := m) (by rw [HX.out, HX2.out]; exact hs) x y)
            rw [hs] at HS
            clear hs
            go_wp2_with fail
            refine HS.out.mono ?_
            rintro e w' ⟨rfl, rfl⟩
            go_wp2_with fail
            exact ⟨⟨m + 1, by simp, by omega, Lib.hid P4, Lib.hid (by simp only [HU1.out]; exact A7), Lib.hid (by simp only [HU1.out]; exact A8), Lib.hid W4, Lib.hid bx4⟩, by simp only [intOf]; omega⟩
        · have hmn2 : m = n := by omega
          subst hmn2
          have A7 := A5.out
          have A8 := A6.out
          rw [show (fun b x => U l k m x b) = fun b x => U l (k + 1) 0 x b by funext b x; rw [← U_next, HN.out]] at A7
          rw [show (fun x b => U l k m x b) = fun x b => U l (k + 1) 0 x b by funext x b; rw [← U_next, HN.out]] at A8
          go_wp2_with fail
          exact ⟨⟨k + 1, by simp, by omega, P3, Lib.hid A7, Lib.hid A8, W3⟩, by simp only [intOf]; omega⟩
    · have hkn2 : k = n := by omega
      subst hkn2
      have A1' : BoxAt wr g1 85 (tabA k (below l)) := by
        have := A1.out
        simp only [← HN.out, U_end] at this ⊢
        exact this
      have A2' : BoxAt wr g2 85 (tabA k (above l)) := by
        have := A2.out
        simp only [← HN.out, U_end] at this ⊢
        exact this
      have p0 := P1.out.cell 0
      have p1 := P1.out.cell 1
      have R1 := b1'.below W1.out b1'.lt
      have r0 := R1.cell 0
      have r1 := R1.cell 1
      have f0 := R1.free 0
      have f1 := R1.free 1
      simp only [List.getElem?_toArray, List.getElem?_cons_zero, List.getElem?_cons_succ] at p0 p1 r0 r1
      go_wp2_with fail
      have R2 : BoxAt ((wr.setCell ⟨w.heap.size + 1, 0, none⟩ (sl g1 k)).setCell ⟨w.heap.size + 1, 1, none⟩ (sl g2 k)) (w.heap.size + 1) 81 #[sl g1 k, sl g2 k] := (R1.set 0 (sl g1 k)).set 1 (sl g2 k)
      refine bodyPost_ret (v := ordV g1 g2 k) (results_cell_row rfl _ _ (w.heap.size + 1) 81 _ (0, 0) _ rfl R2 Try.underlying81 rfl (by kernel_rfl)) rfl ?_
      rw [HLC.out]
      refine ⟨g1, g2, by rw [HN.out], ?_, ?_, by omega, by omega, x3, ?_⟩
      · rw [HN.out]; exact (A1'.far (by show g1 ≠ w.heap.size + 1; omega) _).far (by show g1 ≠ w.heap.size + 1; omega) _
      · rw [HN.out]; exact (A2'.far (by show g2 ≠ w.heap.size + 1; omega) _).far (by show g2 ≠ w.heap.size + 1; omega) _
      · exact ((hW1.trans (W1.out.mono (by omega))).setCell (by show w.heap.size ≤ w.heap.size + 1; omega) _).setCell (by show w.heap.size ≤ w.heap.size + 1; omega) _
end Go.Proofs.Ytdkgmjbhkifcbaa.Tab
