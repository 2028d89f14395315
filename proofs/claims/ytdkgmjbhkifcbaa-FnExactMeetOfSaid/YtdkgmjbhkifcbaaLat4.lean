/-
  Chapter 6 of the program: IsBelow, MeetOf, JoinOf, TopOf, BottomOf.
-/
import Derived.Test.YtdkgmjbhkifcbaaLat3
namespace Go.Proofs.Ytdkgmjbhkifcbaa.Tab
open Go Go.RowKit Mem Sets Ctx
set_option maxRecDepth 100000

/-- Is there a concept k? -/
def exi (l : List PInt) (k : Int) : Bool := decide (0 ≤ k) && decide (k < l.length)
theorem exi_nat {l : List PInt} {k : Int} (h : exi l k = true) : ∃ j : Nat, k = j ∧ j < l.length := by
  simp [exi] at h
  exact ⟨k.toNat, by omega, by omega⟩
def isBel (l : List PInt) (x y : Int) : Bool := exi l x && (exi l y && und l x.toNat y.toNat)
/-- What all functions of the chapter start with: the order of the concepts. -/
theorem order_at (a : Int) (v : Value) (rs : List Int) (B : Nat) (w : World) (hr : Reads w B v (ints rs)) (hB : B ≤ w.heap.size) (hl64 : (concepts a rs).length ≤ 64) (l : List PInt) (hl : concepts a rs = l) (n : Nat) (hn : l.length = n) :
    Calls Try.prog 108 #[ctx a v] w fun e w' => ∃ g1 g2, e = .returned (ordV g1 g2 n) ∧ BoxAt w' g1 85 (tabA n (below l)) ∧ BoxAt w' g2 85 (tabA n (above l)) ∧ w.heap.size ≤ g1 ∧ w.heap.size ≤ g2 ∧ g1 ≠ g2 ∧ Below w.heap.size w w' := by
  subst hl
  subst hn
  exact orderOf_ a v rs B w hr hB hl64
set_option maxHeartbeats 1600000 in
theorem impl_isBelow (a : Int) (v : Value) (rs : List Int) (x y : Int) (B : Nat) (w : World) (hr : Reads w B v (ints rs)) (hB : B ≤ w.heap.size) (hl64 : (concepts a rs).length ≤ 64) :
    Calls Try.prog 65 #[ctx a v, .int .i64 x, .int .i64 y] w fun e w' => e = .returned (.bool (isBel (concepts a rs) x y)) ∧ Below w.heap.size w w' := by
  obtain ⟨aa, ca, rfl⟩ := reads_form hr
  obtain ⟨l, hl⟩ : ∃ l, concepts a rs = l := ⟨_, rfl⟩
  obtain ⟨n, hn⟩ : ∃ n, l.length = n := ⟨_, rfl⟩
  have hW := (Below.refl w.heap.size w).alloc (Nat.le_refl _) (.cells #[.int .i64 a, .slice aa rs.length ca] 26)
  have HO := Lib.hid (order_at a _ rs B _ (hr.below hW hB) (by simp; omega) hl64 l hl n hn)
  rw [hl] at hl64 ⊢
  rw [hn] at hl64
  have HN := Lib.hid hn
  clear hl hn hr
  go_enter Try.func65, Try.ntmps65
  go_wp2_with fail
  refine HO.out.mono ?_
  clear HO
  rintro e w1 ⟨g1, g2, rfl, t1, t2, -, -, -, bb⟩
  have hW1 := hW.trans (bb.mono (by simp))
  have hz1 := bb.size
  simp only [World.size_alloc] at hz1
  clear hW bb t2
  have hg1 := t1.lt
  have bo := BoxAt.new w1 81 #[sl g1 n, sl g2 n]
  have t1' := t1.alloc (.cells #[sl g1 n, sl g2 n] 81)
  have hW2 := hW1.alloc (by omega) (.cells #[sl g1 n, sl g2 n] 81)
  have hz2 : w1.heap.size < (w1.alloc (.cells #[sl g1 n, sl g2 n] 81)).heap.size := by simp
  go_upto_region 2 with fail
  generalize (w1.alloc (.cells #[sl g1 n, sl g2 n] 81)) = V at bo t1' hW2 hz2 ⊢
  clear t1 hW1
  have o0 := bo.cell 0
  have o1 := bo.cell 1
  simp only [List.getElem?_toArray, List.getElem?_cons_zero, List.getElem?_cons_succ] at o0 o1
  have H1 : Hid (∀ w, Calls Try.prog 109 #[ordV g1 g2 n, .int .i64 x] w fun e w' => e = .returned (.bool (exi l x)) ∧ Below w.heap.size w w') := Lib.hid (fun w => by rw [exi, HN.out]; exact has_ g1 g2 n x w)
  have H2 : Hid (∀ w, Calls Try.prog 109 #[ordV g1 g2 n, .int .i64 y] w fun e w' => e = .returned (.bool (exi l y)) ∧ Below w.heap.size w w') := Lib.hid (fun w => by rw [exi, HN.out]; exact has_ g1 g2 n y w)
  rcases Bool.eq_false_or_eq_true (exi l x) with hx | hx
  · rcases Bool.eq_false_or_eq_true (exi l y) with hy | hy
    · obtain ⟨i, rfl, hi⟩ := exi_nat hx
      obtain ⟨j, rfl, hj⟩ := exi_nat hy
      rw [HN.out] at hi hj
      rw [hx] at H1
      rw [hy] at H2
      have HV : Hid (isBel l i j = und l i j) := Lib.hid (by simp [isBel, hx, hy])
      clear hx hy
      obtain ⟨r, hr⟩ : ∃ r, und l i j = r := ⟨_, rfl⟩
      have c : V.cell? ⟨g1, j * 64 + i, none⟩ = some (.bool r) := by rw [t1'.cell, tabA_at _ _ hj (by omega)]; simp only [hr]
      rw [hr] at HV
      clear hr t1' bo
      have k0 := fun p : Past V => Past.cell o0 (by show w1.heap.size < _; omega) p
      have kc := fun p : Past V => Past.cell c (by show g1 < _; omega) p
      have k1 := fun p : Past V => Past.cell o1 (by show w1.heap.size < _; omega) p
      clear c
      have hi64 : i < 64 := by omega
      go_wp2_with fail
      refine (H1.out V).mono ?_
      rintro e w2 ⟨rfl, b2⟩
      have o2 := k0 ⟨w2, b2⟩
      have o4 := k1 ⟨w2, b2⟩
      have b2' := b2
      go_wp2_with fail
      refine (H2.out w2).mono ?_
      rintro e w3 ⟨rfl, b3⟩
      have b3' := b2'.trans (b3.mono b2'.size)
      have o3 := k0 ⟨w3, b3'⟩
      have c3 := kc ⟨w3, b3'⟩
      clear b3 b2 o2 o4 o0 o1
      go_wp2_with fail
      go_ret
      exact ⟨by rw [HV.out]; rfl, hW2.trans (b3'.mono (by omega))⟩
    · rw [hx] at H1
      rw [hy] at H2
      have HV : Hid (isBel l x y = false) := Lib.hid (by simp [isBel, hy])
      clear hx hy
      have k0 := fun p : Past V => Past.cell o0 (by show w1.heap.size < _; omega) p
      have k1 := fun p : Past V => Past.cell o1 (by show w1.heap.size < _; omega) p
      go_wp2_with fail
      refine (H1.out V).mono ?_
      rintro e w2 ⟨rfl, b2⟩
      have o2 := k0 ⟨w2, b2⟩
      have o4 := k1 ⟨w2, b2⟩
      have b2' := b2
      go_wp2_with fail
      refine (H2.out w2).mono ?_
      rintro e w3 ⟨rfl, b3⟩
      have b3' := b2'.trans (b3.mono b2'.size)
      clear b3 b2 o2 o4
      go_wp2_with fail
      go_ret
      exact ⟨by rw [HV.out]; rfl, hW2.trans (b3'.mono (by omega))⟩
  · rw [hx] at H1
    have HV : Hid (isBel l x y = false) := Lib.hid (by simp [isBel, hx])
    clear hx
    go_wp2_with fail
    refine (H1.out V).mono ?_
    rintro e w2 ⟨rfl, b2⟩
    have b2' := b2
    clear b2
    go_wp2_with fail
    go_ret
    exact ⟨by rw [HV.out]; rfl, hW2.trans (b2'.mono (by omega))⟩
def meetI (l : List PInt) (x y : Int) : Int := if exi l x = true ∧ exi l y = true then rowFrom (below l) (fun z => below l x.toNat z && below l y.toNat z) 0 l.length else -1
def joinI (l : List PInt) (x y : Int) : Int := if exi l x = true ∧ exi l y = true then rowFrom (above l) (fun z => above l x.toNat z && above l y.toNat z) 0 l.length else -1
set_option maxHeartbeats 1600000 in
theorem impl_meet (a : Int) (v : Value) (rs : List Int) (x y : Int) (B : Nat) (w : World) (hr : Reads w B v (ints rs)) (hB : B ≤ w.heap.size) (hl64 : (concepts a rs).length ≤ 64) :
    Calls Try.prog 54 #[ctx a v, .int .i64 x, .int .i64 y] w fun e w' => e = .returned (.int .i64 (meetI (concepts a rs) x y)) ∧ Below w.heap.size w w' := by
  obtain ⟨aa, ca, rfl⟩ := reads_form hr
  obtain ⟨l, hl⟩ : ∃ l, concepts a rs = l := ⟨_, rfl⟩
  obtain ⟨n, hn⟩ : ∃ n, l.length = n := ⟨_, rfl⟩
  have hW := (Below.refl w.heap.size w).alloc (Nat.le_refl _) (.cells #[.int .i64 a, .slice aa rs.length ca] 26)
  have HO := Lib.hid (order_at a _ rs B _ (hr.below hW hB) (by simp; omega) hl64 l hl n hn)
  rw [hl] at hl64 ⊢
  rw [hn] at hl64
  have HN := Lib.hid hn
  clear hl hn hr
  go_enter Try.func54, Try.ntmps54
  go_wp2_with fail
  refine HO.out.mono ?_
  clear HO
  rintro e w1 ⟨g1, g2, rfl, t1, t2, -, -, -, bb⟩
  have hW1 := hW.trans (bb.mono (by simp))
  have hz1 := bb.size
  simp only [World.size_alloc] at hz1
  clear hW bb
  have hg1 := t1.lt
  have hg2 := t2.lt
  have bo := BoxAt.new w1 81 #[sl g1 n, sl g2 n]
  have t1' := t1.alloc (.cells #[sl g1 n, sl g2 n] 81)
  have t2' := t2.alloc (.cells #[sl g1 n, sl g2 n] 81)
  have hW2 := hW1.alloc (by omega) (.cells #[sl g1 n, sl g2 n] 81)
  have hz2 : w1.heap.size < (w1.alloc (.cells #[sl g1 n, sl g2 n] 81)).heap.size := by simp
  go_upto_region 2 with fail
  generalize (w1.alloc (.cells #[sl g1 n, sl g2 n] 81)) = V at bo t1' t2' hW2 hz2 ⊢
  clear t1 t2 hW1
  have o0 := bo.cell 0
  have o1 := bo.cell 1
  simp only [List.getElem?_toArray, List.getElem?_cons_zero, List.getElem?_cons_succ] at o0 o1
  have k0 := fun p : Past V => Past.cell o0 (by show w1.heap.size < _; omega) p
  have k1 := fun p : Past V => Past.cell o1 (by show w1.heap.size < _; omega) p
  have H1 : Hid (∀ w, Calls Try.prog 109 #[ordV g1 g2 n, .int .i64 x] w fun e w' => e = .returned (.bool (exi l x)) ∧ Below w.heap.size w w') := Lib.hid (fun w => by rw [exi, HN.out]; exact has_ g1 g2 n x w)
  have H2 : Hid (∀ w, Calls Try.prog 109 #[ordV g1 g2 n, .int .i64 y] w fun e w' => e = .returned (.bool (exi l y)) ∧ Below w.heap.size w w') := Lib.hid (fun w => by rw [exi, HN.out]; exact has_ g1 g2 n y w)
  rcases Bool.eq_false_or_eq_true (exi l x) with hx | hx
  · rcases Bool.eq_false_or_eq_true (exi l y) with hy | hy
    · obtain ⟨i, rfl, hi⟩ := exi_nat hx
      obtain ⟨j, rfl, hj⟩ := exi_nat hy
      rw [HN.out] at hi hj
      rw [hx] at H1
      rw [hy] at H2
      have HV : Hid (meetI l i j = rowFrom (below l) (fun z => below l i z && below l j z) 0 n) := Lib.hid (by simp [meetI, hx, hy, HN.out])
      clear hx hy
      have TT := Lib.hid t1'
      clear t1' t2' bo
      have hi64 : i < 64 := by omega
      have hj64 : j < 64 := by omega
      go_wp2_with fail
      refine (H1.out V).mono ?_
      rintro e w2 ⟨rfl, b2⟩
      have o2 := k0 ⟨w2, b2⟩
      have o3 := k1 ⟨w2, b2⟩
      have b2' := b2
      go_wp2_with fail
      refine (H2.out w2).mono ?_
      rintro e w3 ⟨rfl, b3⟩
      have b3' := b2'.trans (b3.mono b2'.size)
      have q0 := k0 ⟨w3, b3'⟩
      have q1 := k1 ⟨w3, b3'⟩
      have hz3 := b3'.size
      have TT3 := Lib.hid (TT.out.below b3' TT.out.lt)
      clear b3 b2 o2 o3 o0 o1 k0 k1 TT
      have m0 := fun p : Past w3 => Past.cell (W := w3) q0 (show w1.heap.size < w3.heap.size by omega) p
      have m1 := fun p : Past w3 => Past.cell (W := w3) q1 (show w1.heap.size < w3.heap.size by omega) p
      go_upto_region 4 with fail
      clear q0 q1
      have r1 := past_range (tab_row TT3.out hi) TT3.out.lt
      have r2 := past_range (tab_row TT3.out hj) TT3.out.lt
      have HC := Lib.hid (fun p : Past w3 => p.of (common (below l i) (below l j) p.w))
      have HI := Lib.hid (fun p : Past w3 => p.of (index_ g1 n (below l) (fun z => below l i z && below l j z) p.w (TT3.out.below p.h TT3.out.lt) hl64))
      refine wp_region_past (by kernel_rfl) (by kernel_rfl) ?_
      repeat (first | (go_big_quiet_want; (first | refine quiet_loadT _ rfl g1 (i * 64) rfl (below l i) r1 ?_ | refine quiet_loadT _ rfl g1 (j * 64) rfl (below l j) r2 ?_); simp only [Act.put, List.setIfInBounds_toArray, List.set_cons_zero, List.set_cons_succ]; go_big_quiet_on) | go_big_quiet_step (first | with_reducible exact HC.out _ | with_reducible exact HI.out _))
      refine wpQuiet_nil ?_
      rintro _ ⟨p, rfl⟩
      have hbb := hW2.trans ((b3'.trans (p.h.mono hz3)).mono (by omega))
      go_wp2_with fail
      go_ret
      exact ⟨by rw [HV.out]; rfl, hbb⟩
    · rw [hx] at H1
      rw [hy] at H2
      have HV : Hid (meetI l x y = -1) := Lib.hid (by simp [meetI, hy])
      clear hx hy
      go_wp2_with fail
      refine (H1.out V).mono ?_
      rintro e w2 ⟨rfl, b2⟩
      have o2 := k0 ⟨w2, b2⟩
      have o4 := k1 ⟨w2, b2⟩
      have b2' := b2
      go_wp2_with fail
      refine (H2.out w2).mono ?_
      rintro e w3 ⟨rfl, b3⟩
      have b3' := b2'.trans (b3.mono b2'.size)
      clear b3 b2 o2 o4
      go_wp2_with fail
      go_ret
      exact ⟨by rw [HV.out]; rfl, hW2.trans (b3'.mono (by omega))⟩
  · rw [hx] at H1
    have HV : Hid (meetI l x y = -1) := Lib.hid (by simp [meetI, hx])
    clear hx
    go_wp2_with fail
    refine (H1.out V).mono ?_
    rintro e w2 ⟨rfl, b2⟩
    have b2' := b2
    clear b2
    go_wp2_with fail
    go_ret
    exact ⟨by rw [HV.out]; rfl, hW2.trans (b2'.mono (by omega))⟩
set_option maxHeartbeats 1600000 in
theorem impl_join (a : Int) (v : Value) (rs : List Int) (x y : Int) (B : Nat) (w : World) (hr : Reads w B v (ints rs)) (hB : B ≤ w.heap.size) (hl64 : (concepts a rs).length ≤ 64) :
    Calls Try.prog 55 #[ctx a v, .int .i64 x, .int .i64 y] w fun e w' => e = .returned (.int .i64 (joinI (concepts a rs) x y)) ∧ Below w.heap.size w w' := by
  obtain ⟨aa, ca, rfl⟩ := reads_form hr
  obtain ⟨l, hl⟩ : ∃ l, concepts a rs = l := ⟨_, rfl⟩
  obtain ⟨n, hn⟩ : ∃ n, l.length = n := ⟨_, rfl⟩
  have hW := (Below.refl w.heap.size w).alloc (Nat.le_refl _) (.cells #[.int .i64 a, .slice aa rs.length ca] 26)
  have HO := Lib.hid (order_at a _ rs B _ (hr.below hW hB) (by simp; omega) hl64 l hl n hn)
  rw [hl] at hl64 ⊢
  rw [hn] at hl64
  have HN := Lib.hid hn
  clear hl hn hr
  go_enter Try.func55, Try.ntmps55
  go_wp2_with fail
  refine HO.out.mono ?_
  clear HO
  rintro e w1 ⟨g1, g2, rfl, t1, t2, -, -, -, bb⟩
  have hW1 := hW.trans (bb.mono (by simp))
  have hz1 := bb.size
  simp only [World.size_alloc] at hz1
  clear hW bb
  have hg1 := t1.lt
  have hg2 := t2.lt
  have bo := BoxAt.new w1 81 #[sl g1 n, sl g2 n]
  have t1' := t1.alloc (.cells #[sl g1 n, sl g2 n] 81)
  have t2' := t2.alloc (.cells #[sl g1 n, sl g2 n] 81)
  have hW2 := hW1.alloc (by omega) (.cells #[sl g1 n, sl g2 n] 81)
  have hz2 : w1.heap.size < (w1.alloc (.cells #[sl g1 n, sl g2 n] 81)).heap.size := by simp
  go_upto_region 2 with fail
  generalize (w1.alloc (.cells #[sl g1 n, sl g2 n] 81)) = V at bo t1' t2' hW2 hz2 ⊢
  clear t1 t2 hW1
  have o0 := bo.cell 0
  have o1 := bo.cell 1
  simp only [List.getElem?_toArray, List.getElem?_cons_zero, List.getElem?_cons_succ] at o0 o1
  have k0 := fun p : Past V => Past.cell o0 (by show w1.heap.size < _; omega) p
  have k1 := fun p : Past V => Past.cell o1 (by show w1.heap.size < _; omega) p
  have H1 : Hid (∀ w, Calls Try.prog 109 #[ordV g1 g2 n, .int .i64 x] w fun e w' => e = .returned (.bool (exi l x)) ∧ Below w.heap.size w w') := Lib.hid (fun w => by rw [exi, HN.out]; exact has_ g1 g2 n x w)
  have H2 : Hid (∀ w, Calls Try.prog 109 #[ordV g1 g2 n, .int .i64 y] w fun e w' => e = .returned (.bool (exi l y)) ∧ Below w.heap.size w w') := Lib.hid (fun w => by rw [exi, HN.out]; exact has_ g1 g2 n y w)
  rcases Bool.eq_false_or_eq_true (exi l x) with hx | hx
  · rcases Bool.eq_false_or_eq_true (exi l y) with hy | hy
    · obtain ⟨i, rfl, hi⟩ := exi_nat hx
      obtain ⟨j, rfl, hj⟩ := exi_nat hy
      rw [HN.out] at hi hj
      rw [hx] at H1
      rw [hy] at H2
      have HV : Hid (joinI l i j = rowFrom (above l) (fun z => above l i z && above l j z) 0 n) := Lib.hid (by simp [joinI, hx, hy, HN.out])
      clear hx hy
      have TT := Lib.hid t2'
      clear t1' t2' bo
      have hi64 : i < 64 := by omega
      have hj64 : j < 64 := by omega
      go_wp2_with fail
      refine (H1.out V).mono ?_
      rintro e w2 ⟨rfl, b2⟩
      have o2 := k0 ⟨w2, b2⟩
      have o3 := k1 ⟨w2, b2⟩
      have b2' := b2
      go_wp2_with fail
      refine (H2.out w2).mono ?_
      rintro e w3 ⟨rfl, b3⟩
      have b3' := b2'.trans (b3.mono b2'.size)
      have q0 := k0 ⟨w3, b3'⟩
      have q1 := k1 ⟨w3, b3'⟩
      have hz3 := b3'.size
      have TT3 := Lib.hid (TT.out.below b3' TT.out.lt)
      clear b3 b2 o2 o3 o0 o1 k0 k1 TT
      have m0 := fun p : Past w3 => Past.cell (W := w3) q0 (show w1.heap.size < w3.heap.size by omega) p
      have m1 := fun p : Past w3 => Past.cell (W := w3) q1 (show w1.heap.size < w3.heap.size by omega) p
      go_upto_region 4 with fail
      clear q0 q1
      have r1 := past_range (tab_row TT3.out hi) TT3.out.lt
      have r2 := past_range (tab_row TT3.out hj) TT3.out.lt
      have HC := Lib.hid (fun p : Past w3 => p.of (common (above l i) (above l j) p.w))
      have HI := Lib.hid (fun p : Past w3 => p.of (index_ g2 n (above l) (fun z => above l i z && above l j z) p.w (TT3.out.below p.h TT3.out.lt) hl64))
      refine wp_region_past (by kernel_rfl) (by kernel_rfl) ?_
      repeat (first | (go_big_quiet_want; (first | refine quiet_loadT _ rfl g2 (i * 64) rfl (above l i) r1 ?_ | refine quiet_loadT _ rfl g2 (j * 64) rfl (above l j) r2 ?_); simp only [Act.put, List.setIfInBounds_toArray, List.set_cons_zero, List.set_cons_succ]; go_big_quiet_on) | go_big_quiet_step (first | with_reducible exact HC.out _ | with_reducible exact HI.out _))
      refine wpQuiet_nil ?_
      rintro _ ⟨p, rfl⟩
      have hbb := hW2.trans ((b3'.trans (p.h.mono hz3)).mono (by omega))
      go_wp2_with fail
      go_ret
      exact ⟨by rw [HV.out]; rfl, hbb⟩
    · rw [hx] at H1
      rw [hy] at H2
      have HV : Hid (joinI l x y = -1) := Lib.hid (by simp [joinI, hy])
      clear hx hy
      go_wp2_with fail
      refine (H1.out V).mono ?_
      rintro e w2 ⟨rfl, b2⟩
      have o2 := k0 ⟨w2, b2⟩
      have o4 := k1 ⟨w2, b2⟩
      have b2' := b2
      go_wp2_with fail
      refine (H2.out w2).mono ?_
      rintro e w3 ⟨rfl, b3⟩
      have b3' := b2'.trans (b3.mono b2'.size)
      clear b3 b2 o2 o4
      go_wp2_with fail
      go_ret
      exact ⟨by rw [HV.out]; rfl, hW2.trans (b3'.mono (by omega))⟩
  · rw [hx] at H1
    have HV : Hid (joinI l x y = -1) := Lib.hid (by simp [joinI, hx])
    clear hx
    go_wp2_with fail
    refine (H1.out V).mono ?_
    rintro e w2 ⟨rfl, b2⟩
    have b2' := b2
    clear b2
    go_wp2_with fail
    go_ret
    exact ⟨by rw [HV.out]; rfl, hW2.trans (b2'.mono (by omega))⟩
theorem impl_top (a : Int) (v : Value) (rs : List Int) (B : Nat) (w : World) (hr : Reads w B v (ints rs)) (hB : B ≤ w.heap.size) :
    Calls Try.prog 67 #[ctx a v] w fun e w' => e = .returned (.int .i64 (if isCtx a rs = true then 0 else -1)) ∧ Below w.heap.size w w' := by
  obtain ⟨aa, ca, rfl⟩ := reads_form hr
  have hW := (Below.refl w.heap.size w).alloc (Nat.le_refl _) (.cells #[.int .i64 a, .slice aa rs.length ca] 26)
  have HO := Lib.hid (impl_isCtx a _ rs B _ (hr.below hW hB) (by simp; omega))
  clear hr
  go_enter Try.func67, Try.ntmps67
  cases hi : isCtx a rs
  all_goals rw [hi] at HO
  all_goals clear hi
  all_goals go_wp2_with fail
  all_goals refine HO.out.mono ?_
  all_goals rintro e w1 ⟨rfl, bb⟩
  all_goals have hW1 := hW.trans (bb.mono (by simp))
  all_goals clear bb hW HO
  all_goals go_wp2_with fail
  all_goals go_ret
  all_goals exact ⟨by rfl, hW1⟩
theorem impl_bottom (a : Int) (v : Value) (rs : List Int) (B : Nat) (w : World) (hr : Reads w B v (ints rs)) (hB : B ≤ w.heap.size) (hl64 : (concepts a rs).length ≤ 64) :
    Calls Try.prog 69 #[ctx a v] w fun e w' => e = .returned (.int .i64 (((concepts a rs).length : Int) - 1)) ∧ Below w.heap.size w w' := by
  obtain ⟨aa, ca, rfl⟩ := reads_form hr
  have hW := (Below.refl w.heap.size w).alloc (Nat.le_refl _) (.cells #[.int .i64 a, .slice aa rs.length ca] 26)
  have HO := Lib.hid (impl_concepts a _ rs B _ (hr.below hW hB) (by simp; omega))
  generalize concepts a rs = l at HO hl64 ⊢
  clear hr
  go_enter Try.func69, Try.ntmps69
  go_wp2_with fail
  refine HO.out.mono ?_
  rintro e w1 ⟨u, rfl, hu, bb⟩
  obtain ⟨ap, cp, rfl⟩ := hu.form
  have hW1 := hW.trans (bb.mono (by simp))
  obtain ⟨n, hn⟩ : ∃ n, l.length = n := ⟨_, rfl⟩
  rw [hn] at hl64 ⊢
  have HN := Lib.hid hn
  clear bb hW HO hu hn
  go_wp2_with fail
  go_ret
  exact ⟨by rw [HN.out]; rfl, hW1⟩
end Go.Proofs.Ytdkgmjbhkifcbaa.Tab
