/-
  Chapter 6 of the program: UpperCovers, LowerCovers, CountEdges.
-/
import Derived.Test.YtdkgmjbhkifcbaaLat4
namespace Go.Proofs.Ytdkgmjbhkifcbaa.Tab
open Go Go.RowKit Mem Sets Ctx
set_option maxRecDepth 100000

/-- The numbers below k that have c. -/
def covN (c : Nat → Bool) (k : Nat) : List Int := ((List.range k).filter c).map fun b : Nat => (b : Int)
theorem covN_yes {c : Nat → Bool} {k : Nat} (h : c k = true) : covN c (k + 1) = covN c k ++ [(k : Int)] := by simp [covN, List.range_succ, h]
theorem covN_no {c : Nat → Bool} {k : Nat} (h : c k = false) : covN c (k + 1) = covN c k := by simp [covN, List.range_succ, h]
theorem covN_len (c : Nat → Bool) (k : Nat) : (covN c k).length ≤ k := by
  have := List.length_filter_le c (List.range k)
  simpa [covN] using this
/-- What covers i, and what i covers. -/
def upc (l : List PInt) (i : Nat) : Nat → Bool := fun b => isCov (above l) (below l) i b
def loc (l : List PInt) (i : Nat) : Nat → Bool := fun b => isCov (above l) (below l) b i
def upI (l : List PInt) (x : Int) : List Int := if exi l x = true then covN (upc l x.toNat) l.length else []
def loI (l : List PInt) (x : Int) : List Int := if exi l x = true then covN (loc l x.toNat) l.length else []
set_option maxHeartbeats 3200000 in
theorem impl_up (a : Int) (v : Value) (rs : List Int) (x : Int) (B : Nat) (w : World) (hr : Reads w B v (ints rs)) (hB : B ≤ w.heap.size) (hl64 : (concepts a rs).length ≤ 64) :
    Calls Try.prog 57 #[ctx a v, .int .i64 x] w fun e w' => ∃ u, e = .returned u ∧ Mem.Own 3 w' w.heap.size w'.heap.size u (ints (upI (concepts a rs) x)) ∧ Below w.heap.size w w' := by
  obtain ⟨i0, hinf, hy0, hy1, hy2⟩ := info_parts Ints.info
  obtain ⟨aa, ca, rfl⟩ := reads_form hr
  obtain ⟨l, hl⟩ : ∃ l, concepts a rs = l := ⟨_, rfl⟩
  obtain ⟨n, hn⟩ : ∃ n, l.length = n := ⟨_, rfl⟩
  have hW := (Below.refl w.heap.size w).alloc (Nat.le_refl _) (.cells #[.int .i64 a, .slice aa rs.length ca] 26)
  have HO := Lib.hid (order_at a _ rs B _ (hr.below hW hB) (by simp; omega) hl64 l hl n hn)
  rw [hl] at hl64 ⊢
  rw [hn] at hl64
  have HN := Lib.hid hn
  clear hl hn hr
  go_enter Try.func57, Try.ntmps57
  go_wp2_with fail
  refine HO.out.mono ?_
  clear HO
  rintro e w1 ⟨g1, g2, rfl, t1, t2, -, -, -, bb⟩
  have hW1 := hW.trans (bb.mono (by simp))
  have hz1 := bb.size
  simp only [World.size_alloc] at hz1
  clear hW bb
  have hg1 := t1.lt
  have hg2 := t2.lt
  have bo := BoxAt.new w1 81 #[sl g1 n, sl g2 n]
  have t1' := t1.alloc (.cells #[sl g1 n, sl g2 n] 81)
  have t2' := t2.alloc (.cells #[sl g1 n, sl g2 n] 81)
  have hW2 := hW1.alloc (by omega) (.cells #[sl g1 n, sl g2 n] 81)
  have hz2 : w1.heap.size < (w1.alloc (.cells #[sl g1 n, sl g2 n] 81)).heap.size := by simp
  go_upto_region 2 with fail
  generalize (w1.alloc (.cells #[sl g1 n, sl g2 n] 81)) = V at bo t1' t2' hW2 hz2 ⊢
  clear t1 t2 hW1
  have o0 := bo.cell 0
  have o1 := bo.cell 1
  simp only [List.getElem?_toArray, List.getElem?_cons_zero, List.getElem?_cons_succ] at o0 o1
  have k0 := fun p : Past V => Past.cell o0 (by show w1.heap.size < _; omega) p
  have k1 := fun p : Past V => Past.cell o1 (by show w1.heap.size < _; omega) p
  have H1 : Hid (∀ w, Calls Try.prog 109 #[ordV g1 g2 n, .int .i64 x] w fun e w' => e = .returned (.bool (exi l x)) ∧ Below w.heap.size w w') := Lib.hid (fun w => by rw [exi, HN.out]; exact has_ g1 g2 n x w)
  rcases Bool.eq_false_or_eq_true (exi l x) with hx | hx
  · obtain ⟨i, rfl, hi⟩ := exi_nat hx
    rw [HN.out] at hi
    rw [hx] at H1
    have HV : Hid (upI l i = covN (upc l i) n) := Lib.hid (by simp [upI, hx, HN.out])
    clear hx
    have hi64 : i < 64 := by omega
    have T1 := Lib.hid t1'
    have T2 := Lib.hid t2'
    clear t1' t2' bo
    go_wp2_with fail
    refine (H1.out V).mono ?_
    rintro e w2 ⟨rfl, b2⟩
    have q0 := k0 ⟨w2, b2⟩
    have q1 := k1 ⟨w2, b2⟩
    have hz3 := b2.size
    have b2' := b2
    go_wp2_with fail
    clear q0 q1 o0 o1
    go_loopw [6, 17] (fun t j wr => ∃ k : Nat, j = .int .i64 k ∧ k ≤ n ∧ Hid (wr.ownsRow V.heap.size 3 1 t (covN (upc l i) k).length (ints (covN (upc l i) k))) ∧ Hid (Below V.heap.size V wr)) (fun _ j _ => n - (intOf j).toNat)
    case atStart => exact ⟨0, rfl, by omega, Lib.hid (World.ownsRow_nil _ _ _ _), Lib.hid b2'⟩
    case round =>
      obtain ⟨k, rfl, hk, ho, hb⟩ := hrel
      clear b2' hz3 b2
      by_cases hkn : k < n
      · have m0 := k0 ⟨wr, hb.out⟩
        have m1 := k1 ⟨wr, hb.out⟩
        have hzr := hb.out.size
        have HIC := Lib.hid (isCover_ g1 g2 n i k (below l) (above l) wr (T1.out.below hb.out T1.out.lt) (T2.out.below hb.out T2.out.lt) hl64 (by omega) (by omega))
        rw [show isCov (above l) (below l) i k = upc l i k from rfl] at HIC
        rcases Bool.eq_false_or_eq_true (upc l i k) with hc | hc
        · rw [hc] at HIC
          have HC := Lib.hid hc
          clear hc
          have HL := Lib.hid (covN_len (upc l i) k)
          obtain ⟨z, hz⟩ : ∃ z, (covN (upc l i) k).length = z := ⟨_, rfl⟩
          obtain ⟨av, cv, rfl⟩ := rowP_form ho.out
          rw [hz] at ho HL
          rw [hz]
          have HZ := Lib.hid hz
          clear hz
          go_wp2_with fail
          refine HIC.out.mono ?_
          rintro e w3 ⟨rfl, b3⟩
          have b3' := hb.out.trans (b3.mono hzr)
          have hz3 := b3.size
          have O3 := Lib.hid ((rowP_same ho.out fun q hq => b3.block q (ho.out.lt q hq).2).alloc (.cells #[.int .i64 k] 3))
          have D3 := Lib.hid (b3'.alloc b3'.size (.cells #[.int .i64 k] 3))
          clear b3 b3' m0 m1
          have HK1 : Hid (z + 1 ≤ maxLen) := Lib.hid (by have := HL.out; unfold maxLen; omega)
          have HK2 : Hid ((z + 1) * 8 ≤ 140737488355328) := Lib.hid (by have := HL.out; omega)
          go_wp2_with (at_builtin; refine wpList_append_lies _ rfl _ _ _ rfl V.heap.size 3 i0 (.int .i64 0) 1 8 Try.underlying24 hinf hy0 hy1 hy2 rfl (by decide) _ z _ rfl O3.out ⟨w3.heap.size, 0, none⟩ 1 1 [.int .i64 (k : Int)] rfl rfl (news1 _ _ _) (one1 _ _) Nat.one_pos HK1.out HK2.out (by simp; omega) _ rfl ?_)
          intro g cap w4 hown hgrow hat hlt4
          have D4 := D3.out.grown hgrow (by simp; omega) (fun q hq => (O3.out.lt q hq).1)
          have O4 : Hid (w4.ownsRow V.heap.size 3 1 (.slice (some ⟨g, 0, none⟩) (z + 1) cap) (covN (upc l i) (k + 1)).length (ints (covN (upc l i) (k + 1)))) := Lib.hid (by rw [covN_yes HC.out, List.length_append, HZ.out, ints, List.map_append]; exact hown)
          have D5 := Lib.hid D4
          clear hown hgrow hat hlt4 D4 O3 D3
          go_wp2_with fail
          exact ⟨⟨k + 1, by simp, by omega, O4, D5⟩, by simp only [intOf]; omega⟩
        · rw [hc] at HIC
          have HC := Lib.hid hc
          clear hc
          go_wp2_with fail
          refine HIC.out.mono ?_
          rintro e w3 ⟨rfl, b3⟩
          have b3' := Lib.hid (hb.out.trans (b3.mono hzr))
          have O3 := Lib.hid (rowP_same ho.out fun q hq => b3.block q (ho.out.lt q hq).2)
          rw [show (covN (upc l i) k) = covN (upc l i) (k + 1) from (covN_no HC.out).symm] at O3
          clear b3 m0 m1
          go_wp2_with fail
          exact ⟨⟨k + 1, by simp, by omega, O3, b3'⟩, by simp only [intOf]; omega⟩
      · have hkn2 : k = n := by omega
        subst hkn2
        have HF := Lib.hid (Own.made ho.out)
        go_wp2_with fail
        go_ret
        exact ⟨_, rfl, by rw [HV.out]; exact HF.out.mono (by omega) (Nat.le_refl _), hW2.trans (hb.out.mono (by omega))⟩
  · rw [hx] at H1
    have HV : Hid (upI l x = []) := Lib.hid (by simp [upI, hx])
    clear hx
    go_wp2_with fail
    refine (H1.out V).mono ?_
    rintro e w2 ⟨rfl, b2⟩
    have b2' := b2
    clear b2
    go_wp2_with fail
    go_ret
    exact ⟨_, rfl, by rw [HV.out]; exact Own.made (World.ownsRow_nil _ _ _ _), hW2.trans (b2'.mono (by omega))⟩
set_option maxHeartbeats 3200000 in
theorem impl_lo (a : Int) (v : Value) (rs : List Int) (x : Int) (B : Nat) (w : World) (hr : Reads w B v (ints rs)) (hB : B ≤ w.heap.size) (hl64 : (concepts a rs).length ≤ 64) :
    Calls Try.prog 58 #[ctx a v, .int .i64 x] w fun e w' => ∃ u, e = .returned u ∧ Mem.Own 3 w' w.heap.size w'.heap.size u (ints (loI (concepts a rs) x)) ∧ Below w.heap.size w w' := by
  obtain ⟨i0, hinf, hy0, hy1, hy2⟩ := info_parts Ints.info
  obtain ⟨aa, ca, rfl⟩ := reads_form hr
  obtain ⟨l, hl⟩ : ∃ l, concepts a rs = l := ⟨_, rfl⟩
  obtain ⟨n, hn⟩ : ∃ n, l.length = n := ⟨_, rfl⟩
  have hW := (Below.refl w.heap.size w).alloc (Nat.le_refl _) (.cells #[.int .i64 a, .slice aa rs.length ca] 26)
  have HO := Lib.hid (order_at a _ rs B _ (hr.below hW hB) (by simp; omega) hl64 l hl n hn)
  rw [hl] at hl64 ⊢
  rw [hn] at hl64
  have HN := Lib.hid hn
  clear hl hn hr
  go_enter Try.func58, Try.ntmps58
  go_wp2_with fail
  refine HO.out.mono ?_
  clear HO
  rintro e w1 ⟨g1, g2, rfl, t1, t2, -, -, -, bb⟩
  have hW1 := hW.trans (bb.mono (by simp))
  have hz1 := bb.size
  simp only [World.size_alloc] at hz1
  clear hW bb
  have hg1 := t1.lt
  have hg2 := t2.lt
  have bo := BoxAt.new w1 81 #[sl g1 n, sl g2 n]
  have t1' := t1.alloc (.cells #[sl g1 n, sl g2 n] 81)
  have t2' := t2.alloc (.cells #[sl g1 n, sl g2 n] 81)
  have hW2 := hW1.alloc (by omega) (.cells #[sl g1 n, sl g2 n] 81)
  have hz2 : w1.heap.size < (w1.alloc (.cells #[sl g1 n, sl g2 n] 81)).heap.size := by simp
  go_upto_region 2 with fail
  generalize (w1.alloc (.cells #[sl g1 n, sl g2 n] 81)) = V at bo t1' t2' hW2 hz2 ⊢
  clear t1 t2 hW1
  have o0 := bo.cell 0
  have o1 := bo.cell 1
  simp only [List.getElem?_toArray, List.getElem?_cons_zero, List.getElem?_cons_succ] at o0 o1
  have k0 := fun p : Past V => Past.cell o0 (by show w1.heap.size < _; omega) p
  have k1 := fun p : Past V => Past.cell o1 (by show w1.heap.size < _; omega) p
  have H1 : Hid (∀ w, Calls Try.prog 109 #[ordV g1 g2 n, .int .i64 x] w fun e w' => e = .returned (.bool (exi l x)) ∧ Below w.heap.size w w') := Lib.hid (fun w => by rw [exi, HN.out]; exact has_ g1 g2 n x w)
  rcases Bool.eq_false_or_eq_true (exi l x) with hx | hx
  · obtain ⟨i, rfl, hi⟩ := exi_nat hx
    rw [HN.out] at hi
    rw [hx] at H1
    have HV : Hid (loI l i = covN (loc l i) n) := Lib.hid (by simp [loI, hx, HN.out])
    clear hx
    have hi64 : i < 64 := by omega
    have T1 := Lib.hid t1'
    have T2 := Lib.hid t2'
    clear t1' t2' bo
    go_wp2_with fail
    refine (H1.out V).mono ?_
    rintro e w2 ⟨rfl, b2⟩
    have q0 := k0 ⟨w2, b2⟩
    have q1 := k1 ⟨w2, b2⟩
    have hz3 := b2.size
    have b2' := b2
    go_wp2_with fail
    clear q0 q1 o0 o1
    go_loopw [6, 17] (fun t j wr => ∃ k : Nat, j = .int .i64 k ∧ k ≤ n ∧ Hid (wr.ownsRow V.heap.size 3 1 t (covN (loc l i) k).length (ints (covN (loc l i) k))) ∧ Hid (Below V.heap.size V wr)) (fun _ j _ => n - (intOf j).toNat)
    case atStart => exact ⟨0, rfl, by omega, Lib.hid (World.ownsRow_nil _ _ _ _), Lib.hid b2'⟩
    case round =>
      obtain ⟨k, rfl, hk, ho, hb⟩ := hrel
      clear b2' hz3 b2
      by_cases hkn : k < n
      · have m0 := k0 ⟨wr, hb.out⟩
        have m1 := k1 ⟨wr, hb.out⟩
        have hzr := hb.out.size
        have HIC := Lib.hid (isCover_ g1 g2 n k i (below l) (above l) wr (T1.out.below hb.out T1.out.lt) (T2.out.below hb.out T2.out.lt) hl64 (by omega) (by omega))
        rw [show isCov (above l) (below l) k i = loc l i k from rfl] at HIC
        rcases Bool.eq_false_or_eq_true (loc l i k) with hc | hc
        · rw [hc] at HIC
          have HC := Lib.hid hc
          clear hc
          have HL := Lib.hid (covN_len (loc l i) k)
          obtain ⟨z, hz⟩ : ∃ z, (covN (loc l i) k).length = z := ⟨_, rfl⟩
          obtain ⟨av, cv, rfl⟩ := rowP_form ho.out
          rw [hz] at ho HL
          rw [hz]
          have HZ := Lib.hid hz
          clear hz
          go_wp2_with fail
          refine HIC.out.mono ?_
          rintro e w3 ⟨rfl, b3⟩
          have b3' := hb.out.trans (b3.mono hzr)
          have hz3 := b3.size
          have O3 := Lib.hid ((rowP_same ho.out fun q hq => b3.block q (ho.out.lt q hq).2).alloc (.cells #[.int .i64 k] 3))
          have D3 := Lib.hid (b3'.alloc b3'.size (.cells #[.int .i64 k] 3))
          clear b3 b3' m0 m1
          have HK1 : Hid (z + 1 ≤ maxLen) := Lib.hid (by have := HL.out; unfold maxLen; omega)
          have HK2 : Hid ((z + 1) * 8 ≤ 140737488355328) := Lib.hid (by have := HL.out; omega)
          go_wp2_with (at_builtin; refine wpList_append_lies _ rfl _ _ _ rfl V.heap.size 3 i0 (.int .i64 0) 1 8 Try.underlying24 hinf hy0 hy1 hy2 rfl (by decide) _ z _ rfl O3.out ⟨w3.heap.size, 0, none⟩ 1 1 [.int .i64 (k : Int)] rfl rfl (news1 _ _ _) (one1 _ _) Nat.one_pos HK1.out HK2.out (by simp; omega) _ rfl ?_)
          intro g cap w4 hown hgrow hat hlt4
          have D4 := D3.out.grown hgrow (by simp; omega) (fun q hq => (O3.out.lt q hq).1)
          have O4 : Hid (w4.ownsRow V.heap.size 3 1 (.slice (some ⟨g, 0, none⟩) (z + 1) cap) (covN (loc l i) (k + 1)).length (ints (covN (loc l i) (k + 1)))) := Lib.hid (by rw [covN_yes HC.out, List.length_append, HZ.out, ints, List.map_append]; exact hown)
          have D5 := Lib.hid D4
          clear hown hgrow hat hlt4 D4 O3 D3
          go_wp2_with fail
          exact ⟨⟨k + 1, by simp, by omega, O4, D5⟩, by simp only [intOf]; omega⟩
        · rw [hc] at HIC
          have HC := Lib.hid hc
          clear hc
          go_wp2_with fail
          refine HIC.out.mono ?_
          rintro e w3 ⟨rfl, b3⟩
          have b3' := Lib.hid (hb.out.trans (b3.mono hzr))
          have O3 := Lib.hid (rowP_same ho.out fun q hq => b3.block q (ho.out.lt q hq).2)
          rw [show (covN (loc l i) k) = covN (loc l i) (k + 1) from (covN_no HC.out).symm] at O3
          clear b3 m0 m1
          go_wp2_with fail
          exact ⟨⟨k + 1, by simp, by omega, O3, b3'⟩, by simp only [intOf]; omega⟩
      · have hkn2 : k = n := by omega
        subst hkn2
        have HF := Lib.hid (Own.made ho.out)
        go_wp2_with fail
        go_ret
        exact ⟨_, rfl, by rw [HV.out]; exact HF.out.mono (by omega) (Nat.le_refl _), hW2.trans (hb.out.mono (by omega))⟩
  · rw [hx] at H1
    have HV : Hid (loI l x = []) := Lib.hid (by simp [loI, hx])
    clear hx
    go_wp2_with fail
    refine (H1.out V).mono ?_
    rintro e w2 ⟨rfl, b2⟩
    have b2' := b2
    clear b2
    go_wp2_with fail
    go_ret
    exact ⟨_, rfl, by rw [HV.out]; exact Own.made (World.ownsRow_nil _ _ _ _), hW2.trans (b2'.mono (by omega))⟩
/-- The number of edges from the first k concepts upwards. -/
def edN (l : List PInt) : Nat → Nat
  | 0 => 0
  | k + 1 => edN l k + (covN (upc l k) l.length).length
theorem edN_le (l : List PInt) (k : Nat) : edN l k ≤ k * l.length := by
  induction k with
  | zero => simp [edN]
  | succ k ih =>
    have := covN_len (upc l k) l.length
    rw [edN, Nat.succ_mul]
    omega
set_option maxHeartbeats 3200000 in
theorem impl_edges (a : Int) (v : Value) (rs : List Int) (B : Nat) (w : World) (hr : Reads w B v (ints rs)) (hB : B ≤ w.heap.size) (hl64 : (concepts a rs).length ≤ 64) :
    Calls Try.prog 73 #[ctx a v] w fun e w' => e = .returned (.int .i64 (edN (concepts a rs) (concepts a rs).length : Nat)) ∧ Below w.heap.size w w' := by
  obtain ⟨aa, ca, rfl⟩ := reads_form hr
  obtain ⟨l, hl⟩ : ∃ l, concepts a rs = l := ⟨_, rfl⟩
  obtain ⟨n, hn⟩ : ∃ n, l.length = n := ⟨_, rfl⟩
  have hW := (Below.refl w.heap.size w).alloc (Nat.le_refl _) (.cells #[.int .i64 a, .slice aa rs.length ca] 26)
  have HO := Lib.hid (order_at a _ rs B _ (hr.below hW hB) (by simp; omega) hl64 l hl n hn)
  rw [hl] at hl64 ⊢
  rw [hn] at hl64
  have HN := Lib.hid hn
  clear hl hn hr
  go_enter Try.func73, Try.ntmps73
  go_wp2_with fail
  refine HO.out.mono ?_
  clear HO
  rintro e w1 ⟨g1, g2, rfl, t1, t2, -, -, -, bb⟩
  have hW1 := hW.trans (bb.mono (by simp))
  have hz1 := bb.size
  simp only [World.size_alloc] at hz1
  clear hW bb
  have hg1 := t1.lt
  have hg2 := t2.lt
  have bo := BoxAt.new w1 81 #[sl g1 n, sl g2 n]
  have t1' := t1.alloc (.cells #[sl g1 n, sl g2 n] 81)
  have t2' := t2.alloc (.cells #[sl g1 n, sl g2 n] 81)
  have hW2 := hW1.alloc (by omega) (.cells #[sl g1 n, sl g2 n] 81)
  have hz2 : w1.heap.size < (w1.alloc (.cells #[sl g1 n, sl g2 n] 81)).heap.size := by simp
  go_upto_region 2 with fail
  generalize (w1.alloc (.cells #[sl g1 n, sl g2 n] 81)) = V at bo t1' t2' hW2 hz2 ⊢
  clear t1 t2 hW1
  have o0 := bo.cell 0
  have o1 := bo.cell 1
  simp only [List.getElem?_toArray, List.getElem?_cons_zero, List.getElem?_cons_succ] at o0 o1
  have k0 := fun p : Past V => Past.cell o0 (by show w1.heap.size < _; omega) p
  have k1 := fun p : Past V => Past.cell o1 (by show w1.heap.size < _; omega) p
  have T1 := Lib.hid t1'
  have T2 := Lib.hid t2'
  clear t1' t2' bo
  have HE := Lib.hid (fun k => edN_le l k)
  go_wp2_with fail
  clear o0 o1
  go_loopw [4, 12] (fun t j wr => ∃ k : Nat, j = .int .i64 k ∧ t = .int .i64 (edN l k : Nat) ∧ k ≤ n ∧ Hid (Below V.heap.size V wr)) (fun _ j _ => n - (intOf j).toNat)
  case atStart => exact ⟨0, rfl, rfl, by omega, Lib.hid (Below.refl _ _)⟩
  case round =>
    obtain ⟨k, rfl, rfl, hk, hb⟩ := hrel
    by_cases hkn : k < n
    · have m0 := k0 ⟨wr, hb.out⟩
      have m1 := k1 ⟨wr, hb.out⟩
      have hEk := HE.out k
      rw [HN.out] at hEk
      have hkk : k * n ≤ 4096 := Nat.mul_le_mul (show k ≤ 64 by omega) hl64
      obtain ⟨s, hs⟩ : ∃ s, edN l k = s := ⟨_, rfl⟩
      rw [hs] at hEk ⊢
      have HS := Lib.hid hs
      have hsb : s ≤ 4096 := by omega
      clear hs hEk hkk
      go_wp2_with fail
      clear m0 m1
      go_loopw [4, 18] (fun t j wr => ∃ m : Nat, j = .int .i64 m ∧ t = .int .i64 ((s + (covN (upc l k) m).length : Nat) : Int) ∧ m ≤ n ∧ Hid (Below V.heap.size V wr)) (fun _ j _ => n - (intOf j).toNat)
      case atStart => exact ⟨0, rfl, rfl, by omega, hb⟩
      case round =>
        obtain ⟨m, rfl, rfl, hm, hb2⟩ := hrel
        by_cases hmn : m < n
        · have m0 := k0 ⟨wr, hb2.out⟩
          have m1 := k1 ⟨wr, hb2.out⟩
          have hzr := hb2.out.size
          have HIC := Lib.hid (isCover_ g1 g2 n k m (below l) (above l) wr (T1.out.below hb2.out T1.out.lt) (T2.out.below hb2.out T2.out.lt) hl64 (by omega) (by omega))
          rw [show isCov (above l) (below l) k m = upc l k m from rfl] at HIC
          have HL := covN_len (upc l k) m
          rcases Bool.eq_false_or_eq_true (upc l k m) with hc | hc
          · rw [hc] at HIC
            have HC := Lib.hid (congrArg List.length (covN_yes hc))
            rw [List.length_append] at HC
            clear hc
            generalize (covN (upc l k) m).length = z at HL HC ⊢
            go_wp2_with fail
            refine HIC.out.mono ?_
            rintro e w3 ⟨rfl, b3⟩
            have b3' := Lib.hid (hb2.out.trans (b3.mono hzr))
            clear b3 m0 m1
            go_wp2_with fail
            exact ⟨⟨m + 1, by simp, congrArg (Value.int .i64) (by have := HC.out; simp only [List.length_cons, List.length_nil] at this; omega), by omega, b3'⟩, by simp only [intOf]; omega⟩
          · rw [hc] at HIC
            have HC := Lib.hid (congrArg List.length (covN_no hc))
            clear hc
            generalize (covN (upc l k) m).length = z at HL HC ⊢
            go_wp2_with fail
            refine HIC.out.mono ?_
            rintro e w3 ⟨rfl, b3⟩
            have b3' := Lib.hid (hb2.out.trans (b3.mono hzr))
            clear b3 m0 m1
            go_wp2_with fail
            exact ⟨⟨m + 1, by simp, congrArg (Value.int .i64) (by have := HC.out; omega), by omega, b3'⟩, by simp only [intOf]; omega⟩
        · have hmn2 : m = n := by omega
          subst hmn2
          have HF : Hid (edN l (k + 1) = s + (covN (upc l k) m).length) := Lib.hid (by rw [edN, HN.out, HS.out])
          generalize (covN (upc l k) m).length = z at HF ⊢
          go_wp2_with fail
          exact ⟨⟨k + 1, by simp, congrArg (Value.int .i64) (by have := HF.out; omega), by omega, hb2⟩, by simp only [intOf]; omega⟩
    · have hkn2 : k = n := by omega
      subst hkn2
      go_wp2_with fail
      go_ret
      exact ⟨by rw [HN.out]; rfl, hW2.trans (hb.out.mono (by omega))⟩
end Go.Proofs.Ytdkgmjbhkifcbaa.Tab
