/-
  Chapter 5 of the model: the next closed set, the concept of a set, all concepts, one contract each.
-/
import Derived.Test.YtdkgmjbhkifcbaaDerive
import Derived.Test.YtdkgmjbhkifcbaaNext
import Derived.Test.YtdkgmjbhkifcbaaPConcept
import Derived.Test.YtdkgmjbhkifcbaaDual
namespace Go.Proofs.Ytdkgmjbhkifcbaa.Ctx
open Go Go.RowKit Mem Sets
set_option maxRecDepth 100000
attribute [local go_sem ↓] Go.wp_at_zero Go.wp_at_succ

abbrev conc (p : PInt) : Value := .agg #[.int .i64 p.1, .int .i64 p.2]
/-- A set, and whether there is one. -/
def optV (o : Option Nat) : Value := .tuple #[.int .i64 (o.getD 0 : Nat), .bool o.isSome]
theorem mod_full (s k : Nat) (hs : s < 256) (hk : k ≤ 8) : bits .and .i64 (s : Int) (full k) = ((s % 2 ^ k : Nat) : Int) := by
  rw [full_nat (by omega) (by omega), Int.toNat_natCast]
  have := pow_le8 hk
  have hp := Nat.pow_pos (n := k) (show 0 < 2 by omega)
  rw [and_nat s _ hs (by omega), Nat.and_two_pow_sub_one_eq_mod]

set_option maxHeartbeats 1600000 in
theorem l5Next (a : Int) (v : Value) (rs : List Int) (s : Nat) (B : Nat) (w : World) (hr : Reads w B v (ints rs)) (hB : B ≤ w.heap.size) (hi : isCtx a rs = true) (hs : s < 256) :
    Calls Try.prog 100 #[ctx a v, .int .i64 s] w fun e w' => e = .returned (optV (nextTo (clo a rs) s a.toNat)) ∧ Below w.heap.size w w' := by
  obtain ⟨aa, ca, rfl⟩ := reads_form hr
  obtain ⟨h0, h6, h8, -⟩ := isCtx_parts hi
  have HR := Lib.hid (boxed hr hB (.cells #[.int .i64 a, .slice aa rs.length ca] 26))
  have HI := Lib.hid hi
  have HC : Hid (∀ x, clo a rs x < 256) := Lib.hid (fun x => intTo_256 hi _ _)
  have HB1 : Hid (B ≤ (w.alloc (.cells #[.int .i64 a, .slice aa rs.length ca] 26)).heap.size) := Lib.hid (by simp; omega)
  have HW := Lib.hid ((Below.refl w.heap.size w).alloc (Nat.le_refl _) (.cells #[.int .i64 a, .slice aa rs.length ca] 26))
  have HZ : w.heap.size < (w.alloc (.cells #[.int .i64 a, .slice aa rs.length ca] 26)).heap.size := by simp
  have q0 : (w.alloc (.cells #[.int .i64 a, .slice aa rs.length ca] 26)).cell? ⟨w.heap.size, 0, none⟩ = some (.int .i64 a) := by simp
  have q1 : (w.alloc (.cells #[.int .i64 a, .slice aa rs.length ca] 26)).cell? ⟨w.heap.size, 1, none⟩ = some (.slice aa rs.length ca) := by simp
  clear hr hi
  go_enter Try.func100, Try.ntmps100
  go_wp2_with fail
  generalize w.alloc (.cells #[.int .i64 a, .slice aa rs.length ca] 26) = W at HR HB1 HW HZ q0 q1 ⊢
  go_loopw [6, 7, 8] (fun i b x wr => ∃ (k : Nat) (z : Int), k ≤ a.toNat ∧ i = .int .i64 z ∧ Hid (z + 1 = k) ∧ Hid (nextTo (clo a rs) s a.toNat = nextTo (clo a rs) s k) ∧ Hid (Below W.heap.size W wr)) (fun i _ _ _ => (intOf i + 1).toNat)
  case atStart => exact ⟨a.toNat, a - 1, Nat.le_refl _, rfl, Lib.hid (by omega), Lib.hid rfl, Lib.hid (Below.refl _ _)⟩
  case round =>
    obtain ⟨k, z, hk, rfl, hz, hnx, hbel⟩ := hrel
    cases k with
    | zero =>
      have hzz : z = -1 := by have := hz.out; omega
      subst hzz
      go_wp2_with fail
      go_ret2
      exact ⟨by rw [hnx.out]; rfl, HW.out.trans (hbel.out.mono (by omega))⟩
    | succ k =>
      have hzz : z = k := by have := hz.out; omega
      subst hzz
      cases hbt : bit s k with
      | true =>
        have HN2 : Hid (nextTo (clo a rs) s a.toNat = nextTo (clo a rs) s k) := Lib.hid (by rw [hnx.out, nextTo, if_pos (show s.testBit k = true from hbt)])
        go_wp2_with fail
        refine (l2Has _ _ (by omega) (by omega) _).mono ?_
        rintro e w' ⟨rfl, hw⟩
        subst w'
        rw [hbt]
        clear hbt
        go_wp2_with fail
        go_roundw
        case rel => exact ⟨k, (k : Int) - 1, by omega, rfl, Lib.hid (by omega), HN2, hbel⟩
        case measure => first | (simp [intOf]; done) | (simp [intOf]; omega)
      | false =>
        have hbf : ¬ s.testBit k = true := by
          have : s.testBit k = false := hbt
          rw [this]; simp
        have HNX := Lib.hid (hnx.out.trans (show nextTo (clo a rs) s (k + 1) = if tryAt (clo a rs) s k % 2 ^ k = s % 2 ^ k then some (tryAt (clo a rs) s k) else nextTo (clo a rs) s k by rw [nextTo, if_neg hbf]))
        have hp8 : 2 ^ k ≤ 256 := pow_le8 (by omega)
        have hm : s % 2 ^ k < 256 := by have := Nat.mod_lt s (Nat.pow_pos (n := k) (show 0 < 2 by omega)); omega
        have hor : s % 2 ^ k ||| 2 ^ k < 256 := Nat.or_lt_two_pow (n := 8) hm (Nat.pow_lt_pow_right (by omega) (by omega))
        have hmf := mod_full s k hs (by omega)
        have hop := or_pow (s % 2 ^ k) k hm (by omega)
        have HCL := Lib.hid (fun w' h hB => l4Closure a (.slice aa rs.length ca) rs ((s % 2 ^ k ||| 2 ^ k : Nat) : Int) B w' h hB HI.out (by omega))
        have hx256 := HC.out (s % 2 ^ k ||| 2 ^ k)
        rw [show intTo a rs (extTo rs ((s % 2 ^ k ||| 2 ^ k : Nat) : Int) rs.length : Nat) rs.length = tryAt (clo a rs) s k from rfl] at HCL
        change tryAt (clo a rs) s k < 256 at hx256
        generalize tryAt (clo a rs) s k = x at HNX HCL hx256
        have hmx := mod_full x k hx256 (by omega)
        rw [← hop] at HCL
        have HM := Lib.hid hmf
        have HX := Lib.hid hmx
        have c0 : wr.cell? ⟨w.heap.size, 0, none⟩ = some (.int .i64 a) := (hbel.out.cell (p := ⟨w.heap.size, 0, none⟩) (by show w.heap.size < _; omega)).trans q0
        have c1 : wr.cell? ⟨w.heap.size, 1, none⟩ = some (.slice aa rs.length ca) := (hbel.out.cell (p := ⟨w.heap.size, 1, none⟩) (by show w.heap.size < _; omega)).trans q1
        have hzr := hbel.out.size
        have HBr : Hid (B ≤ wr.heap.size) := Lib.hid (Nat.le_trans HB1.out hzr)
        have HRr := Lib.hid (HR.out.below hbel.out HB1.out)
        clear hmf hmx hop hbf hor
        generalize hgm : s % 2 ^ k = y at HNX HCL HM hm
        clear hgm
        go_wp2_with fail
        refine (l2Has _ _ (by omega) (by omega) _).mono ?_
        rintro e w' ⟨rfl, hw⟩
        subst w'
        rw [hbt]
        clear hbt
        go_wp2_with fail
        refine (spec_full _ _).mono ?_
        rintro e w' ⟨rfl, hw⟩
        subst w'
        go_wp2_with fail
        rw [HM.out]
        go_wp2_with fail
        refine (HCL.out _ HRr.out HBr.out).mono ?_
        rintro e w2 ⟨rfl, b2⟩
        have B2 := Lib.hid (hbel.out.trans (b2.mono hzr))
        clear b2
        go_wp2_with fail
        refine (spec_full _ _).mono ?_
        rintro e w' ⟨rfl, hw⟩
        subst w'
        by_cases hq : x % 2 ^ k = y
        · have hqb : (bits .and .i64 (x : Int) (full k) == (y : Int)) = true := by rw [HX.out, hq]; simp
          have HN3 : Hid (nextTo (clo a rs) s a.toNat = some x) := Lib.hid (by rw [HNX.out, if_pos hq])
          clear hq
          go_wp2_with fail
          go_ret2
          exact ⟨by rw [HN3.out]; rfl, HW.out.trans (B2.out.mono (by omega))⟩
        · have hqb : (bits .and .i64 (x : Int) (full k) == (y : Int)) = false := by rw [HX.out, beq_eq_false_iff_ne]; exact fun h => hq (Int.ofNat_inj.1 h)
          have HN3 : Hid (nextTo (clo a rs) s a.toNat = nextTo (clo a rs) s k) := Lib.hid (by rw [HNX.out, if_neg hq])
          clear hq
          go_wp2_with fail
          go_roundw
          case rel => exact ⟨k, (k : Int) - 1, by omega, rfl, Lib.hid (by omega), HN3, B2⟩
          case measure => first | (simp [intOf]; done) | (simp [intOf]; omega)
/-- The next closed set of a context. -/
def nextClosed (a : Int) (rs : List Int) (s : Int) : Option Nat := if isCtx a rs = true ∧ isSet a s = true then nextTo (clo a rs) s.toNat a.toNat else none
set_option maxHeartbeats 800000 in
theorem spec_next (a : Int) (v : Value) (rs : List Int) (s : Int) (B : Nat) (w : World) (hr : Reads w B v (ints rs)) (hB : B ≤ w.heap.size) :
    Calls Try.prog 36 #[ctx a v, .int .i64 s] w fun e w' => e = .returned (optV (nextClosed a rs s)) ∧ Below w.heap.size w w' := by
  obtain ⟨aa, ca, rfl⟩ := reads_form hr
  have HR := Lib.hid hr
  clear hr
  go_enter Try.func36, Try.ntmps36
  go_wp2_with fail
  refine (spec_isCtx a _ rs B _ (boxed HR.out hB _) (by simp; omega)).mono ?_
  rintro e W ⟨rfl, b⟩
  obtain ⟨hc, hf⟩ := bcell b
  have hz := b.size
  simp at hz
  have HR1 := Lib.hid ((boxed HR.out hB (.cells #[.int .i64 a, .slice aa rs.length ca] 26)).below b (by simp; omega))
  have hW := ((Below.refl w.heap.size w).alloc (Nat.le_refl _) (.cells #[.int .i64 a, .slice aa rs.length ca] 26)).trans (b.mono (by simp))
  have q0 : W.cell? ⟨w.heap.size, 0, none⟩ = some (.int .i64 a) := by rw [hc _ _ (by simp)]; simp
  have q1 : W.cell? ⟨w.heap.size, 1, none⟩ = some (.slice aa rs.length ca) := by rw [hc _ _ (by simp)]; simp
  clear b hc hf
  cases hi : isCtx a rs with
  | false =>
    have HX : Hid (nextClosed a rs s = none) := Lib.hid (by simp [nextClosed, hi])
    clear hi
    go_wp2_with fail
    go_ret2
    exact ⟨by rw [HX.out]; rfl, hW⟩
  | true =>
    cases hs : isSet a s with
    | false =>
      have HX : Hid (nextClosed a rs s = none) := Lib.hid (by simp [nextClosed, hs])
      clear hi
      go_wp2_with fail
      refine (spec_isSet _ _ _).mono ?_
      rintro e w' ⟨rfl, hw⟩
      subst w'
      rw [hs]
      go_wp2_with fail
      go_ret2
      exact ⟨by rw [HX.out]; rfl, hW⟩
    | true =>
      obtain ⟨n, rfl, hn, -, -⟩ := isSet_to_nat hs
      have hn8 : n < 256 := Nat.lt_of_lt_of_le hn (pow_le8 (by have := isCtx_parts hi; omega))
      have HX : Hid (nextClosed a rs (n : Int) = nextTo (clo a rs) n a.toNat) := Lib.hid (by rw [nextClosed, if_pos ⟨hi, hs⟩, Int.toNat_natCast])
      have H1 := Lib.hid (fun v w h hB => l5Next a v rs n B w h hB hi hn8)
      clear hi hn
      go_wp2_with fail
      refine (spec_isSet _ _ _).mono ?_
      rintro e w' ⟨rfl, hw⟩
      subst w'
      rw [hs]
      clear hs
      go_wp2_with fail
      refine (H1.out _ W HR1.out (by omega)).mono ?_
      rintro e w2 ⟨rfl, b2⟩
      rw [← HX.out]
      obtain ⟨o, ho⟩ : ∃ o, nextClosed a rs (n : Int) = o := ⟨_, rfl⟩
      have HO := Lib.hid ho
      rw [ho]
      clear ho HX
      unfold optV
      go_wp2_with fail
      go_ret2
      exact ⟨by rw [HO.out]; rfl, hW.trans (b2.mono (by omega))⟩
/-- The concept of a set of attributes. -/
def conceptOf (a : Int) (rs : List Int) (s : Int) : PInt := (((extTo rs s rs.length : Nat) : Int), ((intTo a rs (extTo rs s rs.length : Nat) rs.length : Nat) : Int))
set_option maxHeartbeats 800000 in
theorem l5Concept (a : Int) (v : Value) (rs : List Int) (s : Int) (B : Nat) (w : World) (hr : Reads w B v (ints rs)) (hB : B ≤ w.heap.size) (hi : isCtx a rs = true) (hs : 0 ≤ s ∧ s ≤ 255) :
    Calls Try.prog 101 #[ctx a v, .int .i64 s] w fun e w' => e = .returned (conc (conceptOf a rs s)) ∧ Below w.heap.size w w' := by
  obtain ⟨aa, ca, rfl⟩ := reads_form hr
  have HR := Lib.hid hr
  clear hr
  have he := extTo_256 hi s
  have H1 := Lib.hid (fun v w h hB => l4Extent a v rs s B w h hB hi hs)
  have HC := Lib.hid (show conceptOf a rs s = (((extTo rs s rs.length : Nat) : Int), ((intTo a rs (extTo rs s rs.length : Nat) rs.length : Nat) : Int)) from rfl)
  rw [HC.out]
  clear HC
  obtain ⟨x, hx⟩ : ∃ x, extTo rs s rs.length = x := ⟨_, rfl⟩
  rw [hx] at H1 he ⊢
  have H2 := Lib.hid (fun v w h hB => l4Intent a v rs x B w h hB hi (by omega))
  obtain ⟨y, hy⟩ : ∃ y, intTo a rs x rs.length = y := ⟨_, rfl⟩
  rw [hy] at H2 ⊢
  clear hx hy he hi hs
  have q0 : ((w.alloc (.cells #[.int .i64 a, .slice aa rs.length ca] 26)).alloc (.cells #[.int .i64 0, .int .i64 0] 38)).cell? ⟨w.heap.size, 0, none⟩ = some (.int .i64 a) := by simp
  have q1 : ((w.alloc (.cells #[.int .i64 a, .slice aa rs.length ca] 26)).alloc (.cells #[.int .i64 0, .int .i64 0] 38)).cell? ⟨w.heap.size, 1, none⟩ = some (.slice aa rs.length ca) := by simp
  have HR1 := Lib.hid ((HR.out.below (((Below.refl w.heap.size w).alloc (Nat.le_refl _) (.cells #[.int .i64 a, .slice aa rs.length ca] 26)).alloc (by simp) (.cells #[.int .i64 0, .int .i64 0] 38)) hB))
  have hW := ((Below.refl w.heap.size w).alloc (Nat.le_refl _) (.cells #[.int .i64 a, .slice aa rs.length ca] 26)).alloc (by simp) (.cells #[.int .i64 0, .int .i64 0] 38)
  have hz : w.heap.size + 2 ≤ ((w.alloc (.cells #[.int .i64 a, .slice aa rs.length ca] 26)).alloc (.cells #[.int .i64 0, .int .i64 0] 38)).heap.size := by simp
  have hbx : BoxAt ((w.alloc (.cells #[.int .i64 a, .slice aa rs.length ca] 26)).alloc (.cells #[.int .i64 0, .int .i64 0] 38)) (w.heap.size + 1) 38 #[.int .i64 0, .int .i64 0] := by
    have := BoxAt.new (w.alloc (.cells #[.int .i64 a, .slice aa rs.length ca] 26)) 38 #[.int .i64 0, .int .i64 0]; simpa using this
  go_enter Try.func101, Try.ntmps101
  go_wp2_with fail
  generalize ((w.alloc (.cells #[.int .i64 a, .slice aa rs.length ca] 26)).alloc (.cells #[.int .i64 0, .int .i64 0] 38)) = W at HR1 hW q0 q1 hz hbx ⊢
  refine (H1.out _ W HR1.out (by omega)).mono ?_
  rintro e w2 ⟨rfl, b2⟩
  have hz2 := b2.size
  have k0 : w2.cell? ⟨w.heap.size, 0, none⟩ = some (.int .i64 a) := (b2.cell (p := ⟨w.heap.size, 0, none⟩) (by show w.heap.size < _; omega)).trans q0
  have k1 : w2.cell? ⟨w.heap.size, 1, none⟩ = some (.slice aa rs.length ca) := (b2.cell (p := ⟨w.heap.size, 1, none⟩) (by show w.heap.size < _; omega)).trans q1
  have HR2 := Lib.hid (HR1.out.below b2 (by omega))
  have B2 := Lib.hid (hW.trans (b2.mono (by omega)))
  have hb2 := hbx.below b2 (by omega)
  clear b2
  go_wp2_with fail
  refine (H2.out _ w2 HR2.out (by omega)).mono ?_
  rintro e w3 ⟨rfl, b3⟩
  have hb3 := hb2.below b3 (by omega)
  have e0 : w3.cell? ⟨w.heap.size + 1, 0, none⟩ = some (.int .i64 0) := hb3.cell 0
  have e1 : w3.cell? ⟨w.heap.size + 1, 1, none⟩ = some (.int .i64 0) := hb3.cell 1
  have f0 : w3.frozen? ⟨w.heap.size + 1, 0, none⟩ = false := hb3.free 0
  have f1 : w3.frozen? ⟨w.heap.size + 1, 1, none⟩ = false := hb3.free 1
  have B3 := Lib.hid (B2.out.trans (b3.mono (by omega)))
  clear b3 hb2 hb3
  go_wp2_with fail
  refine bodyPost_ret (v := .agg #[.int .i64 x, .int .i64 y]) (by simp [results, Try.results101, go_sem, e0, e1]) rfl ⟨rfl, (B3.out.setCell (p := ⟨w.heap.size + 1, 0, none⟩) (by show w.heap.size ≤ w.heap.size + 1; omega) _).setCell (p := ⟨w.heap.size + 1, 1, none⟩) (by show w.heap.size ≤ w.heap.size + 1; omega) _⟩
/-- All concepts of a context, in the lectic order of their intents. -/
def concepts (a : Int) (rs : List Int) : List PInt := if isCtx a rs = true then (closedFrom a.toNat (clo a rs) (clo a rs 0)).map fun s : Nat => conceptOf a rs s else []
theorem closedFrom_len (n : Nat) (cl : Nat → Nat) (s : Nat) : (closedFrom n cl s).length ≤ 256 := by
  refine Nat.le_trans (List.length_filter_le _ _) ?_
  simp [allSets]
theorem concepts_len (a : Int) (rs : List Int) : (concepts a rs).length ≤ 256 := by
  unfold concepts
  split
  · rw [List.length_map]; exact closedFrom_len _ _ _
  · simp
theorem newsP (w : World) (p : PInt) (t : TypeId) : ∀ (j : Nat) (u : Value), (prs [p])[j]? = some u → (w.alloc (.cells #[.int .i64 p.1, .int .i64 p.2] t)).cell? ((⟨w.heap.size, 0, none⟩ : Addr).add j) = some u := by
  intro j u hj
  match j, hj with
  | 0, hj => simp [prs] at hj; subst hj; simp [Addr.add]
  | 1, hj => simp [prs] at hj; subst hj; simp [Addr.add]
theorem oneP (p : PInt) : ∀ u ∈ prs [p], u.oneCell' = true := by
  intro u hu
  simp [prs] at hu
  rcases hu with rfl | rfl <;> rfl
theorem infoC : (Try.prog.info? 38).map (fun i => (i.zero, i.size, i.bytes)) = some (some (.agg #[.int .i64 0, .int .i64 0]), 2, 16) := by kernel_rfl
set_option maxHeartbeats 1600000 in
theorem spec_concepts (a : Int) (v : Value) (rs : List Int) (B : Nat) (w : World) (hr : Reads w B v (ints rs)) (hB : B ≤ w.heap.size) :
    Calls Try.prog 47 #[ctx a v] w fun e w' => ∃ u, e = .returned u ∧ OwnP 38 w' w.heap.size w'.heap.size u (concepts a rs) ∧ Below w.heap.size w w' := by
  obtain ⟨i0, hinf, hz0, hz1, hz2⟩ := info_parts infoC
  obtain ⟨aa, ca, rfl⟩ := reads_form hr
  have HR := Lib.hid hr
  clear hr
  go_enter Try.func47, Try.ntmps47
  go_wp2_with fail
  have hO0 : (((w.alloc (.cells #[.int .i64 a, .slice aa rs.length ca] 26)).alloc (.cells #[] 38))).ownsRow (w.heap.size + 1) 38 2 (.slice (some ⟨w.heap.size + 1, 0, none⟩) 0 0) 0 (prs []) := by
    have := World.ownsRow_lit (w.alloc (.cells #[.int .i64 a, .slice aa rs.length ca] 26)) (e := 38) (size := 2) (base := w.heap.size + 1) #[] 0 (by simp) (Nat.zero_le _) rfl
    simpa [prs] using this
  have q0 : ((w.alloc (.cells #[.int .i64 a, .slice aa rs.length ca] 26)).alloc (.cells #[] 38)).cell? ⟨w.heap.size, 0, none⟩ = some (.int .i64 a) := by simp
  have q1 : ((w.alloc (.cells #[.int .i64 a, .slice aa rs.length ca] 26)).alloc (.cells #[] 38)).cell? ⟨w.heap.size, 1, none⟩ = some (.slice aa rs.length ca) := by simp
  have HR1 := Lib.hid ((HR.out.below (((Below.refl w.heap.size w).alloc (Nat.le_refl _) (.cells #[.int .i64 a, .slice aa rs.length ca] 26)).alloc (by simp) (.cells #[] 38)) hB))
  have hW := ((Below.refl w.heap.size w).alloc (Nat.le_refl _) (.cells #[.int .i64 a, .slice aa rs.length ca] 26)).alloc (by simp) (.cells #[] 38)
  have hz : w.heap.size + 2 ≤ ((w.alloc (.cells #[.int .i64 a, .slice aa rs.length ca] 26)).alloc (.cells #[] 38)).heap.size := by simp
  generalize ((w.alloc (.cells #[.int .i64 a, .slice aa rs.length ca] 26)).alloc (.cells #[] 38)) = W at HR1 hW q0 q1 hz hO0 ⊢
  refine (spec_isCtx a _ rs B W HR1.out (by omega)).mono ?_
  rintro e w1 ⟨rfl, b1⟩
  have hz1 := b1.size
  have k0 : w1.cell? ⟨w.heap.size, 0, none⟩ = some (.int .i64 a) := (b1.cell (p := ⟨w.heap.size, 0, none⟩) (by show w.heap.size < _; omega)).trans q0
  have k1 : w1.cell? ⟨w.heap.size, 1, none⟩ = some (.slice aa rs.length ca) := (b1.cell (p := ⟨w.heap.size, 1, none⟩) (by show w.heap.size < _; omega)).trans q1
  have HR2 := Lib.hid (HR1.out.below b1 (by omega))
  have B1 := Lib.hid (hW.trans (b1.mono (by omega)))
  have O1 := Lib.hid (rowP_same hO0 fun k hk => b1.block k (hO0.lt k hk).2)
  clear b1 hO0 q0 q1 HR1 HR hW
  cases hic : isCtx a rs with
  | false =>
    have HX : Hid (concepts a rs = []) := Lib.hid (by simp [concepts, hic])
    clear hic
    go_wp2_with fail
    go_ret
    exact ⟨_, rfl, by rw [HX.out]; exact (OwnP.made O1.out).mono (by omega) (Nat.le_refl _), B1.out⟩
  | true =>
    have C := Lib.hid (clo_ok hic)
    have HX : Hid (concepts a rs = (closedFrom a.toNat (clo a rs) (clo a rs 0)).map fun s : Nat => conceptOf a rs s) := Lib.hid (by simp [concepts, hic])
    have HLen := Lib.hid (concepts_len a rs)
    have hp6 : 2 ^ a.toNat ≤ 256 := pow_le8 (by have := isCtx_parts hic; omega)
    have HL0 := Lib.hid (fun v w h hB => l4Closure a v rs 0 B w h hB hic (by omega))
    have HLC := Lib.hid (fun (s : Nat) (hs : s < 256) v w h hB => l5Concept a v rs s B w h hB hic (by omega))
    have HLN := Lib.hid (fun (s : Nat) (hs : s < 256) v w h hB => l5Next a v rs s B w h hB hic hs)
    have hs0 : clo a rs 0 < 2 ^ a.toNat := C.out.lt 0
    have hc0 := Lib.hid (C.out.idem 0 (Nat.pow_pos (by omega)))
    have hcl0 : Hid (intTo a rs (extTo rs 0 rs.length : Nat) rs.length = clo a rs 0) := Lib.hid rfl
    rw [hcl0.out] at HL0
    have HI := Lib.hid hic
    clear hic hcl0
    generalize clo a rs 0 = s0 at HX HL0 hs0 hc0
    go_wp2_with fail
    refine (HL0.out _ w1 HR2.out (by omega)).mono ?_
    rintro e w2 ⟨rfl, b2⟩
    have hz2 := b2.size
    have hB2 : w.heap.size + 2 ≤ w2.heap.size := by omega
    have m0 : w2.cell? ⟨w.heap.size, 0, none⟩ = some (.int .i64 a) := (b2.cell (p := ⟨w.heap.size, 0, none⟩) (by show w.heap.size < _; omega)).trans k0
    have m1 : w2.cell? ⟨w.heap.size, 1, none⟩ = some (.slice aa rs.length ca) := (b2.cell (p := ⟨w.heap.size, 1, none⟩) (by show w.heap.size < _; omega)).trans k1
    have HR3 := Lib.hid (HR2.out.below b2 (by omega))
    have B2 := Lib.hid (B1.out.trans (b2.mono (by omega)))
    have O2 := Lib.hid (rowP_same O1.out fun k hk => b2.block k (O1.out.lt k hk).2)
    clear b2 HR2 B1 O1 HL0 hz1 hz2 k0 k1
    go_wp2_with fail
    go_loopw [3, 4, 5, 6] (fun t i x ok wr => ∃ (l : List PInt) (s : Nat), i = .int .i64 s ∧ s < 2 ^ a.toNat ∧ Hid (clo a rs s = s) ∧ Hid (l ++ (closedFrom a.toNat (clo a rs) s).map (fun s : Nat => conceptOf a rs s) = concepts a rs) ∧ Hid (wr.ownsRow (w.heap.size + 1) 38 2 t l.length (prs l)) ∧ Hid (Below w.heap.size w wr) ∧ wr.cell? ⟨w.heap.size, 0, none⟩ = some (.int .i64 a) ∧ wr.cell? ⟨w.heap.size, 1, none⟩ = some (.slice aa rs.length ca) ∧ Hid (Reads wr B (.slice aa rs.length ca) (ints rs)) ∧ w.heap.size + 2 ≤ wr.heap.size) (fun _ i _ _ _ => 256 - mir (intOf i).toNat)
    case atStart => exact ⟨[], s0, rfl, hs0, hc0, Lib.hid (by rw [HX.out]; rfl), O2, B2, m0, m1, HR3, hB2⟩
    case round =>
      obtain ⟨l, s, rfl, hs, hcs, hl, ho, hbel, c0, c1, hrd, hzr⟩ := hrel
      have hs256 : s < 256 := by omega
      obtain ⟨av, cv, rfl⟩ := rowP_form ho.out
      have HC1 := Lib.hid (HLC.out s hs256 _ wr hrd.out (by omega))
      have hll : Hid (l.length ≤ 255) := Lib.hid (by
        have h1 := HLen.out
        rw [← hl.out, List.length_append, List.length_map] at h1
        have h2 : 1 ≤ (closedFrom a.toNat (clo a rs) s).length := by
          have : s ∈ closedFrom a.toNat (clo a rs) s := (mem_closedFrom C.out.n8).2 ⟨hs, hcs.out, Nat.le_refl _⟩
          exact List.length_pos_of_mem this
        omega)
      obtain ⟨n, hn⟩ : ∃ n, l.length = n := ⟨_, rfl⟩
      have HN := Lib.hid hn
      rw [hn] at ho hll
      obtain ⟨p, hp⟩ : ∃ p, conceptOf a rs s = p := ⟨_, rfl⟩
      rw [hp] at HC1
      have HP := Lib.hid hp
      rw [hn]
      clear hn hp
      have HK1 : Hid (n + 1 ≤ maxLen) := Lib.hid (by have := hll.out; unfold maxLen; omega)
      have HK2 : Hid ((n + 1) * 16 ≤ 140737488355328) := Lib.hid (by have := hll.out; omega)
      go_wp2_with fail
      refine HC1.out.mono ?_
      rintro e w3 ⟨rfl, b3⟩
      have hz3 := b3.size
      have O3 := Lib.hid ((rowP_same ho.out fun k hk => b3.block k (ho.out.lt k hk).2).alloc (.cells #[.int .i64 p.1, .int .i64 p.2] 38))
      have D3 := Lib.hid ((b3.mono (by omega : w.heap.size + 1 ≤ wr.heap.size)).alloc (by omega) (.cells #[.int .i64 p.1, .int .i64 p.2] 38))
      clear b3
      go_wp2_with (at_builtin; refine wpList_append_lies _ rfl _ _ _ rfl (w.heap.size + 1) 38 i0 (.agg #[.int .i64 0, .int .i64 0]) 2 16 Try.underlying35 hinf hz0 hz1 hz2 rfl (by decide) _ n _ rfl O3.out ⟨w3.heap.size, 0, none⟩ 1 1 (prs [p]) rfl rfl (newsP _ _ _) (oneP _) Nat.one_pos HK1.out HK2.out (by simp; omega) _ rfl ?_)
      intro g cap w4 hown hgrow hat hlt4
      have D4 := D3.out.grown hgrow (by simp; omega) (fun q hq => (O3.out.lt q hq).1)
      have c04 : w4.cell? ⟨w.heap.size, 0, none⟩ = some (.int .i64 a) := (D4.cell (p := ⟨w.heap.size, 0, none⟩) (by show w.heap.size < _; omega)).trans c0
      have c14 : w4.cell? ⟨w.heap.size, 1, none⟩ = some (.slice aa rs.length ca) := (D4.cell (p := ⟨w.heap.size, 1, none⟩) (by show w.heap.size < _; omega)).trans c1
      have hrd4 := Lib.hid (hrd.out.below D4 (by omega))
      have B4 := Lib.hid (hbel.out.trans (D4.mono (by omega)))
      have O4 : Hid (w4.ownsRow (w.heap.size + 1) 38 2 (.slice (some ⟨g, 0, none⟩) (n + 1) cap) (n + 1) (prs (l ++ [p]))) := Lib.hid (by rw [prs_app]; exact hown)
      have hz4 := D4.size
      clear D4 D3 hown hgrow hat hlt4 O3 hz3
      have HN1 := Lib.hid (HLN.out s hs256 _ w4 hrd4.out (by omega))
      obtain ⟨o, hon⟩ : ∃ o, nextTo (clo a rs) s a.toNat = o := ⟨_, rfl⟩
      rw [hon] at HN1
      have HON := Lib.hid hon
      clear hon
      cases o with
      | none =>
        have HQ : Hid (concepts a rs = l ++ [p]) := Lib.hid (by rw [← hl.out, closedFrom_none C.out hs hcs.out HON.out]; simp [HP.out])
        rw [show optV none = .tuple #[.int .i64 0, .bool false] from rfl] at HN1
        go_wp2_with fail
        refine HN1.out.mono ?_
        rintro e w5 ⟨rfl, b5⟩
        have O5 := Lib.hid (rowP_same O4.out fun k hk => b5.block k (O4.out.lt k hk).2)
        have B5 := Lib.hid (B4.out.trans (b5.mono (by omega)))
        clear b5
        go_wp2_with fail
        go_ret
        exact ⟨_, rfl, by rw [HQ.out]; exact (OwnP.made O5.out).mono (by omega) (Nat.le_refl _), B5.out⟩
      | some x =>
        obtain ⟨hx, hcx, hmx, -⟩ := next_some C.out hs HON.out
        have HCX := Lib.hid hcx
        have HQ : Hid ((l ++ [p]) ++ (closedFrom a.toNat (clo a rs) x).map (fun s : Nat => conceptOf a rs s) = concepts a rs) := Lib.hid (by rw [← hl.out, closedFrom_some C.out hs hcs.out HON.out]; simp [HP.out])
        have hx256 : mir x < 256 := mir_lt x (by omega)
        rw [show optV (some x) = .tuple #[.int .i64 x, .bool true] from rfl] at HN1
        clear hcx
        go_wp2_with fail
        refine HN1.out.mono ?_
        rintro e w5 ⟨rfl, b5⟩
        have O5 := Lib.hid (rowP_same O4.out fun k hk => b5.block k (O4.out.lt k hk).2)
        have B5 := Lib.hid (B4.out.trans (b5.mono (by omega)))
        have c05 : w5.cell? ⟨w.heap.size, 0, none⟩ = some (.int .i64 a) := (b5.cell (p := ⟨w.heap.size, 0, none⟩) (by show w.heap.size < _; omega)).trans c04
        have c15 : w5.cell? ⟨w.heap.size, 1, none⟩ = some (.slice aa rs.length ca) := (b5.cell (p := ⟨w.heap.size, 1, none⟩) (by show w.heap.size < _; omega)).trans c14
        have hrd5 := Lib.hid (hrd4.out.below b5 (by omega))
        have hz5 := b5.size
        clear b5
        go_wp2_with fail
        go_roundw
        case rel => exact ⟨l ++ [p], x, rfl, hx, HCX, HQ, Lib.hid (by have := O5.out; rwa [show (l ++ [p]).length = n + 1 by simp [HN.out]]), B5, c05, c15, hrd5, by omega⟩
        case measure => simp only [intOf, Int.toNat_natCast]; omega
end Go.Proofs.Ytdkgmjbhkifcbaa.Ctx
