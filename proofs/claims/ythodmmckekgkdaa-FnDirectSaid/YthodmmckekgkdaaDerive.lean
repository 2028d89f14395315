/-
  Chapter 4's functions, one contract each, of the program and of the model: IntentOf, ExtentOf, ClosureOf, ObjectClosure, IsClosed.
-/
import Derived.Test.YthodmmckekgkdaaCol
import Derived.Test.YthodmmckekgkdaaDerPure
namespace Go.Proofs.Ythodmmckekgkdaa.Ctx
open Go Go.RowKit Mem Sets
set_option maxRecDepth 100000

theorem and_row (x : Nat) (y : Int) (hx : x < 256) (hy : 0 ≤ y ∧ y ≤ 255) : bits .and .i64 (x : Int) y = ((x &&& y.toNat : Nat) : Int) := by
  obtain ⟨n, rfl⟩ := Int.eq_ofNat_of_zero_le hy.1
  rw [and_nat x n hx (by omega)]; rfl
theorem row_and (y s : Int) (hy : 0 ≤ y ∧ y ≤ 255) (hs : 0 ≤ s ∧ s ≤ 255) : (bits .and .i64 y s == s) = decide (y.toNat &&& s.toNat = s.toNat) := by
  obtain ⟨n, rfl⟩ := Int.eq_ofNat_of_zero_le hy.1
  obtain ⟨m, rfl⟩ := Int.eq_ofNat_of_zero_le hs.1
  rw [and_nat n m (by omega) (by omega), Bool.eq_iff_iff]
  simp only [beq_iff_eq, decide_eq_true_eq, Int.toNat_natCast]
  omega
theorem and_lt (x y : Nat) (hx : x < 256) : x &&& y < 256 := Nat.lt_of_le_of_lt Nat.and_le_left hx

set_option maxHeartbeats 400000 in
theorem l4Intent (a : Int) (v : Value) (rs : List Int) (s : Int) (B : Nat) (w : World) (hr : Reads w B v (ints rs)) (hB : B ≤ w.heap.size) (hc : isCtx a rs = true) (hs : 0 ≤ s ∧ s ≤ 255) :
    Calls Try.prog 109 #[ctx a v, .int .i64 s] w fun e w' => e = .returned (.int .i64 (intTo a rs s rs.length : Nat)) ∧ Below w.heap.size w w' := by
  obtain ⟨hl, aa, ca, rfl, hca⟩ := hr
  simp only [ints, List.length_map] at hl hca ⊢
  obtain ⟨h0, h6, h8, -⟩ := isCtx_parts hc
  have HF := Lib.hid (full_nat h0 (by omega))
  have HR := Lib.hid (row_le hc)
  have HX0 := Lib.hid (intTo_256 hc s)
  have HC := Lib.hid hca
  clear hl hca hc
  by_cases hne : rs = []
  · subst hne
    go_enter Try.func109, Try.ntmps109
    go_wp2_with fail
    refine (spec_full a _).mono ?_
    rintro e w' ⟨rfl, rfl⟩
    go_wp2_with fail
    refine wp_loop_rounds 1 ?_
    rw [rounds_succ]
    go_wp2_with fail
    go_ret
    exact ⟨by rw [HF.out]; rfl, (Below.refl _ _).alloc (Nat.le_refl _) _⟩
  · obtain ⟨b, o, rfl, hb, gca⟩ := HC.out (by simpa using hne)
    have HD := Lib.hid gca
    clear gca HC hne
    go_enter Try.func109, Try.ntmps109
    go_wp2_with fail
    refine (spec_full a _).mono ?_
    rintro e w' ⟨rfl, rfl⟩
    rw [HF.out]
    go_wp2_with fail
    go_loop [5, 6] (fun t i => ∃ k : Nat, k ≤ rs.length ∧ i = .int .i64 k ∧ ∃ x : Nat, t = .int .i64 x ∧ x < 256 ∧ Hid (x = intTo a rs s k)) (fun _ i => rs.length - (intOf i).toNat)
    case atStart => exact ⟨0, Nat.zero_le _, rfl, _, rfl, HX0.out 0, Lib.hid rfl⟩
    case round =>
      obtain ⟨k, hk, rfl, x, rfl, hx, HX⟩ := hrel
      by_cases hlt : k < rs.length
      · have c2 : (w.alloc (Obj.cells #[Value.int IntKind.i64 a, Value.slice (some ⟨b, o, none⟩) rs.length ca] 26)).cell? ⟨b, o + k, none⟩ = some (.int .i64 (rs.getD k 0)) := by
          rw [World.cell?_alloc_lt _ _ _ (by show b < _; omega), HD.out k hlt, ints_get rs k hlt]
        have hy := HR.out k
        generalize hgy : rs.getD k 0 = y at c2 hy
        have HY := Lib.hid hgy
        clear hgy
        cases hbt : bit s k with
        | true =>
          go_wp2_with fail
          refine (l2Has _ _ (by omega) hs _).mono ?_
          rintro e w' ⟨rfl, rfl⟩
          rw [hbt]
          go_wp2_with fail
          go_round
          case rel =>
            refine ⟨k + 1, by omega, by simp, x &&& y.toNat, by rw [and_row x y hx hy], and_lt x _ hx, Lib.hid ?_⟩
            rw [intTo, hbt, if_pos rfl, HY.out, ← HX.out]
          case measure => simp [intOf]; omega
        | false =>
          go_wp2_with fail
          refine (l2Has _ _ (by omega) hs _).mono ?_
          rintro e w' ⟨rfl, rfl⟩
          rw [hbt]
          go_wp2_with fail
          go_round
          case rel =>
            refine ⟨k + 1, by omega, by simp, x, rfl, hx, Lib.hid ?_⟩
            rw [intTo, hbt, ← HX.out]; rfl
          case measure => simp [intOf]; omega
      · have hkn : k = rs.length := by omega
        go_wp2_with fail
        go_ret
        exact ⟨by rw [HX.out, hkn]; rfl, (Below.refl _ _).alloc (Nat.le_refl _) _⟩
set_option maxHeartbeats 400000 in
theorem l4Extent (a : Int) (v : Value) (rs : List Int) (s : Int) (B : Nat) (w : World) (hr : Reads w B v (ints rs)) (hB : B ≤ w.heap.size) (hc : isCtx a rs = true) (hs : 0 ≤ s ∧ s ≤ 255) :
    Calls Try.prog 110 #[ctx a v, .int .i64 s] w fun e w' => e = .returned (.int .i64 (extTo rs s rs.length : Nat)) ∧ Below w.heap.size w w' := by
  obtain ⟨hl, aa, ca, rfl, hca⟩ := hr
  simp only [ints, List.length_map] at hl hca ⊢
  obtain ⟨h0, h6, h8, -⟩ := isCtx_parts hc
  have HR := Lib.hid (row_le hc)
  have HC := Lib.hid hca
  clear hl hca hc
  by_cases hne : rs = []
  · subst hne
    go_enter Try.func110, Try.ntmps110
    go_wp2_with fail
    refine wp_loop_rounds 1 ?_
    rw [rounds_succ]
    go_wp2_with fail
    go_ret
    exact ⟨rfl, (Below.refl _ _).alloc (Nat.le_refl _) _⟩
  · obtain ⟨b, o, rfl, hb, gca⟩ := HC.out (by simpa using hne)
    have HD := Lib.hid gca
    clear gca HC hne
    go_enter Try.func110, Try.ntmps110
    go_wp2_with fail
    go_loop [5, 6] (fun t i => ∃ k : Nat, k ≤ rs.length ∧ i = .int .i64 k ∧ ∃ x : Nat, t = .int .i64 x ∧ x < 256 ∧ Hid (x = extTo rs s k)) (fun _ i => rs.length - (intOf i).toNat)
    case atStart => exact ⟨0, Nat.zero_le _, rfl, 0, rfl, by omega, Lib.hid rfl⟩
    case round =>
      obtain ⟨k, hk, rfl, x, rfl, hx, HX⟩ := hrel
      by_cases hlt : k < rs.length
      · have c2 : (w.alloc (Obj.cells #[Value.int IntKind.i64 a, Value.slice (some ⟨b, o, none⟩) rs.length ca] 26)).cell? ⟨b, o + k, none⟩ = some (.int .i64 (rs.getD k 0)) := by
          rw [World.cell?_alloc_lt _ _ _ (by show b < _; omega), HD.out k hlt, ints_get rs k hlt]
        have hy := HR.out k
        generalize hgy : rs.getD k 0 = y at c2 hy
        have HY := Lib.hid hgy
        clear hgy
        have hw := row_and y s hy hs
        by_cases hbt : y.toNat &&& s.toNat = s.toNat
        · rw [decide_eq_true hbt] at hw
          have HB := Lib.hid hbt
          clear hbt
          go_wp2_with fail
          go_round
          case rel =>
            refine ⟨k + 1, by omega, by simp, x ||| 2 ^ k, by rw [or_pow x k hx (by omega)], Nat.or_lt_two_pow (n := 8) hx (Nat.pow_lt_pow_right (by omega) (by omega)), Lib.hid ?_⟩
            rw [extTo, HY.out, if_pos HB.out, ← HX.out]
          case measure => simp [intOf]; omega
        · rw [decide_eq_false hbt] at hw
          have HB := Lib.hid hbt
          clear hbt
          go_wp2_with fail
          go_round
          case rel =>
            refine ⟨k + 1, by omega, by simp, x, rfl, hx, Lib.hid ?_⟩
            rw [extTo, HY.out, if_neg HB.out, ← HX.out]
          case measure => simp [intOf]; omega
      · have hkn : k = rs.length := by omega
        go_wp2_with fail
        go_ret
        exact ⟨by rw [HX.out, hkn]; rfl, (Below.refl _ _).alloc (Nat.le_refl _) _⟩
theorem hasObj (a : Int) (v : Value) (rs : List Int) (s : Int) (B : Nat) (w : World) (hr : Reads w B v (ints rs)) (hB : B ≤ w.heap.size) :
    Calls Try.prog 119 #[ctx a v, .int .i64 s] w fun e w' => e = .returned (.bool (isCtx a rs && isSet rs.length s)) ∧ Below w.heap.size w w' := by
  obtain ⟨aa, ca, rfl⟩ := reads_form hr
  have HR := Lib.hid hr
  clear hr
  go_enter Try.func119, Try.ntmps119
  go_wp2_with fail
  refine (impl_isCtx a _ rs B _ (boxed HR.out hB _) (by simp; omega)).mono ?_
  rintro e w1 ⟨rfl, b⟩
  obtain ⟨hc, hf⟩ := bcell b
  have hz := b.size
  simp at hz
  have BB := Lib.hid b
  clear b
  cases hi : isCtx a rs with
  | false =>
    have HI := Lib.hid hi
    clear hi
    go_wp2_with fail
    go_ret
    exact ⟨by simp [HI.out], ((Below.refl _ _).alloc (Nat.le_refl _) _).trans (BB.out.mono (by simp))⟩
  | true =>
    have HI := Lib.hid hi
    clear hi
    go_wp2_with fail
    refine (impl_isSet _ _ _).mono ?_
    rintro e w' ⟨rfl, rfl⟩
    go_wp2_with fail
    go_ret
    exact ⟨by simp [HI.out], ((Below.refl _ _).alloc (Nat.le_refl _) _).trans (BB.out.mono (by simp))⟩
theorem hasAtt (a : Int) (v : Value) (rs : List Int) (s : Int) (B : Nat) (w : World) (hr : Reads w B v (ints rs)) (hB : B ≤ w.heap.size) :
    Calls Try.prog 99 #[ctx a v, .int .i64 s] w fun e w' => e = .returned (.bool (isCtx a rs && isSet a s)) ∧ Below w.heap.size w w' := by
  obtain ⟨aa, ca, rfl⟩ := reads_form hr
  have HR := Lib.hid hr
  clear hr
  go_enter Try.func99, Try.ntmps99
  go_wp2_with fail
  refine (impl_isCtx a _ rs B _ (boxed HR.out hB _) (by simp; omega)).mono ?_
  rintro e w1 ⟨rfl, b⟩
  obtain ⟨hc, hf⟩ := bcell b
  have hz := b.size
  simp at hz
  have BB := Lib.hid b
  clear b
  cases hi : isCtx a rs with
  | false =>
    have HI := Lib.hid hi
    clear hi
    go_wp2_with fail
    go_ret
    exact ⟨by simp [HI.out], ((Below.refl _ _).alloc (Nat.le_refl _) _).trans (BB.out.mono (by simp))⟩
  | true =>
    have HI := Lib.hid hi
    clear hi
    go_wp2_with fail
    refine (impl_isSet _ _ _).mono ?_
    rintro e w' ⟨rfl, rfl⟩
    go_wp2_with fail
    go_ret
    exact ⟨by simp [HI.out], ((Below.refl _ _).alloc (Nat.le_refl _) _).trans (BB.out.mono (by simp))⟩
set_option maxHeartbeats 400000 in
theorem impl_intent (a : Int) (v : Value) (rs : List Int) (s : Int) (B : Nat) (w : World) (hr : Reads w B v (ints rs)) (hB : B ≤ w.heap.size) :
    Calls Try.prog 100 #[ctx a v, .int .i64 s] w fun e w' => e = .returned (.int .i64 (intent a rs s)) ∧ Below w.heap.size w w' := by
  obtain ⟨aa, ca, rfl⟩ := reads_form hr
  have HR := Lib.hid hr
  clear hr
  go_enter Try.func100, Try.ntmps100
  go_wp2_with fail
  refine (hasObj a _ rs s B _ (boxed HR.out hB _) (by simp; omega)).mono ?_
  rintro e w1 ⟨rfl, b⟩
  obtain ⟨hc, hf⟩ := bcell b
  have hz := b.size
  simp at hz
  have BB := Lib.hid b
  clear b
  generalize hX : (isCtx a rs && isSet rs.length s) = X
  cases X with
  | false =>
    have HX : Hid (intent a rs s = 0) := Lib.hid (by rw [intent, if_neg (by simpa using hX)])
    clear hX
    go_wp2_with fail
    go_ret
    exact ⟨by rw [HX.out]; rfl, ((Below.refl _ _).alloc (Nat.le_refl _) _).trans (BB.out.mono (by simp))⟩
  | true =>
    simp only [Bool.and_eq_true] at hX
    have HX : Hid (intent a rs s = (intTo a rs s rs.length : Nat)) := Lib.hid (by rw [intent, if_pos hX])
    obtain ⟨hi, hs⟩ := hX
    obtain ⟨h0, h6, h8, -⟩ := isCtx_parts hi
    have hsb := isSet_le hs
    have HF := Lib.hid (full_nat h0 (by omega))
    have HW := Lib.hid (row_le hi)
    have HX0 := Lib.hid (intTo_256 hi s)
    clear hi hs
    by_cases hne : rs = []
    · subst hne
      go_wp2_with fail
      refine (impl_full a _).mono ?_
      rintro e w' ⟨rfl, hw⟩
      subst w'
      go_wp2_with fail
      refine wp_loop_rounds 1 ?_
      rw [rounds_succ]
      go_wp2_with fail
      go_ret
      exact ⟨by rw [HX.out, HF.out]; rfl, ((Below.refl _ _).alloc (Nat.le_refl _) _).trans (BB.out.mono (by simp))⟩
    · obtain ⟨_, _, _, hv, hcells⟩ := HR.out
      injection hv with e1 e2 e3
      subst e1 e3
      clear e2
      obtain ⟨bk, o, rfl, hb, gca⟩ := hcells (by simpa [ints] using hne)
      simp only [ints, List.length_map] at gca
      have HD := Lib.hid gca
      clear gca hcells hne
      go_wp2_with fail
      refine (impl_full a _).mono ?_
      rintro e w' ⟨rfl, hw⟩
      subst w'
      rw [HF.out]
      go_wp2_with fail
      go_loop [5, 18] (fun t i => ∃ k : Nat, k ≤ rs.length ∧ i = .int .i64 k ∧ ∃ x : Nat, t = .int .i64 x ∧ x < 256 ∧ Hid (x = intTo a rs s k)) (fun _ i => rs.length - (intOf i).toNat)
      case atStart => exact ⟨0, Nat.zero_le _, rfl, _, rfl, HX0.out 0, Lib.hid rfl⟩
      case round =>
        obtain ⟨k, hk, rfl, x, rfl, hx, HXk⟩ := hrel
        by_cases hlt : k < rs.length
        · have c2 : w1.cell? ⟨bk, o + k, none⟩ = some (.int .i64 (rs.getD k 0)) := by
            rw [BB.out.cell (p := ⟨bk, o + k, none⟩) (by simp; omega), World.cell?_alloc_lt _ _ _ (by show bk < _; omega), HD.out k hlt, ints_get rs k hlt]
          have hy := HW.out k
          generalize hgy : rs.getD k 0 = y at c2 hy
          have HY := Lib.hid hgy
          clear hgy
          have hbw : (bits .and .i64 (s / 2 ^ k) 1 == 1) = bit s k := bit_walk s k (by omega) hsb
          cases hbt : bit s k with
          | true =>
            have HB := Lib.hid hbt
            rw [hbt] at hbw
            clear hbt
            go_wp2_with fail
            go_round
            case rel =>
              refine ⟨k + 1, by omega, by simp, x &&& y.toNat, by rw [and_row x y hx hy], and_lt x _ hx, Lib.hid ?_⟩
              rw [intTo, HB.out, if_pos rfl, HY.out, ← HXk.out]
            case measure => simp [intOf]; omega
          | false =>
            have HB := Lib.hid hbt
            rw [hbt] at hbw
            clear hbt
            go_wp2_with fail
            go_round
            case rel =>
              refine ⟨k + 1, by omega, by simp, x, rfl, hx, Lib.hid ?_⟩
              rw [intTo, HB.out, ← HXk.out]; rfl
            case measure => simp [intOf]; omega
        · have hkn : k = rs.length := by omega
          go_wp2_with fail
          go_ret
          exact ⟨by rw [HX.out, HXk.out, hkn]; rfl, ((Below.refl _ _).alloc (Nat.le_refl _) _).trans (BB.out.mono (by simp))⟩
set_option maxHeartbeats 400000 in
theorem impl_extent (a : Int) (v : Value) (rs : List Int) (s : Int) (B : Nat) (w : World) (hr : Reads w B v (ints rs)) (hB : B ≤ w.heap.size) :
    Calls Try.prog 101 #[ctx a v, .int .i64 s] w fun e w' => e = .returned (.int .i64 (extent a rs s)) ∧ Below w.heap.size w w' := by
  obtain ⟨aa, ca, rfl⟩ := reads_form hr
  have HR := Lib.hid hr
  clear hr
  go_enter Try.func101, Try.ntmps101
  go_wp2_with fail
  refine (hasAtt a _ rs s B _ (boxed HR.out hB _) (by simp; omega)).mono ?_
  rintro e w1 ⟨rfl, b⟩
  obtain ⟨hc, hf⟩ := bcell b
  have hz := b.size
  simp at hz
  have BB := Lib.hid b
  have HR1 := Lib.hid ((boxed HR.out hB (.cells #[.int .i64 a, .slice aa rs.length ca] 26)).below b (by simp; omega))
  clear b
  generalize hX : (isCtx a rs && isSet a s) = X
  cases X with
  | false =>
    have HX : Hid (extent a rs s = 0) := Lib.hid (by rw [extent, if_neg (by simpa using hX)])
    clear hX
    go_wp2_with fail
    go_ret
    exact ⟨by rw [HX.out]; rfl, ((Below.refl _ _).alloc (Nat.le_refl _) _).trans (BB.out.mono (by simp))⟩
  | true =>
    simp only [Bool.and_eq_true] at hX
    have HX : Hid (extent a rs s = (exTo rs s a.toNat : Nat)) := Lib.hid (by rw [extent, if_pos hX, exTo_ext rs hX.2])
    obtain ⟨hi, hs⟩ := hX
    obtain ⟨h0, h6, h8, -⟩ := isCtx_parts hi
    have hsb := isSet_le hs
    have HF := Lib.hid (full_nat (a := rs.length) (by omega) (by omega))
    have HI := Lib.hid hi
    have HX0 : Hid (∀ k, exTo rs s k < 256) := Lib.hid fun k => Nat.lt_of_lt_of_le (exTo_lt rs s k) (pow_le8 h8)
    have HC0 : Hid (∀ m : Nat, colTo rs m rs.length < 256) := Lib.hid fun m => Nat.lt_of_lt_of_le (colTo_lt rs m _) (pow_le8 h8)
    have q0 : w1.cell? ⟨w.heap.size, 0, none⟩ = some (.int .i64 a) := by rw [hc _ _ (by simp)]; simp
    have q1 : w1.cell? ⟨w.heap.size, 1, none⟩ = some (.slice aa rs.length ca) := by rw [hc _ _ (by simp)]; simp
    clear hi hs hc hf
    go_wp2_with fail
    refine (impl_full rs.length _).mono ?_
    rintro e w' ⟨rfl, hw⟩
    subst w'
    rw [HF.out]
    go_wp2_with fail
    go_loopw [5, 17] (fun t i wr => ∃ k : Nat, k ≤ a.toNat ∧ i = .int .i64 k ∧ ∃ x : Nat, t = .int .i64 x ∧ x < 256 ∧ Hid (x = exTo rs s k) ∧ Hid (Below w1.heap.size w1 wr)) (fun _ i _ => a.toNat - (intOf i).toNat)
    case atStart => exact ⟨0, Nat.zero_le _, rfl, _, rfl, by have := HX0.out 0; simpa [exTo] using this, Lib.hid (by simp [exTo]), Lib.hid (Below.refl _ _)⟩
    case round =>
      obtain ⟨k, hk, rfl, x, rfl, hx, HXk, hbel⟩ := hrel
      have c0 : wr.cell? ⟨w.heap.size, 0, none⟩ = some (.int .i64 a) := (hbel.out.cell (p := ⟨w.heap.size, 0, none⟩) (by show w.heap.size < _; omega)).trans q0
      have c1 : wr.cell? ⟨w.heap.size, 1, none⟩ = some (.slice aa rs.length ca) := (hbel.out.cell (p := ⟨w.heap.size, 1, none⟩) (by show w.heap.size < _; omega)).trans q1
      have hzr := hbel.out.size
      by_cases hlt : k < a.toNat
      · have hbw : (bits .and .i64 (s / 2 ^ k) 1 == 1) = bit s k := bit_walk s k (by omega) hsb
        have HCk := Lib.hid (show colOf a rs k = (colTo rs k rs.length : Nat) by rw [colOf, if_pos ⟨HI.out, by omega, by omega⟩])
        have hy := HC0.out k
        have HRk := Lib.hid (HR1.out.below hbel.out (by omega))
        cases hbt : bit s k with
        | true =>
          have HB := Lib.hid hbt
          rw [hbt] at hbw
          clear hbt
          go_wp2_with fail
          refine (impl_col a _ rs k B _ HRk.out (by omega)).mono ?_
          rintro e w2 ⟨rfl, b2⟩
          rw [HCk.out]
          have B2 := Lib.hid (hbel.out.trans (b2.mono hzr))
          clear b2
          go_wp2_with fail
          go_roundw
          case rel =>
            refine ⟨k + 1, by omega, by simp, x &&& colTo rs k rs.length, by rw [and_nat x _ hx hy], and_lt x _ hx, Lib.hid ?_, B2⟩
            rw [exTo, HB.out, if_pos rfl, ← HXk.out]
          case measure => simp [intOf]; omega
        | false =>
          have HB := Lib.hid hbt
          rw [hbt] at hbw
          clear hbt
          go_wp2_with fail
          go_roundw
          case rel =>
            refine ⟨k + 1, by omega, by simp, x, rfl, hx, Lib.hid ?_, hbel⟩
            rw [exTo, HB.out, ← HXk.out]; rfl
          case measure => simp [intOf]; omega
      · have hkn : k = a.toNat := by omega
        go_wp2_with fail
        go_ret
        exact ⟨by rw [HX.out, HXk.out, hkn]; rfl, (((Below.refl _ _).alloc (Nat.le_refl _) _).trans (BB.out.mono (by simp))).trans (hbel.out.mono (by omega))⟩
theorem keepq {w w' : World} {B : Nat} {p q : Addr} {x y : Value} (hb : Below B w w') (h : w.cell? p = some x ∧ w.cell? q = some y) (hp : p.block < B) (hq : q.block < B) : w'.cell? p = some x ∧ w'.cell? q = some y :=
  ⟨(hb.cell hp).trans h.1, (hb.cell hq).trans h.2⟩
theorem l4Closure (a : Int) (v : Value) (rs : List Int) (s : Int) (B : Nat) (w : World) (hr : Reads w B v (ints rs)) (hB : B ≤ w.heap.size) (hi : isCtx a rs = true) (hs : 0 ≤ s ∧ s ≤ 255) :
    Calls Try.prog 71 #[ctx a v, .int .i64 s] w fun e w' => e = .returned (.int .i64 (intTo a rs (extTo rs s rs.length : Nat) rs.length : Nat)) ∧ Below w.heap.size w w' := by
  obtain ⟨aa, ca, rfl⟩ := reads_form hr
  have HR := Lib.hid hr
  clear hr
  have he := extTo_256 hi s
  have H1 := Lib.hid (fun v w h hB => l4Extent a v rs s B w h hB hi hs)
  obtain ⟨x, hx⟩ : ∃ x, extTo rs s rs.length = x := ⟨_, rfl⟩
  rw [hx] at H1 he ⊢
  have H2 := Lib.hid (fun v w h hB => l4Intent a v rs x B w h hB hi (by omega))
  obtain ⟨y, hy⟩ : ∃ y, intTo a rs x rs.length = y := ⟨_, rfl⟩
  rw [hy] at H2 ⊢
  have HY := Lib.hid (rfl : y = y)
  clear hx hy he hi
  go_enter Try.func71, Try.ntmps71
  go_wp2_with fail
  have q0 : (w.alloc (.cells #[.int .i64 a, .slice aa rs.length ca] 26)).cell? ⟨w.heap.size, 0, none⟩ = some (.int .i64 a) := by simp
  have q1 : (w.alloc (.cells #[.int .i64 a, .slice aa rs.length ca] 26)).cell? ⟨w.heap.size, 1, none⟩ = some (.slice aa rs.length ca) := by simp
  have HR1 := Lib.hid (boxed HR.out hB (.cells #[.int .i64 a, .slice aa rs.length ca] 26))
  have hW := (Below.refl w.heap.size w).alloc (Nat.le_refl _) (.cells #[.int .i64 a, .slice aa rs.length ca] 26)
  have hz : w.heap.size < (w.alloc (.cells #[.int .i64 a, .slice aa rs.length ca] 26)).heap.size := by simp
  generalize w.alloc (.cells #[.int .i64 a, .slice aa rs.length ca] 26) = W at q0 q1 HR1 hW hz ⊢
  go_region_held3 (fun wx => wx.cell? ⟨w.heap.size, 0, none⟩ = some (.int .i64 a) ∧ wx.cell? ⟨w.heap.size, 1, none⟩ = some (.slice aa rs.length ca))
    (first | exact ⟨q0, q1⟩ | exact keepq (w := W.drew) (B := W.heap.size) b2 ⟨q0, q1⟩ hz hz | exact keepq (w := W.drew) (B := W.heap.size) (b2.trans (b3.mono b2.size)) ⟨q0, q1⟩ hz hz)
    (first | (go_at_call 110; refine (H1.out _ W.drew (HR1.out.below (Below.refl W.heap.size W).drew (by omega)) (by show B ≤ W.heap.size; omega)).mono ?_; rintro e w2 ⟨rfl, b2⟩) | (go_at_call 109; refine (H2.out _ w2 ((HR1.out.below (Below.refl W.heap.size W).drew (by omega)).below b2 (by show B ≤ W.heap.size; omega)) (by have := b2.size; change W.heap.size ≤ w2.heap.size at this; omega)).mono ?_; rintro e w3 ⟨rfl, b3⟩) | fail)
  have hbb := hW.trans (((Below.refl W.heap.size W).drew.trans (b2.trans (b3.mono b2.size))).mono (by omega))
  clear b2 b3
  go_wp2_with fail
  go_ret
  exact ⟨rfl, hbb⟩
set_option maxHeartbeats 400000 in
theorem spec_closure (a : Int) (v : Value) (rs : List Int) (s : Int) (B : Nat) (w : World) (hr : Reads w B v (ints rs)) (hB : B ≤ w.heap.size) :
    Calls Try.prog 28 #[ctx a v, .int .i64 s] w fun e w' => e = .returned (.int .i64 (closure a rs s)) ∧ Below w.heap.size w w' := by
  obtain ⟨aa, ca, rfl⟩ := reads_form hr
  have HR := Lib.hid hr
  clear hr
  go_enter Try.func28, Try.ntmps28
  go_wp2_with fail
  refine (spec_isCtx a _ rs B _ (boxed HR.out hB _) (by simp; omega)).mono ?_
  rintro e W ⟨rfl, b⟩
  obtain ⟨hc, hf⟩ := bcell b
  have hz := b.size
  simp at hz
  have HR1 := Lib.hid ((boxed HR.out hB (.cells #[.int .i64 a, .slice aa rs.length ca] 26)).below b (by simp; omega))
  have hW := ((Below.refl w.heap.size w).alloc (Nat.le_refl _) (.cells #[.int .i64 a, .slice aa rs.length ca] 26)).trans (b.mono (by simp))
  have q0 : W.cell? ⟨w.heap.size, 0, none⟩ = some (.int .i64 a) := by rw [hc _ _ (by simp)]; simp
  have q1 : W.cell? ⟨w.heap.size, 1, none⟩ = some (.slice aa rs.length ca) := by rw [hc _ _ (by simp)]; simp
  clear b hc hf
  cases hi : isCtx a rs with
  | false =>
    have HX : Hid (closure a rs s = 0) := Lib.hid (by simp [closure, hi])
    clear hi
    go_wp2_with fail
    go_ret
    exact ⟨by rw [HX.out]; rfl, hW⟩
  | true =>
    cases hs : isSet a s with
    | false =>
      have HX : Hid (closure a rs s = 0) := Lib.hid (by simp [closure, hs])
      clear hi
      go_wp2_with fail
      refine (spec_isSet _ _ _).mono ?_
      rintro e w' ⟨rfl, hw⟩
      subst w'
      rw [hs]
      go_wp2_with fail
      go_ret
      exact ⟨by rw [HX.out]; rfl, hW⟩
    | true =>
      have HX : Hid (closure a rs s = ((intTo a rs (extTo rs s rs.length : Nat) rs.length : Nat) : Int)) := Lib.hid (by simp [closure, hi, hs])
      have hsb := isSet_le hs
      have H1 := Lib.hid (fun v w h hB => l4Closure a v rs s B w h hB hi hsb)
      clear hi
      go_wp2_with fail
      refine (spec_isSet _ _ _).mono ?_
      rintro e w' ⟨rfl, hw⟩
      subst w'
      rw [hs]
      clear hs
      go_wp2_with fail
      refine (H1.out _ W HR1.out (by omega)).mono ?_
      rintro e w2 ⟨rfl, b2⟩
      go_wp2_with fail
      go_ret
      exact ⟨by rw [HX.out]; rfl, hW.trans (b2.mono (by omega))⟩
set_option maxHeartbeats 400000 in
theorem impl_closure (a : Int) (v : Value) (rs : List Int) (s : Int) (B : Nat) (w : World) (hr : Reads w B v (ints rs)) (hB : B ≤ w.heap.size) :
    Calls Try.prog 58 #[ctx a v, .int .i64 s] w fun e w' => e = .returned (.int .i64 (closure a rs s)) ∧ Below w.heap.size w w' := by
  obtain ⟨aa, ca, rfl⟩ := reads_form hr
  have HR := Lib.hid hr
  clear hr
  go_enter Try.func58, Try.ntmps58
  go_wp2_with fail
  refine (hasAtt a _ rs s B _ (boxed HR.out hB _) (by simp; omega)).mono ?_
  rintro e W ⟨rfl, b⟩
  obtain ⟨hc, hf⟩ := bcell b
  have hz := b.size
  simp at hz
  have HR1 := Lib.hid ((boxed HR.out hB (.cells #[.int .i64 a, .slice aa rs.length ca] 26)).below b (by simp; omega))
  have hW := ((Below.refl w.heap.size w).alloc (Nat.le_refl _) (.cells #[.int .i64 a, .slice aa rs.length ca] 26)).trans (b.mono (by simp))
  have q0 : W.cell? ⟨w.heap.size, 0, none⟩ = some (.int .i64 a) := by rw [hc _ _ (by simp)]; simp
  have q1 : W.cell? ⟨w.heap.size, 1, none⟩ = some (.slice aa rs.length ca) := by rw [hc _ _ (by simp)]; simp
  clear b hc hf
  generalize hX : (isCtx a rs && isSet a s) = X
  cases X with
  | false =>
    have HX : Hid (closure a rs s = 0) := Lib.hid (by rw [closure, if_neg (by simpa using hX)])
    clear hX
    go_wp2_with fail
    go_ret
    exact ⟨by rw [HX.out]; rfl, hW⟩
  | true =>
    simp only [Bool.and_eq_true] at hX
    obtain ⟨hi, hs⟩ := hX
    have H1 := Lib.hid (fun v w h hB => impl_extent a v rs s B w h hB)
    have HY0 := intent_extent hi hs
    obtain ⟨x, hx⟩ : ∃ x, extent a rs s = x := ⟨_, rfl⟩
    rw [hx] at H1 HY0
    have H2 := Lib.hid (fun v w h hB => impl_intent a v rs x B w h hB)
    rw [HY0] at H2
    have HY := Lib.hid (rfl : (0 : Nat) = 0)
    clear hx HY0
    clear hi hs
    go_wp2_with fail
    go_region_held3 (fun wx => wx.cell? ⟨w.heap.size, 0, none⟩ = some (.int .i64 a) ∧ wx.cell? ⟨w.heap.size, 1, none⟩ = some (.slice aa rs.length ca))
      (first | exact ⟨q0, q1⟩ | exact keepq (w := W.drew) (B := W.heap.size) b2 ⟨q0, q1⟩ hz hz | exact keepq (w := W.drew) (B := W.heap.size) (b2.trans (b3.mono b2.size)) ⟨q0, q1⟩ hz hz)
      (first | (go_at_call 101; refine (H1.out _ W.drew (HR1.out.below (Below.refl W.heap.size W).drew (by omega)) (by show B ≤ W.heap.size; omega)).mono ?_; rintro e w2 ⟨rfl, b2⟩) | (go_at_call 100; refine (H2.out _ w2 ((HR1.out.below (Below.refl W.heap.size W).drew (by omega)).below b2 (by show B ≤ W.heap.size; omega)) (by have := b2.size; change W.heap.size ≤ w2.heap.size at this; omega)).mono ?_; rintro e w3 ⟨rfl, b3⟩) | fail)
    have hbb := hW.trans (((Below.refl W.heap.size W).drew.trans (b2.trans (b3.mono b2.size))).mono (by omega))
    clear b2 b3
    go_wp2_with fail
    go_ret
    exact ⟨rfl, hbb⟩
end Go.Proofs.Ythodmmckekgkdaa.Ctx
