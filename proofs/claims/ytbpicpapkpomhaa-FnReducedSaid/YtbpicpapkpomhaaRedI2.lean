/-
  Chapter 7 of the program: repeated sets, common parts.
-/
import Derived.Test.YtbpicpapkpomhaaRedI
import Derived.Test.YtbpicpapkpomhaaBits
import Derived.Maps.OwnOps
import Derived.Maps.Views
namespace Go.Proofs.Ytbpicpapkpomhaa.Ctx
open Go Go.RowKit Mem Sets Elems Tab
set_option maxRecDepth 100000

theorem plainElem_bool_inv {H : Type} {P : Program} {e : TypeId} (he : P.underlying e = some .bool) {v : Value} {z : DataW H × List MemPlace} (h : plainElem P e v = some z) : ∃ x, v = .bool x ∧ z = (.lit (.bool x), []) := by
  unfold plainElem at h
  rw [he] at h
  cases v <;> simp at h
  exact ⟨_, rfl, h.symm⟩
/-- A look-up in a map of bools that the call has made. -/
theorem wpList_lookup_own_bool {H : Type} {P : Program} (w : World) {ops : Array Oper} {rest : List Oper} {o : Oper} {a : Act} {Q : Exit → Act → World → Prop}
    (hg : o.guard = none) (m x : Operand) (t : TypeId) (hop : o.op = Op.lookup t m x false)
    (k e : TypeId) (K : Maps.Keyed P k) (ht : P.underlying t = some (.map k e)) (he : P.underlying e = some .bool) (hz : (zeroValue e).run P w = .ok (.bool false) w) (b n : Nat) (D : DataW H)
    (hm : a.eval m = .map (some b)) (hown : w.ownsMap P k (plainElem P e) b n D) (key : Value) (kl : Lit) (hx : a.eval x = key) (hkey : keyOf P k key = some kl) (c : Bool) (hat : D.atKey kl (.lit (.bool false)) = .lit (.bool c))
    (hK : wpList P ops Q rest (a.put o.dst (.bool c)) w) :
    wpList P ops Q (o :: rest) a w := by
  refine wpList_plain hg fun K' hK' => ?_
  obtain ⟨v, ps, hrun, hv⟩ := hown.lookup K ht hz (plainElem_bool he false) hkey
  obtain ⟨c', rfl, hc⟩ := plainElem_bool_inv he hv
  simp only [Prod.mk.injEq] at hc
  have e1 : c' = c := by
    have := hc.1.symm.trans hat
    simpa using this
  subst e1
  unfold Oper.wp
  simp [execOp, hop, hm, hx, hrun, Result.andThen]
  exact hK' _ _ hK

/-- The map of the first k numbers of a list. -/
def seenTo (xs : List Int) : Nat → DataW Unit
  | 0 => .map []
  | k + 1 => (seenTo xs k).put (.int .i64 (xs.getD k 0)) (.lit (.bool true))
theorem seenTo_isMap (xs : List Int) : ∀ k, Maps.IsMap (seenTo xs k)
  | 0 => Maps.isMap_empty
  | k + 1 => (seenTo_isMap xs k).put _ _
theorem seenTo_at (xs : List Int) (x : Int) : ∀ k, k ≤ xs.length → (seenTo xs k).atKey (.int .i64 x) (.lit (.bool false)) = .lit (.bool ((xs.take k).contains x))
  | 0, _ => by simp [seenTo]; rfl
  | k + 1, hk => by
    have hm : (xs.take (k + 1)).contains x = ((xs.take k).contains x || decide (x = xs.getD k 0)) := by
      rw [Bool.eq_iff_iff, List.contains_iff_mem, take_mem (by omega), Bool.or_eq_true, List.contains_iff_mem, decide_eq_true_eq]
    rw [seenTo, hm]
    by_cases h : x = xs.getD k 0
    · subst h
      rw [Maps.atKey_put_same (seenTo_isMap xs k) (k := Lit.int .i64 _) trivial, decide_eq_true rfl, Bool.or_true]
    · rw [Maps.atKey_put_other (by simpa using h), seenTo_at xs x k (by omega), decide_eq_false h, Bool.or_false]
theorem wf_small {x : Int} (h : 0 ≤ x ∧ x ≤ 255) : (Lit.int .i64 x).wf = true := by
  have e1 : IntKind.i64.min = -9223372036854775808 := by decide
  simp [Lit.wf, e1]; omega
theorem keyedInt : Maps.Keyed Try.prog 3 := Maps.int_keyed Try.underlying3
theorem zeroBool (w : World) : (zeroValue 4).run Try.prog w = .ok (.bool false) w := by kernel_rfl
set_option maxHeartbeats 4000000 in
theorem repeated (v : Value) (xs : List Int) (B : Nat) (w : World) (hr : Reads w B v (ints xs)) (hB : B ≤ w.heap.size) (hl : xs.length ≤ 8) (hx : ∀ k, k < xs.length → 0 ≤ xs.getD k 0 ∧ xs.getD k 0 ≤ 255) :
    Calls Try.prog 57 #[v] w fun e w' => e = .returned (.int .i64 (dupTo xs xs.length : Nat)) ∧ Below w.heap.size w w' := by
  have hmm := @run_makeMap Try.prog
  obtain ⟨_, aa, ca, rfl, hca⟩ := hr
  simp only [ints, List.length_map] at hca ⊢
  have HC := Lib.hid hca
  have HX := Lib.hid hx
  clear hca hx
  by_cases hne : xs = []
  · subst hne
    go_enter Try.func57, Try.ntmps57
    go_wp2_with fail
    refine wp_loop_rounds 1 ?_
    rw [rounds_succ]
    go_wp2_with fail
    go_ret
    exact ⟨rfl, (Below.refl _ _).alloc (Nat.le_refl _) _⟩
  · obtain ⟨b, o, rfl, hb, gca⟩ := HC.out (by simpa using hne)
    have HD := Lib.hid gca
    clear gca HC hne
    go_enter Try.func57, Try.ntmps57
    go_wp2_with fail
    go_loopw [3, 10] (fun t i wr => ∃ k x : Nat, k ≤ xs.length ∧ i = .int .i64 k ∧ t = .int .i64 x ∧ x < 256 ∧ Hid (x = dupTo xs k) ∧ Hid (wr.ownsMap Try.prog 3 (plainElem (H := Unit) Try.prog 4) w.heap.size k (seenTo xs k)) ∧ Hid (Below w.heap.size w wr)) (fun _ i _ => xs.length - (intOf i).toNat)
    case atStart => exact ⟨0, 0, Nat.zero_le _, rfl, rfl, by omega, Lib.hid rfl, Lib.hid (World.ownsMap_made _ _ _ _), Lib.hid ((Below.refl _ _).alloc (Nat.le_refl _) _)⟩
    case round =>
      obtain ⟨k, x, hk, rfl, rfl, hx, HXk, hown, hbel⟩ := hrel
      by_cases hlt : k < xs.length
      · have c2 : wr.cell? ⟨b, o + k, none⟩ = some (.int .i64 (xs.getD k 0)) := by rw [hbel.out.cell (p := ⟨b, o + k, none⟩) (by show b < _; omega), HD.out k hlt, ints_get xs k hlt]
        have hwf := wf_small (HX.out k hlt)
        have hat := seenTo_at xs (xs.getD k 0) k (by omega)
        have HKL : Hid (k < maxLen) := Lib.hid (by unfold maxLen; omega)
        have hput : seenTo xs (k + 1) = (seenTo xs k).put (.int .i64 (xs.getD k 0)) (.lit (.bool true)) := rfl
        have HPUT := Lib.hid hput
        clear hput
        cases hbt : (xs.take k).contains (xs.getD k 0) with
        | true =>
          have HST := Lib.hid (dupTo_yes hbt)
          rw [hbt] at hat
          clear hbt
          generalize xs.getD k 0 = y at c2 hwf hat HPUT
          generalize seenTo xs k = D at hat HPUT hown
          have HAT := Lib.hid hat
          have hkey : keyOf Try.prog 3 (.int .i64 y) = some (.int .i64 y) := Maps.keyOf_int_mk Try.underlying3 hwf
          clear hat hwf
          go_wp2_with (first
            | (at_lookup; refine wpList_lookup_own_bool _ rfl _ _ 72 rfl 3 4 keyedInt Try.underlying72 Try.underlying4 (zeroBool _) w.heap.size k _ rfl hown.out _ _ rfl hkey true HAT.out ?_)
            | (at_mapUpdate; refine wpList_mapUpdate_own _ rfl _ _ _ 72 rfl 3 4 keyedInt Try.underlying72 _ w.heap.size k _ rfl hown.out HKL.out _ _ _ rfl rfl hkey _ [] (plainElem_bool Try.underlying4 true) ?_; intro w1 hown1 hgrow1))
          have O1 := Lib.hid hown1
          have B1 := Lib.hid (hbel.out.grown hgrow1 hbel.out.size (fun j hj => by cases hj; exact Nat.le_refl _))
          clear hown1 hgrow1
          go_wp2_with fail
          go_roundw
          case rel => exact ⟨k + 1, x ||| 2 ^ k, by omega, by simp, by rw [or_pow x k hx (by omega)], Nat.or_lt_two_pow (n := 8) hx (Nat.pow_lt_pow_right (by omega) (by omega)), Lib.hid (by rw [HST.out, ← HXk.out]), Lib.hid (by rw [HPUT.out]; exact O1.out), B1⟩
          case measure => simp [intOf]; omega
        | false =>
          have HST := Lib.hid (dupTo_no hbt)
          rw [hbt] at hat
          clear hbt
          generalize xs.getD k 0 = y at c2 hwf hat HPUT
          generalize seenTo xs k = D at hat HPUT hown
          have HAT := Lib.hid hat
          have hkey : keyOf Try.prog 3 (.int .i64 y) = some (.int .i64 y) := Maps.keyOf_int_mk Try.underlying3 hwf
          clear hat hwf
          go_wp2_with (first
            | (at_lookup; refine wpList_lookup_own_bool _ rfl _ _ 72 rfl 3 4 keyedInt Try.underlying72 Try.underlying4 (zeroBool _) w.heap.size k _ rfl hown.out _ _ rfl hkey false HAT.out ?_)
            | (at_mapUpdate; refine wpList_mapUpdate_own _ rfl _ _ _ 72 rfl 3 4 keyedInt Try.underlying72 _ w.heap.size k _ rfl hown.out HKL.out _ _ _ rfl rfl hkey _ [] (plainElem_bool Try.underlying4 true) ?_; intro w1 hown1 hgrow1))
          have O1 := Lib.hid hown1
          have B1 := Lib.hid (hbel.out.grown hgrow1 hbel.out.size (fun j hj => by cases hj; exact Nat.le_refl _))
          clear hown1 hgrow1
          go_wp2_with fail
          go_roundw
          case rel => exact ⟨k + 1, x, by omega, by simp, rfl, hx, Lib.hid (by rw [HST.out, ← HXk.out]), Lib.hid (by rw [HPUT.out]; exact O1.out), B1⟩
          case measure => simp [intOf]; omega
      · have HK := Lib.hid (show k = xs.length by omega)
        go_wp2_with fail
        go_ret
        exact ⟨by rw [HXk.out, HK.out]; rfl, hbel.out⟩
theorem sub_row (x y : Int) (hx : 0 ≤ x ∧ x ≤ 255) (hy : 0 ≤ y ∧ y ≤ 255) : sub x y = decide (y.toNat &&& x.toNat = x.toNat) := by
  rw [sub, isSet8_true hx, isSet8_true hy, subB]
  obtain ⟨n, rfl⟩ := Int.eq_ofNat_of_zero_le hx.1
  obtain ⟨m, rfl⟩ := Int.eq_ofNat_of_zero_le hy.1
  rw [and_nat n m (by omega) (by omega), Bool.true_and, Bool.true_and, Bool.eq_iff_iff, Nat.and_comm]
  simp only [beq_iff_eq, decide_eq_true_eq, Int.toNat_natCast]
  omega
set_option maxHeartbeats 4000000 in
theorem beyond (v : Value) (xs : List Int) (n f : Nat) (B : Nat) (w : World) (hr : Reads w B v (ints xs)) (hn : n < xs.length) (hl : xs.length ≤ 8) (hf : f < 256) (hx : ∀ k, k < xs.length → 0 ≤ xs.getD k 0 ∧ xs.getD k 0 ≤ 255) :
    Calls Try.prog 87 #[v, .int .i64 n, .int .i64 f] w fun e w' => e = .returned (.int .i64 (bey f xs n : Nat)) ∧ w' = w := by
  have hne : xs ≠ [] := by rintro rfl; simp at hn
  obtain ⟨_, aa, ca, rfl, hca⟩ := hr
  simp only [ints, List.length_map] at hca ⊢
  obtain ⟨b, o, rfl, hb, gca⟩ := hca (by simpa using hne)
  have HD := Lib.hid gca
  have HX := Lib.hid hx
  have HF := Lib.hid (fun k => cpTo_lt hf (xs.getD n 0) xs k)
  clear hca gca hx hne
  have cn : w.cell? ⟨b, o + n, none⟩ = some (.int .i64 (xs.getD n 0)) := by rw [HD.out n hn, ints_get xs n hn]
  have hxn := HX.out n hn
  have HV : Hid (bits .andNot .i64 ((cpTo f (xs.getD n 0) xs xs.length : Nat) : Int) (xs.getD n 0) = ((bey f xs n : Nat) : Int)) := Lib.hid (by
    obtain ⟨m, hm⟩ := Int.eq_ofNat_of_zero_le hxn.1
    rw [bey, hm, Int.toNat_natCast]
    exact andNot_minus _ m (HF.out _ |> fun h => by rw [← hm]; exact h))
  generalize bey f xs n = R at *
  have HY := Lib.hid fun k => cpTo_yes (f := f) (x := xs.getD n 0) (xs := xs) (k := k)
  have HN := Lib.hid fun k => cpTo_no (f := f) (x := xs.getD n 0) (xs := xs) (k := k)
  generalize xs.getD n 0 = x at *
  go_enter Try.func87, Try.ntmps87
  go_wp2_with fail
  go_loop [7, 13] (fun t i => ∃ k c : Nat, k ≤ xs.length ∧ i = .int .i64 k ∧ t = .int .i64 c ∧ c < 256 ∧ Hid (c = cpTo f x xs k)) (fun _ i => xs.length - (intOf i).toNat)
  case atStart => exact ⟨0, f, Nat.zero_le _, rfl, rfl, hf, Lib.hid rfl⟩
  case round =>
    obtain ⟨k, c, hk, rfl, rfl, hc, HC⟩ := hrel
    by_cases hlt : k < xs.length
    · have c2 : w.cell? ⟨b, o + k, none⟩ = some (.int .i64 (xs.getD k 0)) := by rw [HD.out k hlt, ints_get xs k hlt]
      have hy := HX.out k hlt
      have hY := Lib.hid (HY.out k)
      have hN := Lib.hid (HN.out k)
      generalize xs.getD k 0 = y at c2 hy hY hN
      have HS := Lib.hid (fun w => impl_sub x y w)
      rw [sub_row x y hxn hy] at HS
      by_cases hyx : y = x
      · have d0 : (y != x) = false := by simp [hyx]
        have HST := Lib.hid (hN.out (fun h => h.1 hyx))
        clear hyx HS
        go_wp2_with fail
        go_round
        case rel => exact ⟨k + 1, c, by omega, by simp, rfl, hc, Lib.hid (by rw [HST.out, ← HC.out])⟩
        case measure => simp [intOf]; omega
      · have d0 : (y != x) = true := by simp [hyx]
        by_cases hs : y.toNat &&& x.toNat = x.toNat
        · have HST := Lib.hid (hY.out ⟨hyx, hs⟩)
          rw [decide_eq_true hs] at HS
          clear hyx hs
          go_wp2_with fail
          refine (HS.out _).mono ?_
          rintro e w' ⟨rfl, hw⟩
          subst w'
          go_wp2_with fail
          go_round
          case rel => exact ⟨k + 1, c &&& y.toNat, by omega, by simp, by rw [and_row c y hc hy], and_lt c _ hc, Lib.hid (by rw [HST.out, ← HC.out])⟩
          case measure => simp [intOf]; omega
        · have HST := Lib.hid (hN.out (fun h => hs h.2))
          rw [decide_eq_false hs] at HS
          clear hyx hs
          go_wp2_with fail
          refine (HS.out _).mono ?_
          rintro e w' ⟨rfl, hw⟩
          subst w'
          go_wp2_with fail
          go_round
          case rel => exact ⟨k + 1, c, by omega, by simp, rfl, hc, Lib.hid (by rw [HST.out, ← HC.out])⟩
          case measure => simp [intOf]; omega
    · have HK := Lib.hid (show k = xs.length by omega)
      go_wp2_with fail
      go_ret
      exact ⟨by rw [← HV.out, HC.out, HK.out]; rfl, rfl⟩
theorem common_ (v : Value) (xs : List Int) (n m : Nat) (B : Nat) (w : World) (hr : Reads w B v (ints xs)) (hn : n < xs.length) (hl : xs.length ≤ 8) (hm : m ≤ 8) (hx : ∀ k, k < xs.length → 0 ≤ xs.getD k 0 ∧ xs.getD k 0 < 2 ^ m) :
    Calls Try.prog 75 #[v, .int .i64 n, .int .i64 ((2 ^ m - 1 : Nat) : Int)] w fun e w' => e = .returned (.bool (isCp (2 ^ m - 1) xs n)) ∧ w' = w := by
  have h8 : (2 : Nat) ^ m ≤ 256 := pow_le8 hm
  have h1 : 0 < (2 : Nat) ^ m := Nat.pow_pos (by omega)
  have hx' : ∀ k, k < xs.length → 0 ≤ xs.getD k 0 ∧ xs.getD k 0 ≤ 255 := fun k hk => by
    have := hx k hk
    have h3 : ((2 : Int) ^ m) ≤ 256 := by exact_mod_cast h8
    omega
  have HB := Lib.hid fun w h => beyond v xs n (2 ^ m - 1) B w h hn hl (by omega) hx'
  have HV := Lib.hid (bey_cp (hx n hn).1 (full_holds (hx n hn).1 (hx n hn).2))
  have HR := Lib.hid hr
  generalize 2 ^ m - 1 = f at HB HV ⊢
  clear hr hx hx' h8 h1
  go_enter Try.func75, Try.ntmps75
  go_wp2_with fail
  refine (HB.out _ HR.out).mono ?_
  rintro e w' ⟨rfl, hw⟩
  subst w'
  go_wp2_with fail
  go_ret
  exact ⟨by rw [← HV.out]; rfl, rfl⟩
set_option maxHeartbeats 1600000 in
theorem commons (v : Value) (xs : List Int) (m : Nat) (B : Nat) (w : World) (hr : Reads w B v (ints xs)) (hl : xs.length ≤ 8) (hm : m ≤ 8) (hx : ∀ k, k < xs.length → 0 ≤ xs.getD k 0 ∧ xs.getD k 0 < 2 ^ m) :
    Calls Try.prog 53 #[v, .int .i64 ((2 ^ m - 1 : Nat) : Int)] w fun e w' => e = .returned (.int .i64 (cmTo (2 ^ m - 1) xs xs.length : Nat)) ∧ w' = w := by
  have HI := Lib.hid fun n hn => common_ v xs n m B w hr hn hl hm hx
  generalize 2 ^ m - 1 = f at HI ⊢
  obtain ⟨_, aa, ca, rfl, -⟩ := hr
  simp only [ints, List.length_map] at HI ⊢
  clear hx
  go_enter Try.func53, Try.ntmps53
  go_wp2_with fail
  go_loop [5, 9] (fun t i => ∃ k c : Nat, k ≤ xs.length ∧ i = .int .i64 k ∧ t = .int .i64 c ∧ c < 256 ∧ Hid (c = cmTo f xs k)) (fun _ i => xs.length - (intOf i).toNat)
  case atStart => exact ⟨0, 0, Nat.zero_le _, rfl, rfl, by omega, Lib.hid rfl⟩
  case round =>
    obtain ⟨k, c, hk, rfl, rfl, hc, HC⟩ := hrel
    by_cases hlt : k < xs.length
    · have HK := Lib.hid (HI.out k hlt)
      cases hb : isCp f xs k with
      | true =>
        have HST := Lib.hid (cmTo_yes hb)
        rw [hb] at HK
        clear hb
        go_wp2_with fail
        refine HK.out.mono ?_
        rintro e w' ⟨rfl, hw⟩
        subst w'
        go_wp2_with fail
        go_round
        case rel => exact ⟨k + 1, c ||| 2 ^ k, by omega, by simp, by rw [or_pow c k hc (by omega)], Nat.or_lt_two_pow (n := 8) hc (Nat.pow_lt_pow_right (by omega) (by omega)), Lib.hid (by rw [HST.out, ← HC.out])⟩
        case measure => simp [intOf]; omega
      | false =>
        have HST := Lib.hid (cmTo_no hb)
        rw [hb] at HK
        clear hb
        go_wp2_with fail
        refine HK.out.mono ?_
        rintro e w' ⟨rfl, hw⟩
        subst w'
        go_wp2_with fail
        go_round
        case rel => exact ⟨k + 1, c, by omega, by simp, rfl, hc, Lib.hid (by rw [HST.out, ← HC.out])⟩
        case measure => simp [intOf]; omega
    · have HK := Lib.hid (show k = xs.length by omega)
      go_wp2_with fail
      go_ret
      exact ⟨by rw [HC.out, HK.out]; rfl, rfl⟩
end Go.Proofs.Ytbpicpapkpomhaa.Ctx
