/-
  Chapter 7 of the program: repeated sets, common parts.
-/
import Derived.Test.YtlomfgbmijhgiaaRedI
import Derived.Test.YtlomfgbmijhgiaaBits
import Derived.Maps.OwnOps
import Derived.Maps.Views
namespace Go.Proofs.Ytlomfgbmijhgiaa.Ctx
open Go Go.RowKit Mem Sets Elems Tab
set_option maxRecDepth 100000

theorem plainElem_bool_inv {H : Type} {P : Program} {e : TypeId} (he : P.underlying e = some .bool) {v : Value} {z : DataW H × List MemPlace} (h : plainElem P e v = some z) : ∃ x, v = .bool x ∧ z = (.lit (.bool x), []) := by
  unfold plainElem at h
  rw [he] at h
  cases v <;> simp at h
  exact ⟨_, rfl, h.symm⟩
/-- A look-up in a map of bools that the call has made. -/
theorem wpList_lookup_own_bool {H : Type} {P : Program} (w : World) {ops : Array Oper} {rest : List Oper} {o : Oper} {a : Act} {Q : Exit → Act → World → Prop}
    (hg : o.guard = none) (m x : Operand) (t : TypeId) (hop : o.op = Op.lookup t m x false)
    (k e : TypeId) (K : Maps.Keyed P k) (ht : P.underlying t = some (.map k e)) (he : P.underlying e = some .bool) (hz : (zeroValue e).run P w = .ok (.bool false) w) (b n : Nat) (D : DataW H)
    (hm : a.eval m = .map (some b)) (hown : w.ownsMap P k (plainElem P e) b n D) (key : Value) (kl : Lit) (hx : a.eval x = key) (hkey : keyOf P k key = some kl) (c : Bool) (hat : D.atKey kl (.lit (.bool false)) = .lit (.bool c))
    (hK : wpList P ops Q rest (a.put o.dst (.bool c)) w) :
    wpList P ops Q (o :: rest) a w := by
  refine wpList_plain hg fun K' hK' => ?_
  obtain ⟨v, ps, hrun, hv⟩ := hown.lookup K ht hz (plainElem_bool he false) hkey
  obtain ⟨c', rfl, hc⟩ := plainElem_bool_inv he hv
  simp only [Prod.mk.injEq] at hc
  have e1 : c' = c := by
    have := hc.1.symm.trans hat
    simpa using this
  subst e1
  unfold Oper.wp
  simp [execOp, hop, hm, hx, hrun, Result.andThen]
  exact hK' _ _ hK

/-- The map of the first k numbers of a list. -/
def seenTo (xs : List Int) : Nat → DataW Unit
  | 0 => .map []
  | k + 1 => (seenTo xs k).put (.int .i64 (xs.getD k 0)) (.lit (.bool true))
theorem seenTo_isMap (xs : List Int) : ∀ k, Maps.IsMap (seenTo xs k)
  | 0 => Maps.isMap_empty
  | k + 1 => (seenTo_isMap xs k).put _ _
theorem seenTo_at (xs : List Int) (x : Int) : ∀ k, k ≤ xs.length → (seenTo xs k).atKey (.int .i64 x) (.lit (.bool false)) = .lit (.bool ((xs.take k).contains x))
  | 0, _ => by simp [seenTo]; rfl
  | k + 1, hk => by
    have hm : (xs.take (k + 1)).contains x = ((xs.take k).contains x || decide (x = xs.getD k 0)) := by
      rw [Bool.eq_iff_iff, List.contains_iff_mem, take_mem (by omega), Bool.or_eq_true, List.contains_iff_mem, decide_eq_true_eq]
    rw [seenTo, hm]
    by_cases h : x = xs.getD k 0
    · subst h
      rw [Maps.atKey_put_same (seenTo_isMap xs k) (k := Lit.int .i64 _) trivial, decide_eq_true rfl, Bool.or_true]
    · rw [Maps.atKey_put_other (by simpa using h), seenTo_at xs x k (by omega), decide_eq_false h, Bool.or_false]
theorem wf_small {x : Int} (h : 0 ≤ x ∧ x ≤ 255) : (Lit.int .i64 x).wf = true := by
  have e1 : IntKind.i64.min = -9223372036854775808 := by decide
  simp [Lit.wf, e1]; omega
theorem keyedInt : Maps.Keyed Try.prog 3 := Maps.int_keyed Try.underlying3
theorem zeroBool (w : World) : (zeroValue 4).run Try.prog w = .ok (.bool false) w := by kernel_rfl
set_option maxHeartbeats 4000000 in
theorem repeated (v : Value) (xs : List Int) (B : Nat) (w : World) (hr : Reads w B v (ints xs)) (hB : B ≤ w.heap.size) (hl : xs.length ≤ 8) (hx : ∀ k, k < xs.length → 0 ≤ xs.getD k 0 ∧ xs.getD k 0 ≤ 255) :
    Calls Try.prog 75 #[v] w fun e w' => e = .returned (.int .i64 (dupTo xs xs.length : Nat)) ∧ Below w.heap.size w w' := by
  have hmm := @run_makeMap Try.prog
  obtain ⟨_, aa, ca, rfl, hca⟩ := hr
  simp only [ints, List.length_map] at hca ⊢
  have HC := Lib.hid hca
  have HX := Lib.hid hx
  clear hca hx
  by_cases hne : xs = []
  · subst hne
    go_enter Try.func75, Try.ntmps75
    go_wp2_with fail
    refine wp_loop_rounds 1 ?_
    rw [rounds_succ]
    go_wp2_with fail
    go_ret
    exact ⟨rfl, (Below.refl _ _).alloc (Nat.le_refl _) _⟩
  · obtain ⟨b, o, rfl, hb, gca⟩ := HC.out (by simpa using hne)
    have HD := Lib.hid gca
    clear gca HC hne
    go_enter Try.func75, Try.ntmps75
    go_wp2_with fail
    go_loopw [3, 10] (fun t i wr => ∃ k x : Nat, k ≤ xs.length ∧ i = .int .i64 k ∧ t = .int .i64 x ∧ x < 256 ∧ Hid (x = dupTo xs k) ∧ Hid (wr.ownsMap Try.prog 3 (plainElem (H := Unit) Try.prog 4) w.heap.size k (seenTo xs k)) ∧ Hid (Below w.heap.size w wr)) (fun _ i _ => xs.length - (intOf i).toNat)
    case atStart => exact ⟨0, 0, Nat.zero_le _, rfl, rfl, by omega, Lib.hid rfl, Lib.hid (World.ownsMap_made _ _ _ _), Lib.hid ((Below.refl _ _).alloc (Nat.le_refl _) _)⟩
    case round =>
      obtain ⟨k, x, hk, rfl, rfl, hx, HXk, hown, hbel⟩ := hrel
      by_cases hlt : k < xs.length
      · have c2 : wr.cell? ⟨b, o + k, none⟩ = some (.int .i64 (xs.getD k 0)) := by rw [hbel.out.cell (p := ⟨b, o + k, none⟩) (by show b < _; omega), HD.out k hlt, ints_get xs k hlt]
        have hwf := wf_small (HX.out k hlt)
        have hat := seenTo_at xs (xs.getD k 0) k (by omega)
        have HKL : Hid (k < maxLen) := Lib.hid (by unfold maxLen; omega)
        have hput : seenTo xs (k + 1) = (seenTo xs k).put (.int .i64 (xs.getD k 0)) (.lit (.bool true)) := rfl
        have HPUT := Lib.hid hput
        clear hput
        cases hbt : (xs.take k).contains (xs.getD k 0) with
        | true =>
          have HST := Lib.hid (dupTo_yes hbt)
          rw [hbt] at hat
          clear hbt
          generalize xs.getD k 0 = y at c2 hwf hat HPUT
          generalize seenTo xs k = D at hat HPUT hown
          have HAT := Lib.hid hat
          have hkey : keyOf Try.prog 3 (.int .i64 y) = some (.int .i64 y) := Maps.keyOf_int_mk Try.underlying3 hwf
          clear hat hwf
          go_wp2_with (first
            | (at_lookup; refine wpList_lookup_own_bool _ rfl _ _ 68 rfl 3 4 keyedInt Try.underlying68 Try.underlying4 (zeroBool _) w.heap.size k _ rfl hown.out _ _ rfl hkey true HAT.out ?_)
            | (at_mapUpdate; refine wpList_mapUpdate_own _ rfl _ _ _ 68 rfl 3 4 keyedInt Try.underlying68 _ w.heap.size k _ rfl hown.out HKL.out _ _ _ rfl rfl hkey _ [] (plainElem_bool Try.underlying4 true) ?_; intro w1 hown1 hgrow1))
          have O1 := Lib.hid hown1
          have B1 := Lib.hid (hbel.out.grown hgrow1 hbel.out.size (fun j hj => by cases hj; exact Nat.le_refl _))
          clear hown1 hgrow1
          go_wp2_with fail
          go_roundw
          case rel => exact ⟨k + 1, x ||| 2 ^ k, by omega, by simp, by rw [or_pow x k hx (by omega)], Nat.or_lt_two_pow (n := 8) hx (Nat.pow_lt_pow_right (by omega) (by omega)), Lib.hid (by rw [HST.out, ← HXk.out]), Lib.hid (by rw [HPUT.out]; exact O1.out), B1⟩
          case measure => simp [intOf]; omega
        | false =>
          have HST := Lib.hid (dupTo_no hbt)
          rw [hbt] at hat
          clear hbt
          generalize xs.getD k 0 = y at c2 hwf hat HPUT
          generalize seenTo xs k = D at hat HPUT hown
          have HAT := Lib.hid hat
          have hkey : keyOf Try.prog 3 (.int .i64 y) = some (.int .i64 y) := Maps.keyOf_int_mk Try.underlying3 hwf
          clear hat hwf
          go_wp2_with (first
            | (at_lookup; refine wpList_lookup_own_bool _ rfl _ _ 68 rfl 3 4 keyedInt Try.underlying68 Try.underlying4 (zeroBool _) w.heap.size k _ rfl hown.out _ _ rfl hkey false HAT.out ?_)
            | (at_mapUpdate; refine wpList_mapUpdate_own _ rfl _ _ _ 68 rfl 3 4 keyedInt Try.underlying68 _ w.heap.size k _ rfl hown.out HKL.out _ _ _ rfl rfl hkey _ [] (plainElem_bool Try.underlying4 true) ?_; intro w1 hown1 hgrow1))
          have O1 := Lib.hid hown1
          have B1 := Lib.hid (hbel.out.grown hgrow1 hbel.out.size (fun j hj => by cases hj; exact Nat.le_refl _))
          clear hown1 hgrow1
          go_wp2_with fail
          go_roundw
          case rel => exact ⟨k + 1, x, by omega, by simp, rfl, hx, Lib.hid (by rw [HST.out, ← HXk.out]), Lib.hid (by rw [HPUT.out]; exact O1.out), B1⟩
          case measure => simp [intOf]; omega
      · have HK := Lib.hid (show k = xs.length by omega)
        go_wp2_with fail
        go_ret
        exact ⟨by rw [HXk.out, HK.out]; rfl, hbel.out⟩
theorem sub_row (x y : Int) (hx : 0 ≤ x ∧ x ≤ 255) (hy : 0 ≤ y ∧ y ≤ 255) : sub x y = decide (y.toNat &&& x.toNat = x.toNat) := by
  rw [sub, isSet8_true hx, isSet8_true hy, subB]
  obtain ⟨n, rfl⟩ := Int.eq_ofNat_of_zero_le hx.1
  obtain ⟨m, rfl⟩ := Int.eq_ofNat_of_zero_le hy.1
  rw [and_nat n m (by omega) (by omega), Bool.true_and, Bool.true_and, Bool.eq_iff_iff, Nat.and_comm]
  simp only [beq_iff_eq, decide_eq_true_eq, Int.toNat_natCast]
  omega
end Go.Proofs.Ytlomfgbmijhgiaa.Ctx
