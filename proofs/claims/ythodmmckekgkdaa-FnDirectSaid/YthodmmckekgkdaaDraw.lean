/-
  The cursor that draws are made with: each draw returns a number within its bounds, and turns the cursor alone.
-/
import Derived.Test.YthodmmckekgkdaaProg
import Derived.Test.YthodmmckekgkdaaOwn
import Derived.WalkKit
import Derived.Outline
import Derived.LoopTactic
import Derived.RegionTactic
import Derived.BigQuiet
import Derived.Lib.Hide
import Derived.Laws.BitsLemmas
namespace Go.Proofs.Ythodmmckekgkdaa.Draw
open Go Go.RowKit Mem
set_option maxRecDepth 100000

abbrev u8s (xs : List Int) : List Value := xs.map (Value.int .u8)
theorem u8s_get (xs : List Int) (j : Nat) (hj : j < xs.length) : (u8s xs)[j]? = some (.int .u8 (xs.getD j 0)) := by
  simp [u8s, List.getD, List.getElem?_eq_getElem hj]
/-- Block p is a cursor over code that can be read below B. -/
def Cur (w : World) (B p : Nat) : Prop :=
  ∃ (v : Value) (xs : List Int) (i : Nat) (h : Int), w.heap[p]? = some (.cells #[v, .int .i64 i, .int .i64 h] 87 (0, 0)) ∧ Reads w B v (u8s xs) ∧ i ≤ xs.length ∧ (∀ j, j < xs.length → 0 ≤ xs.getD j 0 ∧ xs.getD j 0 ≤ 255) ∧ xs.length ≤ 1048576 ∧ B ≤ p
theorem Cur.lt {w : World} {B p : Nat} (h : Cur w B p) : p < w.heap.size := by
  obtain ⟨v, xs, i, h, hb, _⟩ := h
  exact (Array.getElem?_eq_some_iff.1 hb).1
theorem Cur.below {w w' : World} {B p B' : Nat} (h : Cur w B p) (hb : Below B' w w') (hp : p < B') : Cur w' B p := by
  obtain ⟨v, xs, i, h, h1, h2, h3, h4, h5, h6⟩ := h
  exact ⟨v, xs, i, h, (hb.block p hp).trans h1, h2.below hb (by omega), h3, h4, h5, h6⟩
theorem Cur.apart {w w' : World} {B p lo hi : Nat} (h : Cur w B p) (hb : Apart lo hi w w') (hp : p < lo) : Cur w' B p := by
  have hl := h.lt
  obtain ⟨v, xs, i, h, h1, h2, h3, h4, h5, h6⟩ := h
  exact ⟨v, xs, i, h, (hb.block p hl (.inl hp)).trans h1, h2.apart hb (by omega) (by omega), h3, h4, h5, h6⟩

theorem and_mask (x : Int) (n : Nat) (hn : n ≤ 30) : 0 ≤ bits .and .i64 x ((2 ^ n - 1 : Nat) : Int) ∧ bits .and .i64 x ((2 ^ n - 1 : Nat) : Int) ≤ ((2 ^ n - 1 : Nat) : Int) := by
  have hp : 2 ^ n ≤ 2 ^ 30 := Nat.pow_le_pow_right (by omega) hn
  have hle : (BitVec.ofInt 64 x &&& BitVec.ofInt 64 ((2 ^ n - 1 : Nat) : Int)).toNat ≤ 2 ^ n - 1 := by
    rw [BitVec.toNat_and, BitVec.ofInt_natCast, BitVec.toNat_ofNat, Nat.mod_eq_of_lt (by omega)]
    exact Nat.and_le_right
  have e : bits .and .i64 x ((2 ^ n - 1 : Nat) : Int) = IntKind.i64.wrap ((BitVec.ofInt 64 x &&& BitVec.ofInt 64 ((2 ^ n - 1 : Nat) : Int)).toNat : Nat) := rfl
  rw [e, IntKind.wrap_i64]
  omega
theorem and_255 (x : Int) : 0 ≤ bits .and .i64 x 255 ∧ bits .and .i64 x 255 ≤ 255 := and_mask x 8 (by omega)
theorem and_30 (x : Int) : 0 ≤ bits .and .i64 x 1073741823 ∧ bits .and .i64 x 1073741823 ≤ 1073741823 := and_mask x 30 (by omega)

set_option maxRecDepth 100000 in
set_option maxHeartbeats 400000 in
theorem l1New (v : Value) (xs : List Int) (B : Nat) (w : World) (hr : Reads w B v (u8s xs)) (hB : B ≤ w.heap.size) (hx : ∀ j, j < xs.length → 0 ≤ xs.getD j 0 ∧ xs.getD j 0 ≤ 255) (hn : xs.length ≤ 1048576) :
    Calls Try.prog 54 #[v] w fun e w' => e = .returned (.pointer (some ⟨w.heap.size, 0, none⟩)) ∧ Cur w' B w.heap.size ∧ w'.heap.size = w.heap.size + 1 ∧ Below w.heap.size w w' := by
  have hr' := hr
  obtain ⟨hla, a, ca, rfl, hca⟩ := hr
  have e0 : (u8s xs).length = xs.length := by simp [u8s]
  rw [e0] at hr'
  have HR := Lib.hid hr'
  clear e0 hr'
  simp only [u8s, List.length_map] at hla hca ⊢
  have HX := Lib.hid hx
  have HC : Hid (∀ j, j < xs.length → ∃ b o, a = some ⟨b, o, none⟩ ∧ w.cell? ⟨b, o + j, none⟩ = some (.int .u8 (xs.getD j 0))) := Lib.hid fun j hj => by
    obtain ⟨b, o, ha, hb, hc⟩ := hca (by simp; rintro rfl; simp at hj)
    exact ⟨b, o, ha, (hc j hj).trans (u8s_get xs j hj)⟩
  clear hca hla hx
  go_enter Try.func54, Try.ntmps54
  go_wp2_with fail
  go_loop [3, 4] (fun h i => ∃ (k : Nat) (m : Int), k ≤ xs.length ∧ k ≤ 4000 ∧ i = .int .i64 k ∧ h = .int .i64 m ∧ 0 ≤ m ∧ m ≤ 1073741823) (fun _ i => 4000 - (intOf i).toNat)
  case atStart => exact ⟨0, _, Nat.zero_le _, by omega, rfl, rfl, by omega, by omega⟩
  case round =>
    obtain ⟨k, m, hk, hk4, rfl, rfl, hm0, hm1⟩ := hrel
    by_cases hlt : k < xs.length
    · by_cases h4 : k < 4000
      · obtain ⟨b, o, rfl, hc⟩ := HC.out k hlt
        have hxk := HX.out k hlt
        generalize xs.getD k 0 = x at hc hxk
        go_wp2_with fail
        go_round
        case rel => exact ⟨k + 1, _, by omega, by omega, by simp, rfl, (and_30 _).1, (and_30 _).2⟩
        case measure => simp [intOf]; omega
      · go_wp2_with fail
        go_ret
        refine ⟨rfl, ?_, by simp, (Below.refl _ _).alloc (Nat.le_refl _) _⟩
        exact ⟨_, xs, 0, m, heap_alloc_new w _, HR.out.below ((Below.refl _ _).alloc (Nat.le_refl _) _) hB, Nat.zero_le _, HX.out, hn, hB⟩
    · go_wp2_with fail
      go_ret
      refine ⟨rfl, ?_, by simp, (Below.refl _ _).alloc (Nat.le_refl _) _⟩
      exact ⟨_, xs, 0, m, heap_alloc_new w _, HR.out.below ((Below.refl _ _).alloc (Nat.le_refl _) _) hB, Nat.zero_le _, HX.out, hn, hB⟩

theorem heap_two {w : World} {p : Nat} {v a b u : Value} {t : TypeId} (hb : w.heap[p]? = some (.cells #[v, a, b] t (0, 0))) : (w.setCell ⟨p, 2, none⟩ u).heap[p]? = some (.cells #[v, a, u] t (0, 0)) := by
  rw [heap_setCell_same w p 2 _ _ u hb]; first | rfl | done
theorem heap_one {w : World} {p : Nat} {v a b u : Value} {t : TypeId} (hb : w.heap[p]? = some (.cells #[v, a, b] t (0, 0))) : (w.setCell ⟨p, 1, none⟩ u).heap[p]? = some (.cells #[v, u, b] t (0, 0)) := by
  rw [heap_setCell_same w p 1 _ _ u hb]; rfl
theorem apart_setCell {lo hi : Nat} {a w : World} (h : Apart lo hi a w) {q : Addr} (h1 : lo ≤ q.block) (h2 : q.block < hi) (u : Value) : Apart lo hi a (w.setCell q u) :=
  h.trans ⟨rfl, rfl, rfl, by simp, fun k _ ho => heap_setCell_other w q k u (by omega)⟩
theorem turned1 {w : World} {B p i : Nat} {v : Value} {xs : List Int} {h h2 : Int} (hb : w.heap[p]? = some (.cells #[v, .int .i64 i, .int .i64 h] 87 (0, 0))) (hr : Reads w B v (u8s xs)) (hi : i ≤ xs.length)
    (hx : ∀ j, j < xs.length → 0 ≤ xs.getD j 0 ∧ xs.getD j 0 ≤ 255) (hn : xs.length ≤ 1048576) (hB : B ≤ p) : Cur (w.setCell ⟨p, 2, none⟩ (.int .i64 h2)).drew.drew B p := by
  have ha : Apart p (p + 1) w (w.setCell ⟨p, 2, none⟩ (.int .i64 h2)).drew.drew := (apart_setCell (Apart.refl p (p + 1) w) (q := ⟨p, 2, none⟩) (Nat.le_refl _) (Nat.lt_succ_self _) _).drew.drew
  have hl : p < w.heap.size := (Array.getElem?_eq_some_iff.1 hb).1
  exact ⟨v, xs, i, h2, heap_two hb, hr.apart ha hB (by omega), hi, hx, hn, hB⟩
theorem turned2 {w : World} {B p i : Nat} {v : Value} {xs : List Int} {h h2 : Int} (hb : w.heap[p]? = some (.cells #[v, .int .i64 i, .int .i64 h] 87 (0, 0))) (hr : Reads w B v (u8s xs)) (hi : i < xs.length)
    (hx : ∀ j, j < xs.length → 0 ≤ xs.getD j 0 ∧ xs.getD j 0 ≤ 255) (hn : xs.length ≤ 1048576) (hB : B ≤ p) :
    Cur ((w.setCell ⟨p, 2, none⟩ (.int .i64 h2)).setCell ⟨p, 1, none⟩ (.int .i64 ((i : Int) + 1))).drew.drew.drew B p ∧ Apart p (p + 1) w ((w.setCell ⟨p, 2, none⟩ (.int .i64 h2)).setCell ⟨p, 1, none⟩ (.int .i64 ((i : Int) + 1))).drew.drew.drew := by
  have ha : Apart p (p + 1) w ((w.setCell ⟨p, 2, none⟩ (.int .i64 h2)).setCell ⟨p, 1, none⟩ (.int .i64 ((i : Int) + 1))).drew.drew.drew :=
    (apart_setCell (apart_setCell (Apart.refl p (p + 1) w) (q := ⟨p, 2, none⟩) (Nat.le_refl _) (Nat.lt_succ_self _) _) (q := ⟨p, 1, none⟩) (Nat.le_refl _) (Nat.lt_succ_self _) _).drew.drew.drew
  have hl : p < w.heap.size := (Array.getElem?_eq_some_iff.1 hb).1
  exact ⟨⟨v, xs, i + 1, h2, by rw [Int.natCast_add]; exact heap_one (heap_two hb), hr.apart ha hB (by omega), hi, hx, hn, hB⟩, ha⟩

set_option maxRecDepth 100000 in
set_option maxHeartbeats 400000 in
theorem l1Byte (B p : Nat) (w : World) (hc : Cur w B p) :
    Calls Try.prog 118 #[.pointer (some ⟨p, 0, none⟩)] w fun e w' => ∃ x : Nat, e = .returned (.int .i64 x) ∧ x ≤ 255 ∧ Cur w' B p ∧ Apart p (p + 1) w w' := by
  obtain ⟨v, xs, i, h, hb, hr, hi, hx, hn, hB⟩ := hc
  have c0 : w.cell? ⟨p, 0, none⟩ = some v := by simp [World.cell?, hb]
  have c1 : w.cell? ⟨p, 1, none⟩ = some (.int .i64 i) := by simp [World.cell?, hb]
  have c2 : w.cell? ⟨p, 2, none⟩ = some (.int .i64 h) := by simp [World.cell?, hb]
  have f0 : ∀ j, w.frozen? ⟨p, j, none⟩ = false := fun j => by simp [World.frozen?, hb]
  have k0 : ∀ u, (w.setCell ⟨p, 2, none⟩ u).cell? ⟨p, 0, none⟩ = some v := fun u => (World.cell?_setCell_other _ _ _ _ (by simp)).trans c0
  have k1 : ∀ u, (w.setCell ⟨p, 2, none⟩ u).cell? ⟨p, 1, none⟩ = some (.int .i64 i) := fun u => (World.cell?_setCell_other _ _ _ _ (by simp)).trans c1
  have k2 : ∀ u, (w.setCell ⟨p, 2, none⟩ u).cell? ⟨p, 2, none⟩ = some u := fun u => World.cell?_setCell_same _ _ _ c2
  have hl : p < w.heap.size := (Array.getElem?_eq_some_iff.1 hb).1
  have HBk := Lib.hid hb
  have HR := Lib.hid hr
  have HX := Lib.hid hx
  clear hb
  obtain ⟨hla, a, ca, rfl, hca⟩ := hr
  have e0 : (u8s xs).length = xs.length := by simp [u8s]
  rw [e0] at k0 HR c0 HBk
  go_enter Try.func118, Try.ntmps118
  go_wp2
  go_region
  go_wp2
  generalize wrap64 (wrap64 (h * 6364136223846793005) + 1442695040888963407) = h2
  by_cases hlt : i < xs.length
  · obtain ⟨b, off, rfl, hbB, gca⟩ := hca (by rintro he; rw [he] at e0; simp at e0; omega)
    have kx : ∀ u, (w.setCell ⟨p, 2, none⟩ u).cell? ⟨b, off + i, none⟩ = some (.int .u8 (xs.getD i 0)) := fun u => by
      rw [World.cell?_setCell_other _ _ _ _ (by first | (simp; done) | (simp; omega))]
      exact (gca i (by omega)).trans (u8s_get xs i hlt)
    have hxi := hx i hlt
    clear hca gca hx e0 hla c0 c1 c2
    generalize xs.getD i 0 = x at kx hxi
    go_region
    go_wp2
    go_region
    all_goals go_wp2
    all_goals go_ret
    all_goals
      obtain ⟨m, hm⟩ := Int.eq_ofNat_of_zero_le (and_255 (wrap64 (bits .and .i64 (bits .xor .i64 (h2 / 8589934592) (h2 / 35184372088832)) 255 + x))).1
      have hm2 := (and_255 (wrap64 (bits .and .i64 (bits .xor .i64 (h2 / 8589934592) (h2 / 35184372088832)) 255 + x))).2
      refine ⟨m, by rw [← hm]; rfl, by omega, ?_⟩
      exact turned2 HBk.out HR.out hlt HX.out hn hB
  · go_region
    go_wp2
    go_ret
    obtain ⟨m, hm⟩ := Int.eq_ofNat_of_zero_le (and_255 (bits .xor .i64 (h2 / 8589934592) (h2 / 35184372088832))).1
    have hm2 := (and_255 (bits .xor .i64 (h2 / 8589934592) (h2 / 35184372088832))).2
    refine ⟨m, by rw [← hm]; rfl, by omega, ?_, ?_⟩
    · exact turned1 HBk.out HR.out hi HX.out hn hB
    · exact (apart_setCell (Apart.refl p (p + 1) w) (q := ⟨p, 2, none⟩) (Nat.le_refl _) (Nat.lt_succ_self _) _).drew.drew

set_option maxRecDepth 100000 in
set_option maxHeartbeats 400000 in
theorem l1Below (B p n : Nat) (w : World) (hc : Cur w B p) (h1 : 1 ≤ n) (hn : n ≤ 1000000000) :
    Calls Try.prog 95 #[.pointer (some ⟨p, 0, none⟩), .int .i64 n] w fun e w' => ∃ x : Nat, e = .returned (.int .i64 x) ∧ x < n ∧ Cur w' B p ∧ Apart p (p + 1) w w' := by
  by_cases h256 : n ≤ 256
  · go_enter Try.func95, Try.ntmps95
    go_wp2_with fail
    refine (l1Byte B p _ hc).mono ?_
    rintro e w1 ⟨x, rfl, hx, c1, a1⟩
    go_wp2_with fail
    go_ret
    refine ⟨x % n, by simp, Nat.mod_lt _ h1, c1, a1⟩
  · go_enter Try.func95, Try.ntmps95
    go_wp2_with fail
    refine (l1Byte B p _ hc).mono ?_
    rintro e w1 ⟨x, rfl, hx, c1, a1⟩
    go_wp2_with fail
    refine (l1Byte B p _ c1).mono ?_
    rintro e w2 ⟨y, rfl, hy, c2, a2⟩
    go_wp2_with fail
    refine (l1Byte B p _ c2).mono ?_
    rintro e w3 ⟨z, rfl, hz, c3, a3⟩
    go_wp2_with fail
    refine (l1Byte B p _ c3).mono ?_
    rintro e w4 ⟨u, rfl, hu, c4, a4⟩
    go_wp2_with fail
    go_ret
    exact ⟨(x * 16777216 + y * 65536 + z * 256 + u) % n, by simp, Nat.mod_lt _ h1, c4, ((a1.trans a2).trans a3).trans a4⟩
theorem l1Once (B p n : Nat) (w : World) (hc : Cur w B p) (h1 : 1 ≤ n) (hn : n ≤ 1000000000) :
    Calls Try.prog 81 #[.pointer (some ⟨p, 0, none⟩), .int .i64 n] w fun e w' => ∃ b : Bool, e = .returned (.bool b) ∧ Cur w' B p ∧ Apart p (p + 1) w w' := by
  go_enter Try.func81, Try.ntmps81
  go_wp2_with fail
  refine (l1Below B p n _ hc h1 hn).mono ?_
  rintro e w1 ⟨x, rfl, hx, c1, a1⟩
  go_wp2_with fail
  go_ret
  exact ⟨_, rfl, c1, a1⟩
set_option maxRecDepth 100000 in
theorem l1PickInt (B p : Nat) (v : Value) (xs : List Int) (lo hi : Nat) (w : World) (hc : Cur w B p) (ho : Own 3 w lo hi v (ints xs)) (hp : p < lo) (h1 : 1 ≤ xs.length) (hn : xs.length ≤ 1000000000) :
    Calls Try.prog 96 #[.pointer (some ⟨p, 0, none⟩), v] w fun e w' => ∃ j : Nat, e = .returned (.int .i64 (xs.getD j 0)) ∧ j < xs.length ∧ Cur w' B p ∧ Apart p (p + 1) w w' := by
  have HO := Lib.hid ho
  obtain ⟨_, a, ca, rfl, hca⟩ := ho.reads
  have e0 : (ints xs).length = xs.length := by simp [ints]
  clear ho hca
  rw [e0] at HO ⊢
  go_enter Try.func96, Try.ntmps96
  go_wp2_with fail
  refine (l1Below B p xs.length _ hc h1 hn).mono ?_
  rintro e w1 ⟨x, rfl, hx, c1, a1⟩
  obtain ⟨_, a', ca', hv, hca'⟩ := (HO.out.apart a1 (.inr hp)).reads
  simp only [Value.slice.injEq] at hv
  obtain ⟨rfl, -, rfl⟩ := hv
  obtain ⟨b, off, rfl, hb, hcell⟩ := hca' (by intro h; rw [h] at e0; simp at e0; omega)
  have hcx : w1.cell? ⟨b, off + x, none⟩ = some (.int .i64 (xs.getD x 0)) := (hcell x (by omega)).trans (ints_get xs x hx)
  have hn2 : xs.length ≤ 9223372036854775807 := by omega
  clear hca' hcell e0 hn
  generalize hgx : xs.getD x 0 = y at hcx
  have HY := Lib.hid hgx
  clear hgx hn2
  generalize hxl : xs.length = n at hx
  have HXL := Lib.hid hxl
  clear hxl
  go_wp2_with fail
  go_ret
  exact ⟨x, by rw [HY.out]; rfl, by rw [HXL.out]; exact hx, c1, a1⟩
end Go.Proofs.Ythodmmckekgkdaa.Draw
