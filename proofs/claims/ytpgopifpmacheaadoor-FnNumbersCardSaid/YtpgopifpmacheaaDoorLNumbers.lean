/-
  FnNumbers: numbers are parsed from their decimal representation, and parsed strings are that representation.
-/
import Derived.Test.YtpgopifpmacheaaDoorDraw
import Derived.Test.YtpgopifpmacheaaDoorLBig
import Derived.Test.YtpgopifpmacheaaDoorNum
import Derived.Test.YtpgopifpmacheaaDoorItoa
import Derived.Test.YtpgopifpmacheaaDoorNumRead
import Derived.Test.YtpgopifpmacheaaDoorNumParse
import Derived.Lib.ItoaLen
namespace Go.Proofs.YtpgopifpmacheaaDoor.LNumbers
open Go Go.RowKit Mem Draw

theorem digits_iff : ∀ (k u : Nat), Lib.nDigits u ≤ k + 1 ↔ u < 10 ^ (k + 1)
  | 0, u => by
    by_cases h : u < 10
    · rw [Lib.nDigits_small h]; simp; omega
    · rw [Lib.nDigits_big h]; have := Lib.nDigits_pos (u / 10); simp; omega
  | k + 1, u => by
    by_cases h : u < 10
    · rw [Lib.nDigits_small h]
      have : 10 ^ 1 ≤ 10 ^ (k + 1 + 1) := Nat.pow_le_pow_right (by omega) (by omega)
      constructor <;> intro _ <;> omega
    · rw [Lib.nDigits_big h, Nat.add_le_add_iff_right, digits_iff k (u / 10)]
      rw [Nat.pow_succ 10 (k + 1)]
      omega
theorem len_pos (n : Int) (h : 0 ≤ n) : (Lib.itoa n).length = Lib.nDigits n.natAbs := by
  obtain ⟨u, rfl⟩ := Int.eq_ofNat_of_zero_le h
  rw [Lib.itoa_nonneg, Lib.decDigits_length]; rfl
theorem len_neg (n : Int) (h : n < 0) : (Lib.itoa n).length = Lib.nDigits n.natAbs + 1 := by
  rw [Lib.itoa, if_pos h, List.length_cons, Lib.decDigits_length]
/-- What ParseInt returns for the text of n, and how long that text is. -/
theorem four (n : Int) : (n.natAbs < 10 ^ 12 ∧ (Lib.itoa n).length ≤ 12) ∨ (n.natAbs < 10 ^ 12 ∧ ¬ (Lib.itoa n).length ≤ 12 ∧ n < 0 ∧ (Lib.itoa n).length ≤ 13) ∨
    (¬ n.natAbs < 10 ^ 12 ∧ ¬ (Lib.itoa n).length ≤ 12 ∧ ¬ n < 0) ∨ (¬ n.natAbs < 10 ^ 12 ∧ ¬ (Lib.itoa n).length ≤ 12 ∧ n < 0 ∧ ¬ (Lib.itoa n).length ≤ 13) := by
  have h12 := digits_iff 11 n.natAbs
  by_cases h0 : n < 0
  · have := len_neg n h0
    omega
  · have := len_pos n (by omega)
    omega
theorem itoa_inj {v n : Int} (hv : v.natAbs < 10 ^ 20) (hn : n.natAbs < 10 ^ 20) (h : Lib.itoa v = Lib.itoa n) : v = n := by
  have h1 := (NumPure.rd_iff (Lib.itoa n) 20 (by omega) v).2 ⟨h, hv⟩
  have h2 := (NumPure.rd_iff (Lib.itoa n) 20 (by omega) n).2 ⟨rfl, hn⟩
  rw [h1] at h2
  exact Option.some.inj h2
theorem must_itoa (n : Int) (hn : n.natAbs < 10 ^ 20) : NumParse.must (Lib.itoa n) (-999999999999) 999999999999 = if n.natAbs < 10 ^ 12 then some n else none := by
  apply Option.ext
  intro v
  rw [NumParse.must_iff _ _ _ (by omega) (by omega) v]
  constructor
  · rintro ⟨h1, h2, h3⟩
    have : v = n := itoa_inj (by omega) hn h1
    subst this
    rw [if_pos (by omega)]
  · intro h
    split at h
    · cases h; exact ⟨rfl, by omega, by omega⟩
    · cases h

theorem apart_alloc {lo hi : Nat} {a w : World} (h : Apart lo hi a w) (o : Obj) : Apart lo hi a (w.alloc o) :=
  h.trans (Apart.of_below (B := w.heap.size) ((Below.refl _ _).alloc (Nat.le_refl _) o) (Nat.le_refl _))
def wholes : List Int := [0, 1, -1, 9, 10, 999999, 1000000, 999999999999, 1000000000000, -999999999999, 9223372036854775807, -9223372036854775808]
set_option maxRecDepth 100000 in
set_option maxHeartbeats 400000 in
theorem l1Whole (B p : Nat) (w : World) (hc : Cur w B p) :
    Calls Tryd.prog 17 #[.pointer (some ⟨p, 0, none⟩)] w fun e w' => ∃ n : Int, e = .returned (.int .i64 n) ∧ -9223372036854775808 ≤ n ∧ n ≤ 9223372036854775807 ∧ Cur w' B p ∧ Apart p (p + 1) w w' := by
  have hp := hc.lt
  go_enter Tryd.func17, Tryd.ntmps17
  go_wp2_with fail
  refine (l1Below B p 3 _ hc (by omega) (by omega)).mono ?_
  intro e w1 h1
  obtain ⟨x, he, hx, c1, a1⟩ := h1
  subst he
  have hs1 := a1.size
  have C1 := Lib.hid c1
  have A1 := Lib.hid a1
  clear c1 a1
  have hx3 : x = 0 ∨ x = 1 ∨ x = 2 := by omega
  clear hx
  rcases hx3 with rfl | rfl | rfl
  · obtain ⟨wl, hwl⟩ : ∃ wl, wl = w1.alloc (.cells #[.int .i64 0, .int .i64 1, .int .i64 (-1), .int .i64 9, .int .i64 10, .int .i64 999999, .int .i64 1000000, .int .i64 999999999999, .int .i64 1000000000000, .int .i64 (-999999999999), .int .i64 9223372036854775807, .int .i64 (-9223372036854775808)] 3) := ⟨_, rfl⟩
    have o2 : Own 3 wl w1.heap.size wl.heap.size (.slice (some ⟨w1.heap.size, 0, none⟩) 12 12) (ints wholes) := by
      rw [hwl]
      exact Own.made (World.ownsRow_lit w1 (e := 3) (size := 1) (base := w1.heap.size) _ 12 (Nat.le_refl _) (by unfold maxLen; omega) rfl)
    have C2 : Hid (Cur wl B p) := Lib.hid (by rw [hwl]; exact C1.out.below ((Below.refl _ _).alloc (Nat.le_refl _) _) (by omega))
    have A2 : Hid (Apart p (p + 1) w wl) := Lib.hid (by rw [hwl]; exact apart_alloc A1.out _)
    have HW := Lib.hid hwl
    have O2 := Lib.hid o2
    clear hwl o2 C1 A1
    go_wp2_with fail
    rw [← HW.out]
    refine (l1PickInt B p _ wholes w1.heap.size wl.heap.size wl C2.out O2.out (by omega) (by decide) (by decide)).mono ?_
    intro e w3 h3
    obtain ⟨j, he, hj, c3, a3⟩ := h3
    subst he
    have hb : -9223372036854775808 ≤ wholes.getD j 0 ∧ wholes.getD j 0 ≤ 9223372036854775807 := by
      have : ∀ j, j < 12 → -9223372036854775808 ≤ wholes.getD j 0 ∧ wholes.getD j 0 ≤ 9223372036854775807 := by decide
      exact this j hj
    generalize wholes.getD j 0 = n at hb
    have A3 := Lib.hid (A2.out.trans a3)
    have C3 := Lib.hid c3
    have HB := Lib.hid hb
    clear a3 c3 hb hj
    go_wp2_with fail
    go_ret
    exact ⟨n, rfl, HB.out.1, HB.out.2, C3.out, A3.out⟩
  · go_wp2_with fail
    refine (l1Below B p 1000000 _ C1.out (by omega) (by omega)).mono ?_
    intro e w3 h3
    obtain ⟨x, he, hx, c3, a3⟩ := h3
    subst he
    go_wp2_with fail
    go_ret
    exact ⟨(x : Int) - 500000, by simp, by omega, by omega, c3, A1.out.trans a3⟩
  · go_wp2_with fail
    refine (l1Below B p 20 _ C1.out (by omega) (by omega)).mono ?_
    intro e w3 h3
    obtain ⟨x, he, hx, c3, a3⟩ := h3
    subst he
    go_wp2_with fail
    go_ret
    exact ⟨(x : Int), by simp, by omega, by omega, c3, A1.out.trans a3⟩

set_option maxHeartbeats 400000 in
theorem drawFormat (v : Value) (xs : List Int) (B : Nat) (w : World) (hr : Reads w B v (u8s xs)) (hB : B ≤ w.heap.size) (hx : ∀ j, j < xs.length → 0 ≤ xs.getD j 0 ∧ xs.getD j 0 ≤ 255) (hn : xs.length ≤ 1048576) :
    Calls Tryd.prog 6 #[v] w fun e w' => ∃ n : Int, e = .returned (.int .i64 n) ∧ -9223372036854775808 ≤ n ∧ n ≤ 9223372036854775807 ∧ Below w.heap.size w w' := by
  have HN := Lib.hid (l1New v xs B w hr hB hx hn)
  clear hr hx hn
  go_enter Tryd.func6, Tryd.ntmps6
  go_wp2_with fail
  refine HN.out.mono ?_
  intro e w1 h1
  obtain ⟨he, c1, hs1, b1⟩ := h1
  subst he
  replace hs1 : w.heap.size + 1 ≤ w1.heap.size := by omega
  go_wp2_with fail
  refine (l1Whole B w.heap.size _ c1).mono ?_
  intro e w2 h2
  obtain ⟨n, he, hn0, hn1, c2, a2⟩ := h2
  subst he
  have HB := Lib.hid (And.intro hn0 hn1)
  clear hn0 hn1
  go_wp2_with fail
  go_ret
  exact ⟨n, rfl, HB.out.1, HB.out.2, b1.trans (a2.below (Nat.le_refl _) (by omega))⟩

def words : List (List UInt8) := [[], [48, 48], [48, 49], [45, 49], [43, 49], [120], [57, 57, 57, 57, 57, 57], [49, 48, 48, 48, 48, 48, 48], [45, 48], [45], [32, 49], [49, 32]]
set_option maxRecDepth 100000 in
set_option maxHeartbeats 800000 in
theorem drawNumber (v : Value) (xs : List Int) (B : Nat) (w : World) (hr : Reads w B v (u8s xs)) (hB : B ≤ w.heap.size) (hx : ∀ j, j < xs.length → 0 ≤ xs.getD j 0 ∧ xs.getD j 0 ≤ 255) (hn : xs.length ≤ 1048576) :
    Calls Tryd.prog 10 #[v] w fun e w' => ∃ l : List UInt8, e = .returned (.string ⟨l.toArray⟩) ∧ l.length ≤ 30 ∧ Below w.heap.size w w' := by
  have HN := Lib.hid (l1New v xs B w hr hB hx hn)
  clear hr hx hn
  go_enter Tryd.func10, Tryd.ntmps10
  go_wp2_with fail
  refine HN.out.mono ?_
  intro e w1 h1
  obtain ⟨he, c1, hs1, b1⟩ := h1
  subst he
  replace hs1 : w.heap.size + 1 ≤ w1.heap.size := by omega
  have B1 := Lib.hid b1
  clear b1 HN
  go_wp2_with fail
  refine (l1Once B w.heap.size 2 _ c1 (by omega) (by omega)).mono ?_
  intro e w2 h2
  obtain ⟨q, he, c2, a2⟩ := h2
  subst he
  have hs2 := a2.size
  have C2 := Lib.hid c2
  have B2 := Lib.hid (B1.out.trans (a2.below (Nat.le_refl _) (by omega)))
  clear c1 c2 a2 B1
  cases q with
  | true =>
    go_wp2_with fail
    refine (l1Whole B w.heap.size _ C2.out).mono ?_
    intro e w3 h3
    obtain ⟨n, he, hn0, hn1, c3, a3⟩ := h3
    subst he
    have hs3 := a3.size
    have B3 := Lib.hid (B2.out.trans (a3.below (Nat.le_refl _) (by omega)))
    have HF := Lib.hid (Num.spec_format n hn0 hn1 w3)
    have hll : (Lib.itoa n).length ≤ 21 := Lib.itoa_length_le n hn0 hn1
    clear c3 a3 B2 hn0 hn1
    generalize Lib.itoa n = l at HF hll
    go_wp2_with fail
    refine HF.out.mono ?_
    rintro e w4 ⟨rfl, b4⟩
    go_wp2_with fail
    go_ret
    exact ⟨l, rfl, by omega, B3.out.trans (b4.mono (by omega))⟩
  | false =>
    obtain ⟨wl, hwl⟩ : ∃ wl, wl = w2.alloc (.cells #[.string ⟨#[]⟩, .string ⟨#[48, 48]⟩, .string ⟨#[48, 49]⟩, .string ⟨#[45, 49]⟩, .string ⟨#[43, 49]⟩, .string ⟨#[120]⟩, .string ⟨#[57, 57, 57, 57, 57, 57]⟩, .string ⟨#[49, 48, 48, 48, 48, 48, 48]⟩, .string ⟨#[45, 48]⟩, .string ⟨#[45]⟩, .string ⟨#[32, 49]⟩, .string ⟨#[49, 32]⟩] 9) := ⟨_, rfl⟩
    have o2 : Own 9 wl w2.heap.size wl.heap.size (.slice (some ⟨w2.heap.size, 0, none⟩) 12 12) (Strs.strs words) := by
      rw [hwl]
      exact Own.made (World.ownsRow_lit w2 (e := 9) (size := 1) (base := w2.heap.size) _ 12 (Nat.le_refl _) (by unfold maxLen; omega) rfl)
    have c3 : Cur wl B w.heap.size := by rw [hwl]; exact C2.out.below ((Below.refl _ _).alloc (Nat.le_refl _) _) (by omega)
    have b3 : Below w.heap.size w wl := by rw [hwl]; exact B2.out.alloc (by omega) _
    have hs3 : w2.heap.size + 1 ≤ wl.heap.size := by rw [hwl]; simp
    have HW := Lib.hid hwl
    have O2 := Lib.hid o2
    have C3 := Lib.hid c3
    have B3 := Lib.hid b3
    clear hwl o2 c3 b3 C2 B2
    go_wp2_with fail
    rw [← HW.out]
    refine (l1Pick B w.heap.size _ words w2.heap.size wl.heap.size wl C3.out O2.out (by omega) (by decide) (by decide)).mono ?_
    intro e w4 h4
    obtain ⟨j, he, hj, c4, a4⟩ := h4
    subst he
    have hjl : (words.getD j []).length ≤ 30 := by
      have : ∀ j, j < 12 → (words.getD j []).length ≤ 30 := by decide
      exact this j hj
    generalize words.getD j [] = l at hjl
    have B4 := Lib.hid (B3.out.trans (a4.below (Nat.le_refl _) (by omega)))
    clear a4 B3 C3 O2 HW c4 hj
    go_wp2_with fail
    go_ret
    exact ⟨l, rfl, hjl, B4.out⟩

theorem same_num (l : List UInt8) : NumParse.must l 0 999999 = NumRead.rdNum l := by
  apply Option.ext
  intro v
  unfold NumRead.rdNum
  rw [NumParse.must_iff l _ _ (by omega) (by omega) v, Option.filter_eq_some_iff, NumPure.rd_iff l 6 (by omega) v]
  constructor
  · rintro ⟨h1, h2, h3⟩; exact ⟨⟨h1, by omega⟩, by simpa using h2⟩
  · rintro ⟨⟨h1, h2⟩, h3⟩
    have h3' : 0 ≤ v := by simpa using h3
    exact ⟨h1, by omega, by omega⟩

/-- The four ways of a number, as the law's tests see them: what ParseInt returned, and the text's length. -/
theorem ways (n : Int) (hn : n.natAbs < 10 ^ 20) : ∃ (x : Int) (ok : Bool), NumParse.must (Lib.itoa n) (-999999999999) 999999999999 = (if ok then some x else none) ∧ (ok = true → x = n) ∧
    ((ok = true ∧ (Lib.itoa n).length ≤ 12) ∨ (ok = true ∧ ¬ (Lib.itoa n).length ≤ 12 ∧ n < 0 ∧ (Lib.itoa n).length ≤ 13) ∨ (ok = false ∧ ¬ (Lib.itoa n).length ≤ 12 ∧ ¬ n < 0) ∨ (ok = false ∧ ¬ (Lib.itoa n).length ≤ 12 ∧ n < 0 ∧ ¬ (Lib.itoa n).length ≤ 13)) := by
  have h := must_itoa n hn
  rcases four n with ⟨h1, h2⟩ | ⟨h1, h2⟩ | ⟨h1, h2⟩ | ⟨h1, h2⟩
  · exact ⟨n, true, by rw [h, if_pos h1]; rfl, fun _ => rfl, .inl ⟨rfl, h2⟩⟩
  · exact ⟨n, true, by rw [h, if_pos h1]; rfl, fun _ => rfl, .inr (.inl ⟨rfl, h2⟩)⟩
  · exact ⟨n, false, by rw [h, if_neg h1]; rfl, fun _ => rfl, .inr (.inr (.inl ⟨rfl, h2⟩))⟩
  · exact ⟨n, false, by rw [h, if_neg h1]; rfl, fun _ => rfl, .inr (.inr (.inr ⟨rfl, h2⟩))⟩

set_option maxRecDepth 100000 in
set_option maxHeartbeats 1600000 in
theorem walk (v : Value) (xs : List Int) (w : World) (hr : Reads w w.heap.size v (u8s xs)) (hx : ∀ j, j < xs.length → 0 ≤ xs.getD j 0 ∧ xs.getD j 0 ≤ 255) (hs : NumParse.Std w) :
    Calls Tryd.prog 3 #[v] w fun e w' => e = .returned (.bool true) ∧ Below w.heap.size w w' := by
  have e0 : (u8s xs).length = xs.length := by simp [u8s]
  by_cases hlen : 1048576 < xs.length
  · have HB := Lib.hid (LBig.isBig v (u8s xs) _ w hr)
    have hd : decide (1048576 < (u8s xs).length) = true := by rw [e0]; simp; omega
    clear hr hx
    go_enter Tryd.func3, Tryd.ntmps3
    go_wp2_with fail
    refine HB.out.mono ?_
    rintro e w' ⟨rfl, rfl⟩
    go_wp2_with fail
    go_ret
    exact ⟨rfl, Below.refl _ _⟩
  · have HB := Lib.hid (LBig.isBig v (u8s xs) _ w hr)
    have hd : decide (1048576 < (u8s xs).length) = false := by rw [e0]; simp; omega
    have HD := Lib.hid (drawFormat v xs _ w hr (Nat.le_refl _) hx (by omega))
    have HR := Lib.hid hr
    have HX := Lib.hid hx
    have HS := Lib.hid hs
    clear hr hx hs
    go_enter Tryd.func3, Tryd.ntmps3
    go_wp2_with fail
    refine HB.out.mono ?_
    rintro e w' ⟨rfl, rfl⟩
    go_wp2_with fail
    refine HD.out.mono ?_
    intro e w1 h1
    obtain ⟨n, he, hn0, hn1, b1⟩ := h1
    subst he
    have hs1 := b1.size
    have B1 := Lib.hid b1
    clear b1 HD HB hd e0
    have hll : (Lib.itoa n).length ≤ 21 := Lib.itoa_length_le n hn0 hn1
    have HF1 := Lib.hid (Itoa.impl_format n hn0 hn1)
    have HF2 := Lib.hid (Num.spec_format n hn0 hn1)
    have HP := Lib.hid (NumParse.impl_int (Lib.itoa n) (by omega))
    obtain ⟨x, ok, hm, hxn, hw⟩ := ways n (by omega)
    unfold NumParse.Post_int at HP
    rw [hm] at HP
    have HN := Lib.hid (And.intro hn0 hn1)
    clear hm hn0 hn1
    generalize Lib.itoa n = l at hll HF1 HF2 HP hw
    have hq : (l == l) = true := by simp
    go_wp2_with fail
    refine (HF1.out w1 (HS.out.below B1.out).pow).mono ?_
    rintro e w2 ⟨rfl, b2⟩
    have B2 := Lib.hid (B1.out.trans (b2.mono hs1))
    have hs2 := b2.size
    clear b2 B1
    go_wp2_with fail
    refine (HP.out w2 (HS.out.below B2.out)).mono ?_
    rintro e w3 ⟨rfl, b3⟩
    have B3 := Lib.hid (B2.out.trans (b3.mono (by omega)))
    have hs3 := b3.size
    clear b3 B2 HP HF1
    have hnn : ((n : Int) != n) = false := by simp
    have HDN := Lib.hid (fun (w4 : World) (h : Below w'.heap.size w' w4) => drawNumber v xs w'.heap.size w4 (HR.out.below h (Nat.le_refl _)) h.size HX.out (by omega))
    have tail : ∀ w4 : World, Below w'.heap.size w' w4 → True := fun _ _ => trivial
    clear tail
    rcases hw with ⟨rfl, h2⟩ | ⟨rfl, h2, h3, h4⟩ | ⟨rfl, h2, h3⟩ | ⟨rfl, h2, h3, h4⟩
    all_goals
      first
      | (have hxe := hxn rfl; subst hxe; clear hxn; simp only [if_true, Option.getD_some, Option.isSome_some])
      | (clear hxn; simp only [Bool.false_eq_true, if_false, Option.getD_none, Option.isSome_none])
    all_goals first
      | (have hd12 : decide ((l.length : Int) ≤ 12) = true := by (simp; omega))
      | (have hd12 : decide ((l.length : Int) ≤ 12) = false := by (simp; omega))
    all_goals first
      | (have hd13 : decide ((l.length : Int) ≤ 13) = true := by (simp; omega))
      | (have hd13 : decide ((l.length : Int) ≤ 13) = false := by (simp; omega))
      | skip
    all_goals
      go_wp2_with fail
      refine (HF2.out w3).mono ?_
      rintro e w4 ⟨rfl, b4⟩
      have B4 := Lib.hid (B3.out.trans (b4.mono (by omega)))
      have hs4 := b4.size
      clear b4 B3 HF2
      go_wp2_with fail
      refine (HDN.out w4 B4.out).mono ?_
      intro e w5 h5
      obtain ⟨t, he, ht, b5⟩ := h5
      subst he
      have B5 := Lib.hid (B4.out.trans (b5.mono (by omega)))
      have hs5 := b5.size
      have G1 := Lib.hid (NumParse.impl_num t (by omega))
      have G2 := Lib.hid (NumRead.spec_num t (by omega))
      unfold NumParse.Post_num at G1
      unfold NumRead.NumPost at G2
      rw [same_num] at G1
      have G3 : Hid (∀ y, NumRead.rdNum t = some y → Lib.itoa y = t ∧ 0 ≤ y ∧ y ≤ 999999) := Lib.hid (fun y hy => by
        rw [← same_num, NumParse.must_iff _ _ _ (by omega) (by omega)] at hy; exact hy)
      generalize NumRead.rdNum t = y at G1 G2 G3
      clear b5 HDN B4
      cases y with
      | none =>
        go_wp2_with fail
        refine (G1.out w5 (HS.out.below B5.out)).mono ?_
        rintro e w6 ⟨rfl, b6⟩
        have B6 := Lib.hid (B5.out.trans (b6.mono (by omega)))
        have hs6 := b6.size
        clear b6 B5
        go_wp2_with fail
        refine (G2.out w6).mono ?_
        rintro e w7 ⟨rfl, b7⟩
        have B7 := Lib.hid (B6.out.trans (b7.mono (by omega)))
        clear b7 B6
        go_wp2_with fail
        go_ret
        exact ⟨rfl, B7.out⟩
      | some y =>
        obtain ⟨hy1, hy2, hy3⟩ := G3.out y rfl
        have HF3 := Lib.hid (Itoa.impl_format y (by omega) (by omega))
        rw [hy1] at HF3
        have hqt : (t == t) = true := by simp
        clear hy1
        go_wp2_with fail
        refine (G1.out w5 (HS.out.below B5.out)).mono ?_
        rintro e w6 ⟨rfl, b6⟩
        have B6 := Lib.hid (B5.out.trans (b6.mono (by omega)))
        have hs6 := b6.size
        clear b6 B5
        go_wp2_with fail
        refine (G2.out w6).mono ?_
        rintro e w7 ⟨rfl, b7⟩
        have B7 := Lib.hid (B6.out.trans (b7.mono (by omega)))
        have hs7 := b7.size
        clear b7 B6
        go_wp2_with fail
        refine (HF3.out w7 (HS.out.below B7.out).pow).mono ?_
        rintro e w8 ⟨rfl, b8⟩
        have B8 := Lib.hid (B7.out.trans (b8.mono (by omega)))
        clear b8 B7
        go_wp2_with fail
        go_ret
        exact ⟨rfl, B8.out⟩
end Go.Proofs.YtpgopifpmacheaaDoor.LNumbers
