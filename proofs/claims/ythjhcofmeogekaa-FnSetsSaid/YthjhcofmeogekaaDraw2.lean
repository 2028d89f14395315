/-
  Draws of sets, lists of sets and bent texts: each call returns a value of its kind, turns its cursor, and nothing else that was there.
-/
import Derived.Test.YthjhcofmeogekaaDraw
import Derived.Test.YthjhcofmeogekaaText
namespace Go.Proofs.Ythjhcofmeogekaa.Draw
open Go Go.RowKit Mem Sets Elems Text Strs
set_option maxRecDepth 100000

theorem Cur.le {w : World} {B p : Nat} (h : Cur w B p) : B ≤ p := by
  obtain ⟨v, xs, i, x, e1, e2, e3, e4, e5, e6⟩ := h
  exact e6
theorem Cur.alloc {w : World} {B p : Nat} (h : Cur w B p) (o : Obj) : Cur (w.alloc o) B p := h.below ((Below.refl _ _).alloc (Nat.le_refl _) o) h.lt
theorem apartAlloc (p : Nat) (w : World) (o : Obj) : Apart p (p + 1) w (w.alloc o) := Apart.of_below ((Below.refl w.heap.size w).alloc (Nat.le_refl _) o) (Nat.le_refl _)

theorem Apart.thenBelow2 {lo hi B : Nat} {a b c : World} (h : Apart lo hi a b) (k : Below B b c) (hB : b.heap.size ≤ B) : Apart lo hi a c :=
  ⟨k.os.trans h.os, k.tape.trans h.tape, k.output.trans h.output, Nat.le_trans h.size k.size, fun j hj ho => (k.block j (by have := h.size; omega)).trans (h.block j hj ho)⟩
theorem Apart.thenGrown2 {lo hi : Nat} {a b c : World} {row : Option Nat} (h : Apart lo hi a b) (k : b.grownBy c row) (hr : ∀ q, row = some q → a.heap.size ≤ q) : Apart lo hi a c :=
  ⟨k.os.trans h.os, k.tape.trans h.tape, k.output.trans h.output, Nat.le_trans h.size k.size, fun j hj ho => (k.block j (by have := h.size; omega) (fun e => by have := hr j e.symm; omega)).trans (h.block j hj ho)⟩
theorem cur_grown {w w' : World} {B p : Nat} {row : Option Nat} (h : Cur w B p) (k : w.grownBy w' row) (h1 : ∀ q, row = some q → q ≠ p) (h2 : ∀ q, row = some q → B ≤ q) : Cur w' B p := by
  have hl := h.lt
  obtain ⟨v, xs, i, x, e1, e2, e3, e4, e5, e6⟩ := h
  refine ⟨v, xs, i, x, (k.block p hl (fun e => h1 p e.symm rfl)).trans e1, ?_, e3, e4, e5, e6⟩
  obtain ⟨m1, a, cap, m2, m3⟩ := e2
  refine ⟨m1, a, cap, m2, fun hn => ?_⟩
  obtain ⟨b, off, ha, hlt, hc⟩ := m3 hn
  refine ⟨b, off, ha, hlt, fun j hj => ?_⟩
  rw [← hc j hj]
  have hb := k.block b (by omega) (fun e => by have := h2 b e.symm; omega)
  unfold World.cell?
  simp only [hb]

theorem pickLit (B p : Nat) (xs : List Int) (n : Nat) (hx : xs.length = n) (h1 : 1 ≤ n) (hn : n ≤ 1000) (cs : Array Value) (hcs : cs = (ints xs).toArray) (w : World) (hc : Cur w B p) :
    Calls Try.prog 55 #[.pointer (some ⟨p, 0, none⟩), .slice (some ⟨w.heap.size, 0, none⟩) n n] (w.alloc (.cells cs 3)) fun e w' => ∃ j : Nat, e = .returned (.int .i64 (xs.getD j 0)) ∧ j < n ∧ Cur w' B p ∧ Apart p (p + 1) w w' := by
  subst hcs
  have hl : (ints xs).length = n := by simp [ints, hx]
  have ho : Own 3 (w.alloc (.cells (ints xs).toArray 3)) w.heap.size (w.alloc (.cells (ints xs).toArray 3)).heap.size (.slice (some ⟨w.heap.size, 0, none⟩) n n) (ints xs) :=
    Own.made (World.ownsRow_lit w (e := 3) (size := 1) (base := w.heap.size) (ints xs).toArray n (Nat.le_refl _) (by unfold maxLen; omega) (by simp [hl]))
  have hlt := hc.lt
  refine (l1PickInt B p _ xs w.heap.size _ _ (hc.alloc _) ho hlt (by omega) (by omega)).mono ?_
  rintro e w' ⟨j, rfl, hj, c, a⟩
  exact ⟨j, rfl, by omega, c, (apartAlloc p w _).trans a⟩
theorem l2Bent (B p : Nat) (w : World) (hc : Cur w B p) :
    Calls Try.prog 34 #[.pointer (some ⟨p, 0, none⟩)] w fun e w' => ∃ x : Int, e = .returned (.int .i64 x) ∧ Cur w' B p ∧ Apart p (p + 1) w w' := by
  go_enter Try.func34, Try.ntmps34
  go_wp2_with fail
  refine (l1Once B p 8 _ hc (by omega) (by omega)).mono ?_
  rintro e w1 ⟨b, rfl, c1, a1⟩
  cases b with
  | true =>
    go_wp2_with fail
    refine (pickLit B p [-1, 256, 1000, -9223372036854775808] 4 rfl (by omega) (by omega) _ rfl w1 c1).mono ?_
    rintro e w2 ⟨j, rfl, hj, c2, a2⟩
    generalize ([-1, 256, 1000, -9223372036854775808] : List Int).getD j 0 = x
    go_wp2_with fail
    go_ret
    exact ⟨x, rfl, c2, a1.trans a2⟩
  | false =>
    go_wp2_with fail
    refine (l1Below B p 256 _ c1 (by omega) (by omega)).mono ?_
    rintro e w2 ⟨x, rfl, hx, c2, a2⟩
    go_wp2_with fail
    go_ret
    exact ⟨x, rfl, c2, a1.trans a2⟩
set_option maxHeartbeats 800000 in
theorem l2List (B p : Nat) (w : World) (hc : Cur w B p) :
    Calls Try.prog 38 #[.pointer (some ⟨p, 0, none⟩)] w fun e w' => ∃ v xs, e = .returned v ∧ xs.length ≤ 300 ∧ Own 3 w' w.heap.size w'.heap.size v (ints xs) ∧ Cur w' B p ∧ Apart p (p + 1) w w' := by
  obtain ⟨i0, hi, hz0, hz1, hz2⟩ := info_parts Ints.info
  have HC := Lib.hid (hc.alloc (.cells #[] 3))
  have HA := Lib.hid (apartAlloc p w (.cells #[] 3))
  have HO := Lib.hid (World.ownsRow_lit w (e := 3) (size := 1) (base := w.heap.size) #[] 0 (Nat.le_refl _) (Nat.zero_le _) rfl)
  have hp := hc.lt
  have hBp := hc.le
  clear hc
  go_enter Try.func38, Try.ntmps38
  go_wp2_with fail
  refine (l1Below B p 6 _ HC.out (by omega) (by omega)).mono ?_
  rintro e w1 ⟨n, rfl, hn6, c1, a1⟩
  have HO1 := Lib.hid (ownsRow_same HO.out fun k hk => a1.block k (HO.out.lt k hk).2 (.inr (by have := (HO.out.lt k hk).1; omega)))
  have HA1 := Lib.hid (HA.out.trans a1)
  have HC1 := Lib.hid c1
  clear c1 a1
  go_wp2_with fail
  go_loopw [3, 5] (fun t i wr => ∃ (k : Nat) (xs : List Int), k ≤ n ∧ i = .int .i64 k ∧ xs.length = k ∧ Hid (wr.ownsRow w.heap.size 3 1 t xs.length (ints xs)) ∧ Hid (Cur wr B p) ∧ Hid (Apart p (p + 1) w wr)) (fun _ i _ => n - (intOf i).toNat)
  case atStart => exact ⟨0, [], Nat.zero_le _, rfl, rfl, HO1, HC1, HA1⟩
  case round =>
    obtain ⟨k, xs, hk, rfl, hxl, ho, hcu, hap⟩ := hrel
    by_cases hlt : k < n
    · go_wp2_with fail
      refine (l1Below B p 16 _ hcu.out (by omega) (by omega)).mono ?_
      rintro e w2 ⟨x, rfl, hx, c2, a2⟩
      have HOk := Lib.hid (ownsRow_same ho.out fun q hq => a2.block q (ho.out.lt q hq).2 (.inr (by have := (ho.out.lt q hq).1; omega)))
      have HAk := Lib.hid (hap.out.trans a2)
      have HCk := Lib.hid c2
      have hsk := hap.out.size
      have hsk2 := a2.size
      clear c2 a2
      go_wp2_with (at_builtin; refine wpList_append_own _ rfl _ _ 27 rfl w.heap.size 3 i0 (.int .i64 0) 1 8 Try.underlying27 hi hz0 hz1 hz2 rfl (by decide) _ _ _ rfl (HOk.out.alloc _) ⟨w2.heap.size, 0, none⟩ 1 1 [.int .i64 (x : Int)] rfl rfl ?c1 ?c2 ?c3 ?c4 ?c5 ?_)
      case c1 =>
        intro j u hj
        match j, hj with
        | 0, hj => simp at hj; subst hj; simp [Addr.add]
      case c2 => intro u hu; simp at hu; subst hu; rfl
      case c3 => unfold maxLen; omega
      case c4 => omega
      case c5 => simp; omega
      intro v' w3 hown' hgrow _
      have hcu3 := cur_grown (HCk.out.alloc _) hgrow (fun q hq e => by have := (HOk.out.lt q hq).1; omega) (fun q hq => by have := (HOk.out.lt q hq).1; omega)
      have hap3 := Apart.thenGrown2 (Apart.thenBelow2 HAk.out ((Below.refl w2.heap.size w2).alloc (Nat.le_refl _) _) (Nat.le_refl _)) hgrow (fun q hq => (HOk.out.lt q hq).1)
      have R1 := Lib.hid hown'
      have R2 := Lib.hid hcu3
      have R3 := Lib.hid hap3
      clear hown' hgrow hcu3 hap3
      go_wp2
      go_roundw
      case rel => exact ⟨k + 1, xs ++ [(x : Int)], by omega, by simp, by simp; omega, Lib.hid (by have := R1.out; simp [ints] at this ⊢; rw [hxl]; exact this), R2, R3⟩
      case measure => simp [intOf]; omega
    · have hxn : xs.length ≤ 5 := by omega
      go_wp2_with fail
      refine (l1Once B p 10 _ hcu.out (by omega) (by omega)).mono ?_
      rintro e w2 ⟨b, rfl, c2, a2⟩
      have HOk := Lib.hid (ownsRow_same ho.out fun q hq => a2.block q (ho.out.lt q hq).2 (.inr (by have := (ho.out.lt q hq).1; omega)))
      have HAk := Lib.hid (hap.out.trans a2)
      have HCk := Lib.hid c2
      clear c2 a2
      cases b with
      | false =>
        go_wp2_with fail
        go_ret
        exact ⟨_, xs, rfl, by omega, Own.made (by have := HOk.out; simpa [ints] using this), HCk.out, HAk.out⟩
      | true =>
        go_wp2_with fail
        refine (l2Bent B p _ HCk.out).mono ?_
        rintro e w4 ⟨x, rfl, c4, a4⟩
        have HOm := Lib.hid (ownsRow_same HOk.out fun q hq => a4.block q (HOk.out.lt q hq).2 (.inr (by have := (HOk.out.lt q hq).1; omega)))
        have HAm := Lib.hid (HAk.out.trans a4)
        have HCm := Lib.hid c4
        have hsk := HAk.out.size
        have hsk2 := a4.size
        clear c4 a4
        go_wp2_with (at_builtin; refine wpList_append_own _ rfl _ _ 27 rfl w.heap.size 3 i0 (.int .i64 0) 1 8 Try.underlying27 hi hz0 hz1 hz2 rfl (by decide) _ _ _ rfl (HOm.out.alloc _) ⟨w4.heap.size, 0, none⟩ 1 1 [.int .i64 x] rfl rfl ?c1 ?c2 ?c3 ?c4 ?c5 ?_)
        case c1 =>
          intro j u hj
          match j, hj with
          | 0, hj => simp at hj; subst hj; simp [Addr.add]
        case c2 => intro u hu; simp at hu; subst hu; rfl
        case c3 => unfold maxLen; omega
        case c4 => omega
        case c5 => simp; omega
        intro v' w5 hown' hgrow _
        have hcu5 := cur_grown (HCm.out.alloc _) hgrow (fun q hq e => by have := (HOm.out.lt q hq).1; omega) (fun q hq => by have := (HOm.out.lt q hq).1; omega)
        have hap5 := Apart.thenGrown2 (Apart.thenBelow2 HAm.out ((Below.refl w4.heap.size w4).alloc (Nat.le_refl _) _) (Nat.le_refl _)) hgrow (fun q hq => (HOm.out.lt q hq).1)
        have R1 := Lib.hid hown'
        have R2 := Lib.hid hcu5
        have R3 := Lib.hid hap5
        clear hown' hgrow hcu5 hap5
        go_wp2
        go_ret
        exact ⟨_, xs ++ [x], rfl, by simp; omega, Own.made (by have := R1.out; simpa [ints] using this), R2.out, R3.out⟩
theorem turnLit (B p : Nat) (l : List UInt8) (hl : l.length ≤ 1000) (xs : List (List UInt8)) (n : Nat) (hx : xs.length = n) (h1 : 1 ≤ n) (hn : n ≤ 1000) (hm : ∀ j, j < n → (xs.getD j []).length ≤ 100) (cs : Array Value) (hcs : cs = (strs xs).toArray) (w : World) (hc : Cur w B p) :
    Calls Try.prog 53 #[.pointer (some ⟨p, 0, none⟩), .string ⟨l.toArray⟩, .slice (some ⟨w.heap.size, 0, none⟩) n n] (w.alloc (.cells cs 9)) fun e w' => ∃ l' : List UInt8, e = .returned (.string ⟨l'.toArray⟩) ∧ l'.length ≤ 1100 ∧ Cur w' B p ∧ Apart p (p + 1) w w' := by
  subst hcs
  have hsl : (strs xs).length = n := by simp [strs, hx]
  have hlt := hc.lt
  have ho : Own 9 (w.alloc (.cells (strs xs).toArray 9)) w.heap.size (w.alloc (.cells (strs xs).toArray 9)).heap.size (.slice (some ⟨w.heap.size, 0, none⟩) n n) (strs xs) :=
    Own.made (World.ownsRow_lit w (e := 9) (size := 1) (base := w.heap.size) (strs xs).toArray n (Nat.le_refl _) (by unfold maxLen; omega) (by simp [hsl]))
  have HO := Lib.hid ho
  have HC := Lib.hid (hc.alloc (.cells (strs xs).toArray 9))
  have HA := Lib.hid (apartAlloc p w (.cells (strs xs).toArray 9))
  have hsz : (⟨l.toArray⟩ : ByteArray).size = l.length := by simp [ByteArray.size]
  generalize w.alloc (.cells (strs xs).toArray 9) = wl at ho HO HC HA
  clear ho hc
  go_enter Try.func53, Try.ntmps53
  go_wp2_with fail
  refine (l1Below B p (l.length + 1) _ HC.out (by omega) (by omega)).mono ?_
  rintro e w1 ⟨at', rfl, hat, c1, a1⟩
  have HO1 := Lib.hid (HO.out.apart a1 (.inr (by omega)))
  have HA1 := Lib.hid (HA.out.trans a1)
  have HC1 := Lib.hid c1
  clear c1 a1
  go_wp2_with fail
  refine (l1Below B p 6 _ HC1.out (by omega) (by omega)).mono ?_
  rintro e w2 ⟨x, rfl, hx6, c2, a2⟩
  have HO2 := Lib.hid (HO1.out.apart a2 (.inr (by omega)))
  have HA2 := Lib.hid (HA1.out.trans a2)
  have HC2 := Lib.hid c2
  clear c2 a2
  by_cases h0 : x = 0
  · subst h0
    have hat1 : at' ≤ l.length := by omega
    have hmin : min at' l.length = at' := by omega
    go_wp2_with fail
    go_region_held3 (fun _ => True) (exact trivial)
      (first | (go_at_call 65; refine (l1Pick B p _ xs w.heap.size wl.heap.size w2.drew HC2.out HO2.out hlt (by omega) (by omega)).mono ?_; rintro e w3 ⟨j, rfl, hj, c3, a3⟩; have hq := hm j (by omega); generalize xs.getD j [] = q at hq; have hb1 : (9223372036854775807 < at' + q.length) = False := (by simp; omega); have hb2 : (9223372036854775807 < at' + q.length + (l.length - at')) = False := (by simp; omega)) | fail)
    all_goals
      go_wp2
      go_ret
      refine ⟨l.take at' ++ q ++ l.drop at', ?_, by simp; omega, c3, HA2.out.drew.trans a3⟩
      simp
      apply ByteArray.ext
      apply Array.toList_inj.1
      simp [ByteArray.data_append, ByteArray.data_extract]
      exact List.take_of_length_le (by simp)
  · have h01 : ((x : Int) == 0) = false := by simp; omega
    by_cases h1 : x = 1
    · subst h1
      have hat1 : at' ≤ l.length := by omega
      go_wp2_with fail
      go_ret
      refine ⟨l.take at', ?_, by simp; omega, HC2.out, HA2.out⟩
      simp
      apply ByteArray.ext
      simp
    · have h11 : ((x : Int) == 1) = false := by simp; omega
      go_wp2_with fail
      go_ret
      exact ⟨l, rfl, by omega, HC2.out, HA2.out⟩

/-- What a draw over a code returns. -/
theorem newCur (v : Value) (xs : List Int) (B : Nat) (w : World) (hr : Reads w B v (u8s xs)) (hB : B ≤ w.heap.size) (hx : ∀ j, j < xs.length → 0 ≤ xs.getD j 0 ∧ xs.getD j 0 ≤ 255) (hn : xs.length ≤ 1048576) :
    Calls Try.prog 35 #[v] w fun e w' => ∃ p, e = .returned (.pointer (some ⟨p, 0, none⟩)) ∧ w.heap.size ≤ p ∧ Cur w' B p ∧ w.heap.size + 1 ≤ w'.heap.size ∧ Below w.heap.size w w' :=
  (l1New v xs B w hr hB hx hn).mono fun e w' h => ⟨_, h.1, Nat.le_refl _, h.2.1, by have := h.2.2.1; omega, h.2.2.2⟩
theorem drawElems (v : Value) (xs : List Int) (B : Nat) (w : World) (hr : Reads w B v (u8s xs)) (hB : B ≤ w.heap.size) (hx : ∀ j, j < xs.length → 0 ≤ xs.getD j 0 ∧ xs.getD j 0 ≤ 255) (hn : xs.length ≤ 1048576) :
    Calls Try.prog 5 #[v] w fun e w' => ∃ x : Int, e = .returned (.int .i64 x) ∧ Below w.heap.size w w' := by
  have HN := Lib.hid (newCur v xs B w hr hB hx hn)
  obtain ⟨_, a, ca, rfl, hca⟩ := hr
  have e0 : (u8s xs).length = xs.length := by simp [u8s]
  rw [e0] at HN ⊢
  clear hca hx e0
  go_enter Try.func5, Try.ntmps5
  go_wp2_with fail
  refine HN.out.mono ?_
  rintro e w1 ⟨p, rfl, hp, c1, hz, b1⟩
  have B1 := Lib.hid b1
  clear b1
  go_wp2_with fail
  refine (l2Bent B p _ c1).mono ?_
  rintro e w2 ⟨x, rfl, c2, a2⟩
  go_wp2_with fail
  go_ret
  exact ⟨x, rfl, B1.out.trans (a2.below (by omega) (by omega))⟩
theorem drawHas (v : Value) (xs : List Int) (B : Nat) (w : World) (hr : Reads w B v (u8s xs)) (hB : B ≤ w.heap.size) (hx : ∀ j, j < xs.length → 0 ≤ xs.getD j 0 ∧ xs.getD j 0 ≤ 255) (hn : xs.length ≤ 1048576) :
    Calls Try.prog 6 #[v] w fun e w' => ∃ x y : Int, e = .returned (.tuple #[.int .i64 x, .int .i64 y]) ∧ Below w.heap.size w w' := by
  have HN := Lib.hid (newCur v xs B w hr hB hx hn)
  obtain ⟨_, a, ca, rfl, hca⟩ := hr
  have e0 : (u8s xs).length = xs.length := by simp [u8s]
  rw [e0] at HN ⊢
  clear hca hx e0
  go_enter Try.func6, Try.ntmps6
  go_wp2_with fail
  refine HN.out.mono ?_
  rintro e w1 ⟨p, rfl, hp, c1, hz, b1⟩
  have B1 := Lib.hid b1
  clear b1
  go_wp2_with fail
  refine (l2Bent B p _ c1).mono ?_
  rintro e w2 ⟨x, rfl, c2, a2⟩
  have A2 := Lib.hid a2
  clear a2
  go_wp2_with fail
  refine (l1Below B p 10 _ c2 (by omega) (by omega)).mono ?_
  rintro e w3 ⟨y, rfl, hy, c3, a3⟩
  go_wp2_with fail
  go_ret2
  exact ⟨x, _, rfl, B1.out.trans ((A2.out.trans a3).below (by omega) (by omega))⟩
theorem drawIsSet (v : Value) (xs : List Int) (B : Nat) (w : World) (hr : Reads w B v (u8s xs)) (hB : B ≤ w.heap.size) (hx : ∀ j, j < xs.length → 0 ≤ xs.getD j 0 ∧ xs.getD j 0 ≤ 255) (hn : xs.length ≤ 1048576) :
    Calls Try.prog 7 #[v] w fun e w' => ∃ x y : Int, e = .returned (.tuple #[.int .i64 x, .int .i64 y]) ∧ Below w.heap.size w w' := by
  have HN := Lib.hid (newCur v xs B w hr hB hx hn)
  obtain ⟨_, a, ca, rfl, hca⟩ := hr
  have e0 : (u8s xs).length = xs.length := by simp [u8s]
  rw [e0] at HN ⊢
  clear hca hx e0
  go_enter Try.func7, Try.ntmps7
  go_wp2_with fail
  refine HN.out.mono ?_
  rintro e w1 ⟨p, rfl, hp, c1, hz, b1⟩
  have B1 := Lib.hid b1
  clear b1
  go_wp2_with fail
  refine (l1Below B p 11 _ c1 (by omega) (by omega)).mono ?_
  rintro e w2 ⟨x, rfl, hx, c2, a2⟩
  have A2 := Lib.hid a2
  clear a2
  go_wp2_with fail
  refine (l1Below B p 300 _ c2 (by omega) (by omega)).mono ?_
  rintro e w3 ⟨y, rfl, hy, c3, a3⟩
  go_wp2_with fail
  go_ret2
  exact ⟨_, _, rfl, B1.out.trans ((A2.out.trans a3).below (by omega) (by omega))⟩
theorem drawFull (v : Value) (xs : List Int) (B : Nat) (w : World) (hr : Reads w B v (u8s xs)) (hB : B ≤ w.heap.size) (hx : ∀ j, j < xs.length → 0 ≤ xs.getD j 0 ∧ xs.getD j 0 ≤ 255) (hn : xs.length ≤ 1048576) :
    Calls Try.prog 8 #[v] w fun e w' => ∃ x : Int, e = .returned (.int .i64 x) ∧ Below w.heap.size w w' := by
  have HN := Lib.hid (newCur v xs B w hr hB hx hn)
  obtain ⟨_, a, ca, rfl, hca⟩ := hr
  have e0 : (u8s xs).length = xs.length := by simp [u8s]
  rw [e0] at HN ⊢
  clear hca hx e0
  go_enter Try.func8, Try.ntmps8
  go_wp2_with fail
  refine HN.out.mono ?_
  rintro e w1 ⟨p, rfl, hp, c1, hz, b1⟩
  have B1 := Lib.hid b1
  clear b1
  go_wp2_with fail
  refine (l1Below B p 11 _ c1 (by omega) (by omega)).mono ?_
  rintro e w2 ⟨x, rfl, hx, c2, a2⟩
  go_wp2_with fail
  go_ret
  exact ⟨_, rfl, B1.out.trans (a2.below (by omega) (by omega))⟩
theorem drawSub (v : Value) (xs : List Int) (B : Nat) (w : World) (hr : Reads w B v (u8s xs)) (hB : B ≤ w.heap.size) (hx : ∀ j, j < xs.length → 0 ≤ xs.getD j 0 ∧ xs.getD j 0 ≤ 255) (hn : xs.length ≤ 1048576) :
    Calls Try.prog 37 #[v] w fun e w' => ∃ x y : Int, e = .returned (.tuple #[.int .i64 x, .int .i64 y]) ∧ Below w.heap.size w w' := by
  have HN := Lib.hid (newCur v xs B w hr hB hx hn)
  obtain ⟨_, a, ca, rfl, hca⟩ := hr
  have e0 : (u8s xs).length = xs.length := by simp [u8s]
  rw [e0] at HN ⊢
  clear hca hx e0
  go_enter Try.func37, Try.ntmps37
  go_wp2_with fail
  refine HN.out.mono ?_
  rintro e w1 ⟨p, rfl, hp, c1, hz, b1⟩
  have B1 := Lib.hid b1
  clear b1
  go_wp2_with fail
  refine (l2Bent B p _ c1).mono ?_
  rintro e w2 ⟨x, rfl, c2, a2⟩
  have A2 := Lib.hid a2
  clear a2
  go_wp2_with fail
  refine (l1Once B p 3 _ c2 (by omega) (by omega)).mono ?_
  rintro e w3 ⟨b, rfl, c3, a3⟩
  have A3 := Lib.hid (A2.out.trans a3)
  clear a3
  cases b with
  | true =>
    go_wp2_with fail
    refine (l1Below B p 256 _ c3 (by omega) (by omega)).mono ?_
    rintro e w4 ⟨y, rfl, hy, c4, a4⟩
    go_wp2_with fail
    go_ret2
    exact ⟨x, _, rfl, B1.out.trans ((A3.out.trans a4).below (by omega) (by omega))⟩
  | false =>
    go_wp2_with fail
    refine (l2Bent B p _ c3).mono ?_
    rintro e w4 ⟨y, rfl, c4, a4⟩
    go_wp2_with fail
    go_ret2
    exact ⟨x, y, rfl, B1.out.trans ((A3.out.trans a4).below (by omega) (by omega))⟩
theorem drawBefore (v : Value) (xs : List Int) (B : Nat) (w : World) (hr : Reads w B v (u8s xs)) (hB : B ≤ w.heap.size) (hx : ∀ j, j < xs.length → 0 ≤ xs.getD j 0 ∧ xs.getD j 0 ≤ 255) (hn : xs.length ≤ 1048576) :
    Calls Try.prog 9 #[v] w fun e w' => ∃ x y : Int, e = .returned (.tuple #[.int .i64 x, .int .i64 y]) ∧ Below w.heap.size w w' := by
  have HN := Lib.hid (drawSub v xs B w hr hB hx hn)
  obtain ⟨_, a, ca, rfl, hca⟩ := hr
  have e0 : (u8s xs).length = xs.length := by simp [u8s]
  rw [e0] at HN ⊢
  clear hca hx e0
  go_enter Try.func9, Try.ntmps9
  go_wp2_with fail
  refine HN.out.mono ?_
  rintro e w1 ⟨x, y, rfl, b1⟩
  go_wp2_with fail
  go_ret2
  exact ⟨x, y, rfl, b1⟩
theorem drawSort (v : Value) (xs : List Int) (B : Nat) (w : World) (hr : Reads w B v (u8s xs)) (hB : B ≤ w.heap.size) (hx : ∀ j, j < xs.length → 0 ≤ xs.getD j 0 ∧ xs.getD j 0 ≤ 255) (hn : xs.length ≤ 1048576) :
    Calls Try.prog 10 #[v] w fun e w' => ∃ u ys, e = .returned u ∧ ys.length ≤ 300 ∧ Own 3 w' w.heap.size w'.heap.size u (ints ys) ∧ Below w.heap.size w w' := by
  have HN := Lib.hid (newCur v xs B w hr hB hx hn)
  obtain ⟨_, a, ca, rfl, hca⟩ := hr
  have e0 : (u8s xs).length = xs.length := by simp [u8s]
  rw [e0] at HN ⊢
  clear hca hx e0
  go_enter Try.func10, Try.ntmps10
  go_wp2_with fail
  refine HN.out.mono ?_
  rintro e w1 ⟨p, rfl, hp, c1, hz, b1⟩
  have B1 := Lib.hid b1
  clear b1
  go_wp2_with fail
  refine (l2List B p _ c1).mono ?_
  rintro e w2 ⟨u, ys, rfl, hl, o2, c2, a2⟩
  obtain ⟨_, a, ca, rfl, hca⟩ := o2.reads
  have e1 : (ints ys).length = ys.length := by simp [ints]
  simp only [e1] at o2 ⊢
  have O2 := Lib.hid o2
  clear hca e1 o2
  go_wp2_with fail
  go_ret
  exact ⟨_, ys, rfl, hl, O2.out.mono (lo' := w.heap.size) (by omega) (Nat.le_refl _), B1.out.trans (a2.below (by omega) (by omega))⟩
theorem drawParse (v : Value) (xs : List Int) (B : Nat) (w : World) (hr : Reads w B v (u8s xs)) (hB : B ≤ w.heap.size) (hx : ∀ j, j < xs.length → 0 ≤ xs.getD j 0 ∧ xs.getD j 0 ≤ 255) (hn : xs.length ≤ 1048576) :
    Calls Try.prog 31 #[v] w fun e w' => ∃ l : List UInt8, e = .returned (.string ⟨l.toArray⟩) ∧ l.length ≤ 1100 ∧ Below w.heap.size w w' := by
  have HN := Lib.hid (newCur v xs B w hr hB hx hn)
  obtain ⟨_, a, ca, rfl, hca⟩ := hr
  have e0 : (u8s xs).length = xs.length := by simp [u8s]
  rw [e0] at HN ⊢
  clear hca hx e0
  go_enter Try.func31, Try.ntmps31
  go_wp2_with fail
  refine HN.out.mono ?_
  rintro e w1 ⟨p, rfl, hp, c1, hz, b1⟩
  have B1 := Lib.hid b1
  clear b1
  go_wp2_with fail
  refine (l1Below B p 256 _ c1 (by omega) (by omega)).mono ?_
  rintro e w2 ⟨x, rfl, hx, c2, a2⟩
  have A2 := Lib.hid a2
  clear a2
  go_wp2_with fail
  refine (spec_text _ _).mono ?_
  rintro e w3 ⟨rfl, b3⟩
  have hle : (setText (x : Int)).length ≤ 1000 := by
    have key : ∀ x : Nat, x < 256 → (setText (x : Int)).length ≤ 1000 := by decide +kernel
    exact key x hx
  have C3 := Lib.hid (c2.below b3 c2.lt)
  have A3 := Lib.hid (Apart.thenBelow2 A2.out b3 (Nat.le_refl _))
  clear b3
  generalize setText (x : Int) = t at hle
  go_wp2_with fail
  refine (turnLit B p t hle [[97], [45], [104], [105], [98, 97]] 5 rfl (by omega) (by omega) (by decide) _ rfl w3 C3.out).mono ?_
  rintro e w4 ⟨l, rfl, hl, c4, a4⟩
  go_wp2_with fail
  go_ret
  exact ⟨l, rfl, hl, B1.out.trans ((A3.out.trans a4).below (by omega) (by omega))⟩
end Go.Proofs.Ythjhcofmeogekaa.Draw
