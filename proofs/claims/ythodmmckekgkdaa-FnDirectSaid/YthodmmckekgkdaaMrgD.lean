/-
  Draws: a context, a context with a number.
-/
import Derived.Test.YthodmmckekgkdaaDraw3
import Derived.Deep.DeepCutAuto
import Derived.Test.YthodmmckekgkdaaRuleU
import Derived.Test.YthodmmckekgkdaaMrg9
import Derived.Test.YthodmmckekgkdaaMrg3
import Derived.Deep.RegionHeld3
namespace Go.Proofs.Ythodmmckekgkdaa.Draw
open Go Go.RowKit Mem Sets Elems Text Strs Ctx
set_option maxRecDepth 100000
attribute [local go_sem ↓] Go.wp_at_zero Go.wp_at_succ

/-- A world behind W in which nothing of W has turned but the cursor at p. -/
structure PastC (W : World) (B p : Nat) where
  w : World
  a : Apart p (p + 1) W w
  c : Cur w B p
theorem PastC.cell {W : World} {B p : Nat} {q : Addr} {v : Value} (h : W.cell? q = some v) (hb : q.block < W.heap.size) (hp : q.block ≠ p) (z : PastC W B p) : z.w.cell? q = some v := (World.cell?_of_block (w := W) (z.a.block q.block hb (by omega))).trans h
theorem PastC.free {W : World} {B p : Nat} {q : Addr} {b : Bool} (h : W.frozen? q = b) (hb : q.block < W.heap.size) (hp : q.block ≠ p) (z : PastC W B p) : z.w.frozen? q = b := (World.frozen?_of_block (w := W) (z.a.block q.block hb (by omega))).trans h
theorem PastC.size {W : World} {B p : Nat} (z : PastC W B p) : W.heap.size ≤ z.w.heap.size := z.a.size
def PastC.start {W : World} {B p : Nat} (c : Cur W B p) : PastC W B p := ⟨W, Apart.refl _ _ _, c⟩
def PastC.drew {W : World} {B p : Nat} (z : PastC W B p) : PastC W B p := ⟨z.w.drew, z.a.drew, z.c.below (Below.refl z.w.heap.size z.w).drew z.c.lt⟩
theorem PastC.below {W w' : World} {B p : Nat} (z : PastC W B p) (b : Below z.w.heap.size z.w w') : ∃ y : PastC W B p, w' = y.w := ⟨⟨w', z.a.trans (Apart.of_below b (Nat.le_refl _)), z.c.below b z.c.lt⟩, rfl⟩
theorem PastC.turn {W w' : World} {B p : Nat} (z : PastC W B p) (a : Apart p (p + 1) z.w w') (c : Cur w' B p) : ∃ y : PastC W B p, w' = y.w := ⟨⟨w', z.a.trans a, c⟩, rfl⟩
theorem l1BelowC {W : World} {B p : Nat} (n : Nat) (z : PastC W B p) (h1 : 1 ≤ n) (hn : n ≤ 1000000000) :
    Calls Try.prog 95 #[.pointer (some ⟨p, 0, none⟩), .int .i64 n] z.w fun e w' => ∃ x : Nat, e = .returned (.int .i64 x) ∧ x < n ∧ ∃ y : PastC W B p, w' = y.w :=
  (l1Below B p n z.w z.c h1 hn).mono fun _ _ ⟨x, he, hx, c, a⟩ => ⟨x, he, hx, z.turn a c⟩
theorem curSet2 {w : World} {B p : Nat} (h : Cur w B p) {q : Addr} (hq : q.block < p) (hB : B ≤ q.block) (u : Value) : Cur (w.setCell q u) B p := by
  obtain ⟨v, xs, i, h, h1, h2, h3⟩ := h
  exact ⟨v, xs, i, h, (Below.heap_setCell _ _ _ _ (by omega)).trans h1, h2.below ((Below.refl B w).setCell hB u) (Nat.le_refl _), h3⟩
theorem own_setB {e : TypeId} {w : World} {lo hi : Nat} {v : Value} {cs : List Value} (h : Mem.Own e w lo hi v cs) {q : Addr} (hq : q.block < lo ∨ hi ≤ q.block) (u : Value) : Mem.Own e (w.setCell q u) lo hi v cs := own_set h hq u
end Go.Proofs.Ythodmmckekgkdaa.Draw

namespace Go.Proofs.Ythodmmckekgkdaa.Draw
open Go Go.RowKit Mem Sets Elems Text Strs Ctx Rule Joins
set_option maxRecDepth 100000
attribute [local go_sem ↓] Go.wp_at_zero Go.wp_at_succ

theorem infoR : (Try.prog.info? 43).map (fun i => (i.zero, i.size, i.bytes)) = some (some (.agg #[.int .i64 0, .int .i64 0]), 2, 16) := by kernel_rfl
theorem sh64 (n : Nat) (h : n ≤ 8) : wrap64 (2 ^ n) = ((2 ^ n : Nat) : Int) := by
  have key : ∀ n : Nat, n < 9 → wrap64 (2 ^ n) = ((2 ^ n : Nat) : Int) := by decide +kernel
  exact key n (by omega)
theorem set_and {n x y : Nat} (hx : x < 2 ^ n) : x &&& y < 2 ^ n := Nat.lt_of_le_of_lt Nat.and_le_left hx
set_option maxHeartbeats 1600000 in
theorem l9Make (B p n : Nat) (w : World) (hc : Cur w B p) (hn : n ≤ 8) :
    Calls Try.prog 102 #[.pointer (some ⟨p, 0, none⟩), .int .i64 n] w fun e w' => ∃ x y : Nat, e = .returned (Rule.mk ((x : Int), (y : Int))) ∧ x < 2 ^ n ∧ y < 2 ^ n ∧ Cur w' B p ∧ Apart p (p + 1) w w' := by
  have hp := hc.lt
  have hs := sh64 n hn
  have ha2 : 1 ≤ 2 ^ n := Nat.pow_pos (by omega)
  have ha3 : 2 ^ n ≤ 256 := pow_le8 hn
  have hcw := hc.alloc (.cells #[.int .i64 0, .int .i64 0] 43)
  have HA := Lib.hid (apartAlloc p w (.cells #[.int .i64 0, .int .i64 0] 43))
  have hbx := BoxAt.new w 43 #[.int .i64 0, .int .i64 0]
  have hz : w.heap.size < (w.alloc (.cells #[.int .i64 0, .int .i64 0] 43)).heap.size := by simp
  go_enter Try.func102, Try.ntmps102
  go_upto_region 1 with fail
  generalize w.alloc (.cells #[.int .i64 0, .int .i64 0] 43) = W at hcw HA hbx hz ⊢
  have HL : Hid (∀ z : PastC W B p, Calls Try.prog 95 #[.pointer (some ⟨p, 0, none⟩), .int .i64 (wrap64 (2 ^ n))] z.w fun e w' => ∃ x : Nat, e = .returned (.int .i64 x) ∧ x < 2 ^ n ∧ ∃ y : PastC W B p, w' = y.w) := Lib.hid (fun z => by rw [hs]; exact l1BelowC (2 ^ n) z ha2 (by omega))
  have HBX := Lib.hid hbx
  have Z0 := PastC.start hcw
  have HZ0 : Hid (∃ z : PastC W B p, W = z.w) := Lib.hid ⟨PastC.start hcw, rfl⟩
  clear hs ha2 hcw hbx Z0 hc
  obtain ⟨z0, hz0⟩ := HZ0.out
  rw [hz0]
  go_wp2_with fail
  refine (HL.out z0).mono ?_
  rintro e _ ⟨x1, rfl, h1, z1, rfl⟩
  go_wp2_with fail
  refine (HL.out z1).mono ?_
  rintro e _ ⟨x2, rfl, h2, z2, rfl⟩
  have hand := and_nat x1 x2 (by omega) (by omega)
  go_wp2_with fail
  refine (HL.out z2).mono ?_
  rintro e _ ⟨y, rfl, h3, z3, rfl⟩
  have g0 := PastC.cell (HBX.out.cell 0) hz (by show w.heap.size ≠ p; omega) z3
  have g1 := PastC.cell (HBX.out.cell 1) hz (by show w.heap.size ≠ p; omega) z3
  have g2 := PastC.free (HBX.out.free 0) hz (by show w.heap.size ≠ p; omega) z3
  have g3 := PastC.free (HBX.out.free 1) hz (by show w.heap.size ≠ p; omega) z3
  have hand3 : x1 &&& x2 < 2 ^ n := set_and h1
  have HC := Lib.hid (curSet (curSet z3.c (q := ⟨w.heap.size, 0, none⟩) hp (.int .i64 ((x1 &&& x2 : Nat) : Int))) (q := ⟨w.heap.size, 1, none⟩) hp (.int .i64 (y : Int)))
  have HAP := Lib.hid (apartSet (apartSet (HA.out.trans z3.a) (q := ⟨w.heap.size, 0, none⟩) (Nat.le_refl _) (.int .i64 ((x1 &&& x2 : Nat) : Int))) (q := ⟨w.heap.size, 1, none⟩) (Nat.le_refl _) (.int .i64 (y : Int)))
  generalize x1 &&& x2 = x at hand hand3 HC HAP
  go_wp2_with fail
  refine bodyPost_ret (v := Rule.mk ((x : Int), (y : Int))) (by simp [results, Try.results102, go_sem, g0, g1]) rfl ⟨x, y, rfl, hand3, h3, HC.out, HAP.out⟩
theorem newsR2 (w : World) (x y : Int) (t : TypeId) : ∀ (j : Nat) (u : Value), (prs [(x, y)])[j]? = some u → (w.alloc (.cells #[.int .i64 x, .int .i64 y] t)).cell? ((⟨w.heap.size, 0, none⟩ : Addr).add j) = some u := by
  intro j u hj
  match j, hj with
  | 0, hj => simp [prs] at hj; subst hj; simp [Addr.add]
  | 1, hj => simp [prs] at hj; subst hj; simp [Addr.add]
theorem oneR2 (p : PInt) : ∀ u ∈ prs [p], u.oneCell' = true := by
  intro u hu
  simp [prs] at hu
  rcases hu with rfl | rfl <;> rfl
theorem isR_nat {n x y : Nat} (hn : n ≤ 8) (hx : x < 2 ^ n) (hy : y < 2 ^ n) : isR (n : Int) ((x : Int), (y : Int)) = true := by
  rw [isR, isSet_of_nat (by omega) (by omega) (by rw [Int.toNat_natCast]; exact hx), isSet_of_nat (by omega) (by omega) (by rw [Int.toNat_natCast]; exact hy)]; rfl
/-- A list of rules that a draw is making: the row, the cursor, what has turned. -/
structure Rw (w0 w : World) (B p : Nat) (v : Value) (l : List PInt) : Prop where
  own : w.ownsRow w0.heap.size 43 2 v l.length (prs l)
  cur : Cur w B p
  ap : Apart p (p + 1) w0 w
  hp : p < w0.heap.size
theorem Rw.turn {w0 w w2 : World} {B p : Nat} {v : Value} {l : List PInt} (h : Rw w0 w B p v l) (c : Cur w2 B p) (a : Apart p (p + 1) w w2) : Rw w0 w2 B p v l :=
  ⟨rowP_same h.own fun k hk => a.block k (h.own.lt k hk).2 (by have := (h.own.lt k hk).1; have := h.hp; omega), c, h.ap.trans a, h.hp⟩
theorem Rw.alloc {w0 w : World} {B p : Nat} {v : Value} {l : List PInt} (h : Rw w0 w B p v l) (o : Obj) : Rw w0 (w.alloc o) B p v l := h.turn (h.cur.alloc o) (apartAlloc p w o)
theorem Rw.size {w0 w : World} {B p : Nat} {v : Value} {l : List PInt} (h : Rw w0 w B p v l) : w0.heap.size ≤ w.heap.size := h.ap.size
theorem Rw.grown {w0 w w2 : World} {B p g cap n : Nat} {v : Value} {l : List PInt} {x : PInt} (h : Rw w0 w B p v l) (hg : w.grownBy w2 v.ownBlock) (hn : n = l.length + 1)
    (ho : w2.ownsRow w0.heap.size 43 2 (.slice (some ⟨g, 0, none⟩) n cap) n (prs l ++ prs [x])) : Rw w0 w2 B p (.slice (some ⟨g, 0, none⟩) n cap) (l ++ [x]) := by
  have hl := h.cur.le
  have hp := h.hp
  refine ⟨?_, cur_grown h.cur hg (fun q hq => by have := (h.own.lt q hq).1; omega) (fun q hq => by have := (h.own.lt q hq).1; omega), Apart.thenGrown2 h.ap hg (fun q hq => (h.own.lt q hq).1), h.hp⟩
  rw [prs_app, List.length_append, List.length_cons, List.length_nil, Nat.zero_add, ← hn]
  exact ho
set_option maxHeartbeats 1600000 in
theorem l9Draw (B p n : Nat) (w : World) (hc : Cur w B p) (hn : n ≤ 8) :
    Calls Try.prog 113 #[.pointer (some ⟨p, 0, none⟩), .int .i64 n] w fun e w' => ∃ v l, e = .returned v ∧ l.length ≤ 4 ∧ allIn n l = true ∧ Rw w w' B p v l := by
  obtain ⟨i0, hinf, hz0, hz1, hz2⟩ := info_parts infoR
  have R0 : Rw w (w.alloc (.cells #[] 43 (0, 0))) B p (.slice (some ⟨w.heap.size, 0, none⟩) 0 0) [] := ⟨World.ownsRow_lit w #[] 0 (Nat.le_refl _) (Nat.zero_le _) rfl, hc.alloc _, apartAlloc p w _, hc.lt⟩
  have HR0 := Lib.hid R0
  clear R0 hc
  go_enter Try.func113, Try.ntmps113
  go_wp2_with fail
  refine (l1Below B p 5 _ HR0.out.cur (by omega) (by omega)).mono ?_
  rintro e w1 ⟨c, rfl, hc5, c1, a1⟩
  have HR1 := Lib.hid (HR0.out.turn c1 a1)
  clear c1 a1 HR0
  go_wp2_with fail
  go_loopw [5, 7] (fun ov i wr => ∃ (k : Nat) (l : List PInt), k ≤ c ∧ i = .int .i64 k ∧ l.length = k ∧ Hid (allIn n l = true) ∧ Hid (Rw w wr B p ov l)) (fun _ i _ => c - (intOf i).toNat)
  case atStart => exact ⟨0, [], Nat.zero_le _, rfl, rfl, Lib.hid rfl, HR1⟩
  case round =>
    obtain ⟨k, l, hk, rfl, hlk, hall, HR⟩ := hrel
    obtain ⟨av, cv, hov⟩ := rowP_form HR.out.own
    subst hov
    rw [hlk] at HR
    by_cases hlt : k < c
    · have hsz := HR.out.size
      go_wp2_with fail
      refine (l9Make B p n _ HR.out.cur hn).mono ?_
      rintro e w2 ⟨x, y, rfl, hx, hy, c2, a2⟩
      have HR2 := Lib.hid (HR.out.turn c2 a2)
      have hs2 := HR2.out.size
      have HRI := Lib.hid (isR_nat hn hx hy)
      have hpl : Hid (w2.ownsRow w.heap.size 43 2 (.slice av k cv) k (prs l)) := Lib.hid (by have := HR2.out.own; rwa [hlk] at this)
      clear c2 a2
      go_wp2_with (at_builtin; refine wpList_append_lies _ rfl _ _ _ rfl w.heap.size 43 i0 (.agg #[.int .i64 0, .int .i64 0]) 2 16 Try.underlying28 hinf hz0 hz1 hz2 rfl (by decide) _ k _ rfl (hpl.out.alloc _) ⟨w2.heap.size, 0, none⟩ 1 1 (prs [((x : Int), (y : Int))]) rfl rfl (newsR2 _ x y _) (oneR2 _) Nat.one_pos (by unfold maxLen; omega) (by omega) (by simp; omega) _ rfl ?_)
      intro g cap w4 hown4 hgrow hat hlt4
      have HR4 := Lib.hid ((HR2.out.alloc (.cells #[.int .i64 x, .int .i64 y] 43)).grown hgrow (by omega : k + 1 = l.length + 1) hown4)
      clear hown4 hgrow hat hlt4
      go_wp2_with fail
      go_roundw
      case rel => exact ⟨k + 1, l ++ [((x : Int), (y : Int))], by omega, by simp, by simp [hlk], Lib.hid (by
        have h1 := hall.out
        unfold allIn at h1 ⊢
        rw [List.all_append, h1]
        simp [HRI.out]), HR4⟩
      case measure => simp [intOf]; omega
    · go_wp2_with fail
      go_ret
      exact ⟨_, l, rfl, by omega, hall.out, by rw [hlk]; exact HR.out⟩
theorem OwnP.drew {e : TypeId} {w : World} {lo hi : Nat} {v : Value} {l : List PInt} (h : OwnP e w lo hi v l) : OwnP e w.drew lo hi v l := ⟨rowP_same h.1 fun _ _ => rfl, h.2⟩
theorem Rw.ownP {w0 w : World} {B p : Nat} {v : Value} {l : List PInt} (h : Rw w0 w B p v l) : OwnP 43 w w0.heap.size w.heap.size v l := OwnP.made h.own
theorem Rw.below {w0 w : World} {B p b : Nat} {v : Value} {l : List PInt} (h : Rw w0 w B p v l) (hb : b ≤ p) (hs : b ≤ w0.heap.size) : Below b w0 w := h.ap.below hb hs
set_option maxHeartbeats 3200000 in
theorem l9Bent (B p n : Nat) (w : World) (hc : Cur w B p) (hn : n ≤ 8) :
    Calls Try.prog 82 #[.pointer (some ⟨p, 0, none⟩), .int .i64 n] w fun e w' => ∃ v l, e = .returned v ∧ l.length ≤ 5 ∧ Rw w w' B p v l := by
  obtain ⟨i0, hinf, hz0, hz1, hz2⟩ := info_parts infoR
  go_enter Try.func82, Try.ntmps82
  go_wp2_with fail
  refine (l9Draw B p n _ hc hn).mono ?_
  rintro e w1 ⟨v, l, rfl, hl4, -, R⟩
  obtain ⟨av, cv, hov⟩ := rowP_form R.own
  subst hov
  have HR := Lib.hid R
  clear R
  obtain ⟨k, hk⟩ : ∃ k, l.length = k := ⟨_, rfl⟩
  rw [hk] at HR hl4 ⊢
  go_wp2_with fail
  refine (l1Once B p 10 _ HR.out.cur (by omega) (by omega)).mono ?_
  rintro e w2 ⟨b, rfl, c2, a2⟩
  have HR2 := Lib.hid (HR.out.turn c2 a2)
  clear c2 a2
  cases b with
  | true =>
    go_wp2_with fail
    refine (l2Bent B p _ HR2.out.cur).mono ?_
    rintro e w3 ⟨x, rfl, c3, a3⟩
    have HR3 := Lib.hid (HR2.out.turn c3 a3)
    clear c3 a3
    go_wp2_with fail
    refine (l2Bent B p _ HR3.out.cur).mono ?_
    rintro e w4 ⟨y, rfl, c4, a4⟩
    have HR4 := Lib.hid (HR3.out.turn c4 a4)
    have hs4 := HR4.out.size
    have hpl : Hid (w4.ownsRow w.heap.size 43 2 (.slice av k cv) k (prs l)) := Lib.hid (by have := HR4.out.own; rwa [hk] at this)
    clear c4 a4
    go_wp2_with (at_builtin; refine wpList_append_lies _ rfl _ _ _ rfl w.heap.size 43 i0 (.agg #[.int .i64 0, .int .i64 0]) 2 16 Try.underlying28 hinf hz0 hz1 hz2 rfl (by decide) _ k _ rfl (hpl.out.alloc _) ⟨w4.heap.size, 0, none⟩ 1 1 (prs [(x, y)]) rfl rfl (newsR2 _ x y _) (oneR2 _) Nat.one_pos (by unfold maxLen; omega) (by omega) (by simp; omega) _ rfl ?_)
    intro g cap w5 hown5 hgrow hat hlt5
    have HR5 := Lib.hid ((HR4.out.alloc (.cells #[.int .i64 x, .int .i64 y] 43)).grown hgrow (by omega : k + 1 = l.length + 1) hown5)
    clear hown5 hgrow hat hlt5
    go_wp2_with fail
    go_ret
    exact ⟨_, l ++ [(x, y)], rfl, by simp; omega, HR5.out⟩
  | false =>
    go_wp2_with fail
    go_ret
    exact ⟨_, l, rfl, by omega, HR2.out⟩
set_option maxHeartbeats 1600000 in
theorem DrawClosedBy (v : Value) (xs : List Int) (B : Nat) (w : World) (hr : Reads w B v (u8s xs)) (hB : B ≤ w.heap.size) (hx : ∀ j, j < xs.length → 0 ≤ xs.getD j 0 ∧ xs.getD j 0 ≤ 255) (hn : xs.length ≤ 1048576) :
    Calls Try.prog 79 #[v] w fun e w' => ∃ (u : Value) (l : List PInt) (s : Int), e = .returned (.tuple #[u, .int .i64 s]) ∧ l.length ≤ 5 ∧ OwnP 43 w' w.heap.size w'.heap.size u l ∧ Below w.heap.size w w' := by
  have HN := Lib.hid (newCur v xs B w hr hB hx hn)
  obtain ⟨_, aa, ca, rfl, hca⟩ := hr
  have e0 : (u8s xs).length = xs.length := by simp [u8s]
  rw [e0] at HN ⊢
  clear hca hx e0
  go_enter Try.func79, Try.ntmps79
  go_wp2_with fail
  refine HN.out.mono ?_
  rintro e w1 ⟨p, rfl, hp, c1, hz, b1⟩
  have B1 := Lib.hid b1
  have hs1 := b1.size
  clear b1
  go_wp2_with fail
  refine (l9Bent B p 5 _ c1 (by omega)).mono ?_
  rintro e w2 ⟨u, l, rfl, hl, R⟩
  have HR := Lib.hid R
  clear R
  go_wp2_with fail
  refine (l1Once B p 12 _ HR.out.cur (by omega) (by omega)).mono ?_
  rintro e w3 ⟨b, rfl, c3, a3⟩
  have HR3 := Lib.hid (HR.out.turn c3 a3)
  clear c3 a3
  cases b with
  | true =>
    go_wp2_with fail
    refine (l2Bent B p _ HR3.out.cur).mono ?_
    rintro e w4 ⟨x, rfl, c4, a4⟩
    have HR4 := Lib.hid (HR3.out.turn c4 a4)
    clear c4 a4
    go_wp2_with fail
    go_ret2
    exact ⟨_, l, x, rfl, hl, HR4.out.ownP.mono (by omega) (Nat.le_refl _), B1.out.trans (HR4.out.below hp hs1)⟩
  | false =>
    go_wp2_with fail
    refine (l1Below B p 32 _ HR3.out.cur (by omega) (by omega)).mono ?_
    rintro e w4 ⟨x, rfl, -, c4, a4⟩
    have HR4 := Lib.hid (HR3.out.turn c4 a4)
    clear c4 a4
    go_wp2_with fail
    go_ret2
    exact ⟨_, l, x, rfl, hl, HR4.out.ownP.mono (by omega) (Nat.le_refl _), B1.out.trans (HR4.out.below hp hs1)⟩
theorem rulesText_le {l : List PInt} : (rulesText l).length ≤ 4 + 18 * l.length := by
  unfold rulesText
  split
  · simp
  · split
    · unfold joined
      split
      · simp
      · have := join_texts_le l
        omega
    · simp
theorem l1Min (x y : Int) (w : World) : Calls Try.prog 104 #[.int .i64 x, .int .i64 y] w fun e w' => e = .returned (.int .i64 (if x < y then x else y)) ∧ w' = w := by
  by_cases h : x < y
  · have d0 : decide (x < y) = true := decide_eq_true h
    rw [if_pos h]
    clear h
    go_enter Try.func104, Try.ntmps104
    go_wp2_with fail
    go_ret
    exact ⟨rfl, rfl⟩
  · have d0 : decide (x < y) = false := decide_eq_false h
    rw [if_neg h]
    clear h
    go_enter Try.func104, Try.ntmps104
    go_wp2_with fail
    go_ret
    exact ⟨rfl, rfl⟩
theorem l1Max (x y : Int) (w : World) : Calls Try.prog 103 #[.int .i64 x, .int .i64 y] w fun e w' => e = .returned (.int .i64 (if y < x then x else y)) ∧ w' = w := by
  by_cases h : y < x
  · have d0 : decide (y < x) = true := decide_eq_true h
    rw [if_pos h]
    clear h
    go_enter Try.func103, Try.ntmps103
    go_wp2_with fail
    go_ret
    exact ⟨rfl, rfl⟩
  · have d0 : decide (y < x) = false := decide_eq_false h
    rw [if_neg h]
    clear h
    go_enter Try.func103, Try.ntmps103
    go_wp2_with fail
    go_ret
    exact ⟨rfl, rfl⟩
end Go.Proofs.Ythodmmckekgkdaa.Draw

namespace Go.Proofs.Ythodmmckekgkdaa.Draw
open Go Go.RowKit Mem Sets Elems Text Strs Ctx Tab Rule
set_option maxRecDepth 100000

section
attribute [local go_sem ↓] Go.wp_at_zero Go.wp_at_succ
theorem DrawDirectBase (v : Value) (xs : List Int) (B : Nat) (w : World) (hr : Reads w B v (u8s xs)) (hB : B ≤ w.heap.size) (hx : ∀ j, j < xs.length → 0 ≤ xs.getD j 0 ∧ xs.getD j 0 ≤ 255) (hn : xs.length ≤ 1048576) :
    Calls Try.prog 30 #[v] w fun e w' => ∃ (a : Int) (u : Value) (rs : List Int), e = .returned (ctx a u) ∧ rs.length ≤ 9 ∧ Mem.Own 3 w' w.heap.size w'.heap.size u (ints rs) ∧ Below w.heap.size w w' := by
  have HN := Lib.hid (newCur v xs B (w.alloc (.cells #[.int .i64 0, .slice none 0 0] 26)) (hr.below ((Below.refl w.heap.size w).alloc (Nat.le_refl _) _) hB) (by simp; omega) hx hn)
  obtain ⟨_, aa, ca, rfl, hca⟩ := hr
  have e0 : (u8s xs).length = xs.length := by simp [u8s]
  rw [e0] at HN ⊢
  clear hca hx e0
  go_enter Try.func30, Try.ntmps30
  go_wp2_with fail
  refine HN.out.mono ?_
  rintro e w1 ⟨p, rfl, hp, c1, hz, b1⟩
  have hp' : w.heap.size + 1 ≤ p := by simpa using hp
  have hz1 : w.heap.size + 2 ≤ w1.heap.size := by simpa using hz
  have hpl := c1.lt
  have R1 := Lib.hid ((BoxAt.new w 26 #[.int .i64 0, .slice none 0 0]).below b1 (by simp))
  have B1 := Lib.hid (((Below.refl w.heap.size w).alloc (Nat.le_refl _) (.cells #[.int .i64 0, .slice none 0 0] 26)).trans (b1.mono (by simp)))
  clear b1 hp hz HN
  go_wp2_with fail
  refine (l3Bent B p _ c1).mono ?_
  rintro e w2 ⟨a, u, rs, rfl, -, -, hl9, o, c2, a2⟩
  obtain ⟨av, cv, rfl⟩ := own_form o
  have hz2 := a2.size
  have r2 := boxA R1.out a2 (.inl (by omega))
  have B2 := Lib.hid (B1.out.trans (a2.below (B := w.heap.size) (by omega) (by omega)))
  have O2 := Lib.hid o
  have HL := Lib.hid hl9
  have e0 : w2.cell? ⟨w.heap.size, 0, none⟩ = some (.int .i64 0) := r2.cell 0
  have e1 : w2.cell? ⟨w.heap.size, 1, none⟩ = some (.slice none 0 0) := r2.cell 1
  have f0 := r2.free 0
  have f1 := r2.free 1
  clear o c2 a2 c1 r2 hl9
  go_wp2_with fail
  refine bodyPost_ret (v := ctx a (.slice av rs.length cv)) (by simp [results, Try.results30, go_sem, e0, e1]) rfl ⟨a, _, rs, rfl, HL.out, ?_, ((B2.out.setCell (p := ⟨w.heap.size, 0, none⟩) (Nat.le_refl _) _).setCell (p := ⟨w.heap.size, 1, none⟩) (Nat.le_refl _) _)⟩
  exact (own_setB (own_setB O2.out (q := ⟨w.heap.size, 0, none⟩) (.inl (by show w.heap.size < _; omega)) _) (q := ⟨w.heap.size, 1, none⟩) (.inl (by show w.heap.size < _; omega)) _).mono (by omega) (by first | (simp; done) | (simp; omega))
end
theorem DrawOneStep (v : Value) (xs : List Int) (B : Nat) (w : World) (hr : Reads w B v (u8s xs)) (hB : B ≤ w.heap.size) (hx : ∀ j, j < xs.length → 0 ≤ xs.getD j 0 ∧ xs.getD j 0 ≤ 255) (hn : xs.length ≤ 1048576) :
    Calls Try.prog 33 #[v] w fun e w' => ∃ (u : Value) (l : List PInt) (s : Int), e = .returned (.tuple #[u, .int .i64 s]) ∧ l.length ≤ 5 ∧ OwnP 43 w' w.heap.size w'.heap.size u l ∧ Below w.heap.size w w' := by
  have HD := Lib.hid (DrawClosedBy v xs B w hr hB hx hn)
  obtain ⟨_, aa, ca, rfl, hca⟩ := hr
  have e0 : (u8s xs).length = xs.length := by simp [u8s]
  rw [e0] at HD ⊢
  clear hca hx e0
  go_enter Try.func33, Try.ntmps33
  go_wp2_with fail
  refine HD.out.mono ?_
  rintro e w1 ⟨u, l, s, rfl, hl, o, b⟩
  obtain ⟨p, c, rfl⟩ := o.form
  have HO := Lib.hid o
  have HB := Lib.hid b
  clear o b
  go_wp2_with fail
  go_ret2
  exact ⟨_, l, s, rfl, hl, HO.out, HB.out⟩
theorem draw_cells {w : World} {g : Nat} {t : TypeId} {x y : Value} (h : BoxAt w g t #[x, y]) : w.cell? ⟨g, 0, none⟩ = some x ∧ w.cell? ⟨g, 1, none⟩ = some y := ⟨h.cell 0, h.cell 1⟩
set_option maxHeartbeats 6400000 in
theorem DrawIsDirect (v : Value) (xs : List Int) (B : Nat) (w : World) (hr : Reads w B v (u8s xs)) (hB : B ≤ w.heap.size) (hx : ∀ j, j < xs.length → 0 ≤ xs.getD j 0 ∧ xs.getD j 0 ≤ 255) (hn : xs.length ≤ 1048576) :
    Calls Try.prog 34 #[v] w fun e w' => ∃ (n : Int) (u : Value) (l : List PInt), e = .returned (.tuple #[.int .i64 n, u]) ∧ 0 ≤ n ∧ n ≤ 5 ∧ l.length ≤ 64 ∧ OwnP 43 w' w.heap.size w'.heap.size u l ∧ Below w.heap.size w w' := by
  have HN := Lib.hid (newCur v xs B w hr hB hx hn)
  obtain ⟨_, aa, ca, rfl, hca⟩ := hr
  have e0 : (u8s xs).length = xs.length := by simp [u8s]
  rw [e0] at HN ⊢
  clear hca hx e0
  go_enter Try.func34, Try.ntmps34
  go_wp2_with fail
  refine HN.out.mono ?_
  rintro e w1 ⟨p, rfl, hp, c1, hz, b1⟩
  have hpl := c1.lt
  have hs1 := b1.size
  have B1 := Lib.hid b1
  clear b1 HN
  go_wp2_with fail
  refine (l3Draw B p _ c1).mono ?_
  rintro e w2 ⟨a, u, rs, rfl, ha5, hl6, hall, o, c2, a2⟩
  obtain ⟨av, cv, rfl⟩ := own_form o
  have hz2w := a2.size
  have B2 := Lib.hid ((B1.out.trans (a2.below (B := w.heap.size) (by omega) (by omega))).alloc (by omega : w.heap.size ≤ w2.heap.size) (.cells #[.int .i64 a, .slice av rs.length cv] 26))
  have G2 := Lib.hid (BoxAt.new w2 26 #[.int .i64 a, .slice av rs.length cv])
  have O2 := Lib.hid (o.below ((Below.refl w2.heap.size w2).alloc (Nat.le_refl _) (.cells #[.int .i64 a, .slice av rs.length cv] 26)) (Nat.le_refl _))
  have C2 := Lib.hid (c2.alloc (.cells #[.int .i64 a, .slice av rs.length cv] 26))
  have hg0 : w2.heap.size < (w2.alloc (.cells #[.int .i64 a, .slice av rs.length cv] 26)).heap.size := by simp
  clear o c2 a2 c1 B1
  go_upto_region 3 with fail
  generalize w2.alloc (.cells #[.int .i64 a, .slice av rs.length cv] 26) = V at B2 G2 O2 C2 hg0 ⊢
  go_wp2_with fail
  refine (l1Once B p 2 _ C2.out (by omega) (by omega)).mono ?_
  rintro e w3 ⟨b, rfl, c3, a3⟩
  have hs3 := a3.size
  have G3 := Lib.hid (boxA G2.out a3 (.inr (by omega)))
  have O3 := Lib.hid (O2.out.apart a3 (.inr (by omega)))
  have B3 := Lib.hid (B2.out.trans (a3.below (B := w.heap.size) (by omega) (by omega)))
  have C3 := Lib.hid c3
  clear c3 a3 G2 O2 B2 C2
  cases b with
  | true =>
    have HD := Lib.hid ((Below.refl w3.heap.size w3).drew)
    have hdz : w3.drew.heap.size = w3.heap.size := rfl
    have G4 := Lib.hid (G3.out.below HD.out G3.out.lt)
    have HS := Lib.hid (Stem.spec_stem a (.slice av rs.length cv) rs w3.heap.size w3.drew ((O3.out.reads.mono (by omega)).below HD.out (Nat.le_refl _)) (Nat.le_refl _))
    have hsl := Stem.stemBase_len (a : Int) rs
    generalize Stem.stemBase (a : Int) rs = l at HS hsl
    have HK : Hid (w3.drew.cell? ⟨w2.heap.size, 0, none⟩ = some (.int .i64 a) ∧ w3.drew.cell? ⟨w2.heap.size, 1, none⟩ = some (.slice av rs.length cv)) := Lib.hid ⟨G4.out.cell 0, G4.out.cell 1⟩
    go_wp2_with fail
    go_region_held3 (fun wx => wx.cell? ⟨w2.heap.size, 0, none⟩ = some (.int .i64 a) ∧ wx.cell? ⟨w2.heap.size, 1, none⟩ = some (.slice av rs.length cv))
      (first | with_reducible exact HK.out | with_reducible exact F | fail)
      (first | (go_at_call 17; with_reducible refine (HS.out).mono ?_; rintro e w4 ⟨u4, rfl, o4, b4⟩; obtain ⟨p4, q4, rfl⟩ := o4.form; have F := draw_cells (G4.out.below b4 G4.out.lt)) | fail)
    have O5 := Lib.hid (o4.mono (lo' := w.heap.size) (by have := B3.out.size; omega) (Nat.le_refl _))
    have B5 := Lib.hid ((B3.out.drew).trans (b4.mono (by have := B3.out.size; omega)))
    clear o4 b4
    go_wp2_with fail
    go_ret2
    exact ⟨a, _, l, rfl, by omega, by omega, by omega, O5.out, B5.out⟩
  | false =>
    go_wp2_with fail
    refine (l1Once B p 3 _ C3.out (by omega) (by omega)).mono ?_
    rintro e w5 ⟨b, rfl, c5, a5⟩
    have hs5 := a5.size
    have G5 := Lib.hid (boxA G3.out a5 (.inr (by omega)))
    have O5 := Lib.hid (O3.out.apart a5 (.inr (by omega)))
    have B5 := Lib.hid (B3.out.trans (a5.below (B := w.heap.size) (by omega) (by omega)))
    have C5 := Lib.hid c5
    have HD := Lib.hid ((Below.refl w5.heap.size w5).drew)
    have hdz : w5.drew.heap.size = w5.heap.size := rfl
    have G6 := Lib.hid (G5.out.below HD.out G5.out.lt)
    have HK : Hid (w5.drew.cell? ⟨w2.heap.size, 0, none⟩ = some (.int .i64 a) ∧ w5.drew.cell? ⟨w2.heap.size, 1, none⟩ = some (.slice av rs.length cv)) := Lib.hid ⟨G6.out.cell 0, G6.out.cell 1⟩
    clear c5 a5 G3 O3 B3 C3
    cases b with
    | true =>
      have HL := Lib.hid (l9Bent B p a w5.drew (C5.out.below HD.out C5.out.lt) (by omega))
      go_wp2_with fail
      go_region_held3 (fun wx => wx.cell? ⟨w2.heap.size, 0, none⟩ = some (.int .i64 a) ∧ wx.cell? ⟨w2.heap.size, 1, none⟩ = some (.slice av rs.length cv))
        (first | with_reducible exact HK.out | with_reducible exact F | fail)
        (first | (go_at_call 82; with_reducible refine (HL.out).mono ?_; rintro e w6 ⟨u6, l6, rfl, hl6b, R6⟩; obtain ⟨p6, q6, hov⟩ := rowP_form R6.own; subst hov; have F := draw_cells (boxA G6.out R6.ap (.inr (by omega)))) | fail)
      have O7 := Lib.hid (R6.ownP.mono (lo' := w.heap.size) (by have := B5.out.size; omega) (Nat.le_refl _))
      have B7 := Lib.hid ((B5.out.drew).trans (R6.below (b := w.heap.size) (by omega) (by have := B5.out.size; omega)))
      clear R6
      go_wp2_with fail
      go_ret2
      exact ⟨a, _, l6, rfl, by omega, by omega, by omega, O7.out, B7.out⟩
    | false =>
      have HS := Lib.hid (Direct.spec_direct a (.slice av rs.length cv) rs w5.heap.size w5.drew ((O5.out.reads.mono (by omega)).below HD.out (Nat.le_refl _)) (Nat.le_refl _))
      have hsl : (Direct.directBase (a : Int) rs).length ≤ 64 := by rw [Direct.base_prem_len]; exact Direct.prem_len a rs
      generalize Direct.directBase (a : Int) rs = l at HS hsl
      go_wp2_with fail
      go_region_held3 (fun wx => wx.cell? ⟨w2.heap.size, 0, none⟩ = some (.int .i64 a) ∧ wx.cell? ⟨w2.heap.size, 1, none⟩ = some (.slice av rs.length cv))
        (first | with_reducible exact HK.out | with_reducible exact F | fail)
        (first | (go_at_call 35; with_reducible refine (HS.out).mono ?_; rintro e w6 ⟨u6, rfl, o6, b6⟩; obtain ⟨p6, q6, rfl⟩ := o6.form; have F := draw_cells (G6.out.below b6 G6.out.lt)) | fail)
      have O7 := Lib.hid (o6.mono (lo' := w.heap.size) (by have := B5.out.size; omega) (Nat.le_refl _))
      have B7 := Lib.hid ((B5.out.drew).trans (b6.mono (by have := B5.out.size; omega)))
      clear o6 b6
      go_wp2_with fail
      go_ret2
      exact ⟨a, _, l, rfl, by omega, by omega, by omega, O7.out, B7.out⟩
end Go.Proofs.Ythodmmckekgkdaa.Draw
