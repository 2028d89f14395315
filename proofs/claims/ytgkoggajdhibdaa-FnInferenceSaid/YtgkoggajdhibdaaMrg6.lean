/-
  Draws of chapter 11.
-/
import Derived.Test.YtgkoggajdhibdaaDrawR
import Derived.Test.YtgkoggajdhibdaaMrg8
import Derived.Deep.RegionHeld3
namespace Go.Proofs.Ytgkoggajdhibdaa.Draw
open Go Go.RowKit Mem Sets Ctx Tab Rule Stem Infer
set_option maxRecDepth 100000

set_option maxHeartbeats 1600000 in
theorem DrawMinimalRules (v : Value) (xs : List Int) (B : Nat) (w : World) (hr : Reads w B v (u8s xs)) (hB : B ≤ w.heap.size) (hx : ∀ j, j < xs.length → 0 ≤ xs.getD j 0 ∧ xs.getD j 0 ≤ 255) (hn : xs.length ≤ 1048576) :
    Calls Try.prog 40 #[v] w fun e w' => ∃ (u : Value) (l : List PInt), e = .returned u ∧ l.length ≤ 5 ∧ OwnP 43 w' w.heap.size w'.heap.size u l ∧ Below w.heap.size w w' := by
  have HN := Lib.hid (newCur v xs B w hr hB hx hn)
  obtain ⟨_, aa, ca, rfl, hca⟩ := hr
  have e0 : (u8s xs).length = xs.length := by simp [u8s]
  rw [e0] at HN ⊢
  clear hca hx e0
  go_enter Try.func40, Try.ntmps40
  go_wp2_with fail
  refine HN.out.mono ?_
  rintro e w1 ⟨p, rfl, hp, c1, hz, b1⟩
  have B1 := Lib.hid b1
  have hs1 := b1.size
  clear b1
  go_wp2_with fail
  refine (l9Bent B p 4 _ c1 (by omega)).mono ?_
  rintro e w2 ⟨u, l, rfl, hl, R⟩
  have HR := Lib.hid R
  clear R
  go_wp2_with fail
  go_ret
  exact ⟨_, l, rfl, hl, HR.out.ownP.mono (by omega) (Nat.le_refl _), B1.out.trans (HR.out.below hp hs1)⟩
theorem DrawShortRules (v : Value) (xs : List Int) (B : Nat) (w : World) (hr : Reads w B v (u8s xs)) (hB : B ≤ w.heap.size) (hx : ∀ j, j < xs.length → 0 ≤ xs.getD j 0 ∧ xs.getD j 0 ≤ 255) (hn : xs.length ≤ 1048576) :
    Calls Try.prog 42 #[v] w fun e w' => ∃ (n : Int) (u : Value) (l : List PInt), e = .returned (.tuple #[.int .i64 n, u]) ∧ l.length ≤ 41 ∧ OwnP 43 w' w.heap.size w'.heap.size u l ∧ Below w.heap.size w w' := by
  have HD := Lib.hid (DrawAreRules v xs B w hr hB hx hn)
  obtain ⟨_, aa, ca, rfl, hca⟩ := hr
  have e0 : (u8s xs).length = xs.length := by simp [u8s]
  rw [e0] at HD ⊢
  clear hca hx e0
  go_enter Try.func42, Try.ntmps42
  go_wp2_with fail
  refine HD.out.mono ?_
  rintro e w1 ⟨n, u, l, rfl, hl, o, b⟩
  obtain ⟨p, c, rfl⟩ := o.form
  have HO := Lib.hid o
  have HB := Lib.hid b
  clear o b
  go_wp2_with fail
  go_ret2
  exact ⟨n, _, l, rfl, hl, HO.out, HB.out⟩
set_option maxHeartbeats 1600000 in
theorem DrawProofOf (v : Value) (xs : List Int) (B : Nat) (w : World) (hr : Reads w B v (u8s xs)) (hB : B ≤ w.heap.size) (hx : ∀ j, j < xs.length → 0 ≤ xs.getD j 0 ∧ xs.getD j 0 ≤ 255) (hn : xs.length ≤ 1048576) :
    Calls Try.prog 36 #[v] w fun e w' => ∃ (u : Value) (l : List PInt) (r : PInt), e = .returned (.tuple #[u, Rule.mk r]) ∧ l.length ≤ 5 ∧ OwnP 43 w' w.heap.size w'.heap.size u l ∧ Below w.heap.size w w' := by
  have HD := Lib.hid (DrawFollows v xs B (w.alloc (.cells #[.int .i64 0, .int .i64 0] 43)) (hr.below ((Below.refl w.heap.size w).alloc (Nat.le_refl _) _) hB) (by simp; omega) hx hn)
  have hbx := BoxAt.new w 43 #[.int .i64 0, .int .i64 0]
  have hW := (Below.refl w.heap.size w).alloc (Nat.le_refl _) (.cells #[.int .i64 0, .int .i64 0] 43)
  have hz0 : w.heap.size < (w.alloc (.cells #[.int .i64 0, .int .i64 0] 43)).heap.size := by simp
  obtain ⟨_, aa, ca, rfl, hca⟩ := hr
  have e0 : (u8s xs).length = xs.length := by simp [u8s]
  rw [e0] at HD ⊢
  clear hca hx e0
  go_enter Try.func36, Try.ntmps36
  go_upto_region 1 with fail
  generalize w.alloc (.cells #[.int .i64 0, .int .i64 0] 43) = W at HD hbx hW hz0 ⊢
  go_wp2_with fail
  refine HD.out.mono ?_
  rintro e w1 ⟨u, l, ⟨x, y⟩, rfl, hl, o, b⟩
  obtain ⟨pu, cu, rfl⟩ := o.form
  have hz1 := b.size
  have X2 := Lib.hid ((hbx.below b hz0).alloc (.cells #[.int .i64 x, .int .i64 y] 43))
  have Y2 := Lib.hid (BoxAt.new w1 43 #[.int .i64 x, .int .i64 y])
  have O2 := Lib.hid (o.below ((Below.refl w1.heap.size w1).alloc (Nat.le_refl _) (.cells #[.int .i64 x, .int .i64 y] 43)) (Nat.le_refl _))
  have B2 := Lib.hid ((hW.trans (b.mono (by omega))).alloc (by omega) (.cells #[.int .i64 x, .int .i64 y] 43))
  have hz2 : w1.heap.size < (w1.alloc (.cells #[.int .i64 x, .int .i64 y] 43)).heap.size := by simp
  clear o b hbx hW HD
  go_upto_region 2 with fail
  generalize w1.alloc (.cells #[.int .i64 x, .int .i64 y] 43) = V at X2 Y2 O2 B2 hz2 ⊢
  have y0 := Y2.out.cell 0
  have y1 := Y2.out.cell 1
  have q0 := X2.out.cell 0
  have q1 := X2.out.cell 1
  have f0 := X2.out.free 0
  have f1 := X2.out.free 1
  simp only [List.getElem?_toArray, List.getElem?_cons_zero, List.getElem?_cons_succ] at y0 y1 q0 q1
  have HO := Lib.hid (own_setP (own_setP O2.out (p := ⟨w.heap.size, 0, none⟩) (.inl (by show w.heap.size < W.heap.size; omega)) (.int .i64 x)) (p := ⟨w.heap.size, 1, none⟩) (.inl (by show w.heap.size < W.heap.size; omega)) (.int .i64 y))
  have HB := Lib.hid (((B2.out).setCell (p := ⟨w.heap.size, 0, none⟩) (Nat.le_refl _) (.int .i64 x)).setCell (p := ⟨w.heap.size, 1, none⟩) (Nat.le_refl _) (.int .i64 y))
  go_wp2_with fail
  go_region
  go_wp2_with fail
  refine bodyPost_ret (v := .tuple #[.slice pu l.length cu, Rule.mk (x, y)]) (by simp [results, Try.results36, go_sem, q0, q1]) rfl ⟨_, l, _, rfl, hl, ?_, HB.out.drew⟩
  exact (OwnP.drew HO.out).mono (by omega) (by simp; omega)
set_option maxHeartbeats 1600000 in
theorem DrawIsRedundant (v : Value) (xs : List Int) (B : Nat) (w : World) (hr : Reads w B v (u8s xs)) (hB : B ≤ w.heap.size) (hx : ∀ j, j < xs.length → 0 ≤ xs.getD j 0 ∧ xs.getD j 0 ≤ 255) (hn : xs.length ≤ 1048576) :
    Calls Try.prog 48 #[v] w fun e w' => ∃ (u : Value) (l : List PInt) (k : Int), e = .returned (.tuple #[u, .int .i64 k]) ∧ l.length ≤ 5 ∧ OwnP 43 w' w.heap.size w'.heap.size u l ∧ Below w.heap.size w w' := by
  have HN := Lib.hid (newCur v xs B w hr hB hx hn)
  obtain ⟨_, aa, ca, rfl, hca⟩ := hr
  have e0 : (u8s xs).length = xs.length := by simp [u8s]
  rw [e0] at HN ⊢
  clear hca hx e0
  go_enter Try.func48, Try.ntmps48
  go_wp2_with fail
  refine HN.out.mono ?_
  rintro e w1 ⟨p, rfl, hp, c1, hz, b1⟩
  have B1 := Lib.hid b1
  have hs1 := b1.size
  clear b1
  go_wp2_with fail
  refine (l9Bent B p 4 _ c1 (by omega)).mono ?_
  rintro e w2 ⟨u, l, rfl, hl, R⟩
  have HR := Lib.hid R
  clear R
  go_wp2_with fail
  refine (l1Below B p 6 _ HR.out.cur (by omega) (by omega)).mono ?_
  rintro e w3 ⟨x, rfl, hx6, c3, a3⟩
  have HR3 := Lib.hid (HR.out.turn c3 a3)
  clear c3 a3
  go_wp2_with fail
  go_ret2
  exact ⟨_, l, _, rfl, hl, HR3.out.ownP.mono (by omega) (Nat.le_refl _), B1.out.trans (HR3.out.below hp hs1)⟩
set_option maxHeartbeats 1600000 in
theorem DrawAreEquivalent (v : Value) (xs : List Int) (B : Nat) (w : World) (hr : Reads w B v (u8s xs)) (hB : B ≤ w.heap.size) (hx : ∀ j, j < xs.length → 0 ≤ xs.getD j 0 ∧ xs.getD j 0 ≤ 255) (hn : xs.length ≤ 1048576) :
    Calls Try.prog 47 #[v] w fun e w' => ∃ (u : Value) (l : List PInt) (u2 : Value) (l2 : List PInt), e = .returned (.tuple #[u, u2]) ∧ l.length ≤ 5 ∧ l2.length ≤ 5 ∧ OwnP 43 w' w.heap.size w'.heap.size u l ∧ OwnP 43 w' w.heap.size w'.heap.size u2 l2 ∧ Below w.heap.size w w' := by
  have HN := Lib.hid (newCur v xs B w hr hB hx hn)
  obtain ⟨_, aa, ca, rfl, hca⟩ := hr
  have e0 : (u8s xs).length = xs.length := by simp [u8s]
  rw [e0] at HN ⊢
  clear hca hx e0
  go_enter Try.func47, Try.ntmps47
  go_wp2_with fail
  refine HN.out.mono ?_
  rintro e w1 ⟨p, rfl, hp, c1, hz, b1⟩
  have B1 := Lib.hid b1
  have hs1 := b1.size
  clear b1
  go_wp2_with fail
  refine (l9Bent B p 4 _ c1 (by omega)).mono ?_
  rintro e w2 ⟨u, l, rfl, hl, R⟩
  obtain ⟨av, cv, hov⟩ := rowP_form R.own
  subst hov
  have HR := Lib.hid R
  clear R
  go_wp2_with fail
  refine (l1Once B p 2 _ HR.out.cur (by omega) (by omega)).mono ?_
  rintro e w3 ⟨b, rfl, c3, a3⟩
  have HR3 := Lib.hid (HR.out.turn c3 a3)
  have hs3 := HR3.out.size
  clear c3 a3
  cases b with
  | true =>
    have HO3 := Lib.hid HR3.out.ownP
    go_wp2_with fail
    refine (spec_minimal av cv l w3.heap.size w3 HO3.out.reads (Nat.le_refl _) (by omega)).mono ?_
    rintro e w4 ⟨u2, rfl, o4, b4⟩
    obtain ⟨a4, c4, rfl⟩ := o4.form
    have hml := minimal_len l
    have O1 := Lib.hid ((HO3.out.below b4 (Nat.le_refl _)).mono (lo' := w.heap.size) (by omega) b4.size)
    have O2 := Lib.hid (o4.mono (lo' := w.heap.size) (by omega) (Nat.le_refl _))
    have BB := Lib.hid ((B1.out.trans (HR3.out.below hp hs1)).trans (b4.mono (by omega)))
    clear o4 b4
    go_wp2_with fail
    go_ret2
    exact ⟨_, l, _, minimal l, rfl, hl, by omega, O1.out, O2.out, BB.out⟩
  | false =>
    go_wp2_with fail
    refine (l9Bent B p 4 _ HR3.out.cur (by omega)).mono ?_
    rintro e w4 ⟨u2, l2, rfl, hl2, R2⟩
    obtain ⟨a4, c4, hov⟩ := rowP_form R2.own
    subst hov
    have HR4 := Lib.hid (HR3.out.turn R2.cur R2.ap)
    have hs4 := R2.size
    have O1 := Lib.hid (HR4.out.ownP.mono (lo' := w.heap.size) (by omega) (Nat.le_refl _))
    have O2 := Lib.hid (R2.ownP.mono (lo' := w.heap.size) (by omega) (Nat.le_refl _))
    have BB := Lib.hid (B1.out.trans (HR4.out.below hp hs1))
    clear R2
    go_wp2_with fail
    go_ret2
    exact ⟨_, l, _, l2, rfl, hl, hl2, O1.out, O2.out, BB.out⟩
end Go.Proofs.Ytgkoggajdhibdaa.Draw

namespace Go.Proofs.Ytgkoggajdhibdaa.Draw
open Go Go.RowKit Mem Sets Ctx Tab Rule Stem Infer
set_option maxRecDepth 100000

theorem steps_len (l : List PInt) (t : Nat) : ∀ f s, (Infer.steps l t f s).length ≤ f
  | 0, _ => Nat.le_refl _
  | f + 1, s => by
    unfold Infer.steps
    split
    · exact Nat.zero_le _
    · exact Nat.succ_le_succ (steps_len l t f _)
theorem proof_len (l : List PInt) (r : PInt) : (Infer.proofOf l r).length ≤ 256 := by
  unfold Infer.proofOf
  split
  · exact steps_len _ _ _ _
  · exact Nat.zero_le _
/-- A list of steps that a draw is making: the row, the cursor, what has turned. -/
structure Sw (w0 w : World) (B p : Nat) (v : Value) (l : List PInt) : Prop where
  own : w.ownsRow w0.heap.size 104 2 v l.length (prs l)
  cur : Cur w B p
  ap : Apart p (p + 1) w0 w
  hp : p < w0.heap.size
theorem Sw.turn {w0 w w2 : World} {B p : Nat} {v : Value} {l : List PInt} (h : Sw w0 w B p v l) (c : Cur w2 B p) (a : Apart p (p + 1) w w2) : Sw w0 w2 B p v l :=
  ⟨rowP_same h.own fun k hk => a.block k (h.own.lt k hk).2 (by have := (h.own.lt k hk).1; have := h.hp; omega), c, h.ap.trans a, h.hp⟩
theorem Sw.alloc {w0 w : World} {B p : Nat} {v : Value} {l : List PInt} (h : Sw w0 w B p v l) (o : Obj) : Sw w0 (w.alloc o) B p v l := h.turn (h.cur.alloc o) (apartAlloc p w o)
theorem Sw.size {w0 w : World} {B p : Nat} {v : Value} {l : List PInt} (h : Sw w0 w B p v l) : w0.heap.size ≤ w.heap.size := h.ap.size
theorem Sw.grown {w0 w w2 : World} {B p g cap n : Nat} {v : Value} {l : List PInt} {x : PInt} (h : Sw w0 w B p v l) (hg : w.grownBy w2 v.ownBlock) (hn : n = l.length + 1)
    (ho : w2.ownsRow w0.heap.size 104 2 (.slice (some ⟨g, 0, none⟩) n cap) n (prs l ++ prs [x])) : Sw w0 w2 B p (.slice (some ⟨g, 0, none⟩) n cap) (l ++ [x]) := by
  have hl := h.cur.le
  have hp := h.hp
  refine ⟨?_, cur_grown h.cur hg (fun q hq => by have := (h.own.lt q hq).1; omega) (fun q hq => by have := (h.own.lt q hq).1; omega), Apart.thenGrown2 h.ap hg (fun q hq => (h.own.lt q hq).1), h.hp⟩
  rw [prs_app, List.length_append, List.length_cons, List.length_nil, Nat.zero_add, ← hn]
  exact ho
theorem Sw.ownP {w0 w : World} {B p : Nat} {v : Value} {l : List PInt} (h : Sw w0 w B p v l) : OwnP 104 w w0.heap.size w.heap.size v l := OwnP.made h.own
theorem Sw.below {w0 w : World} {B p b : Nat} {v : Value} {l : List PInt} (h : Sw w0 w B p v l) (hb : b ≤ p) (hs : b ≤ w0.heap.size) : Below b w0 w := h.ap.below hb hs
theorem Sw.drew {w0 w : World} {B p : Nat} {v : Value} {l : List PInt} (h : Sw w0 w B p v l) : Sw w0 w.drew B p v l := ⟨h.own, h.cur.below (Below.refl w.heap.size w).drew h.cur.lt, h.ap.drew, h.hp⟩
theorem apart_cell' {lo hi : Nat} {a b : World} (h : Apart lo hi a b) {q : Addr} (hq : q.block < a.heap.size) (ho : q.block < lo ∨ hi ≤ q.block) : b.cell? q = a.cell? q := World.cell?_of_block (h.block q.block hq ho)
theorem apart_frozen {lo hi : Nat} {a b : World} (h : Apart lo hi a b) {q : Addr} (hq : q.block < a.heap.size) (ho : q.block < lo ∨ hi ≤ q.block) : b.frozen? q = a.frozen? q := World.frozen?_of_block (h.block q.block hq ho)
theorem set_snd : ∀ (l : List PInt) (k : Nat) (z : Int), k < l.length → (prs l).set (k * 2 + 1) (.int .i64 z) = prs (l.set k ((l.getD k (0, 0)).1, z))
  | [], k, _, h => by simp at h
  | x :: l, 0, z, _ => rfl
  | x :: l, k + 1, z, h => by
    have ih := set_snd l k z (by simpa using h)
    have e : prs (x :: l) = .int .i64 x.1 :: .int .i64 x.2 :: prs l := rfl
    rw [e, show (k + 1) * 2 + 1 = k * 2 + 1 + 1 + 1 by omega, List.set_cons_succ, List.set_cons_succ, ih, List.set_cons_succ]
    rfl
theorem Sw.store {V w : World} {B p gx m c k : Nat} {z : Int} {l : List PInt} (h : Sw V w B p (.slice (some ⟨gx, 0, none⟩) m c) l) (hm : l.length = m) (hk : k < m) : Sw V (w.setCell ⟨gx, k * 2 + 1, none⟩ (.int .i64 z)) B p (.slice (some ⟨gx, 0, none⟩) m c) (l.set k ((l.getD k (0, 0)).1, z)) := by
  have hg := h.own.lt gx rfl
  have hpp := h.hp
  have ho := h.own
  rw [hm] at ho
  have st := ho.stored (k * 2 + 1) (.int .i64 z)
  refine ⟨?_, curSet h.cur (q := ⟨gx, k * 2 + 1, none⟩) (by show p < gx; omega) _, apartSet h.ap (q := ⟨gx, k * 2 + 1, none⟩) hg.1 _, h.hp⟩
  rw [List.length_set, hm, ← set_snd l k z (by omega)]
  exact st.1
set_option maxHeartbeats 12800000 in
theorem DrawCheckProof (v : Value) (xs : List Int) (B : Nat) (w : World) (hr : Reads w B v (u8s xs)) (hB : B ≤ w.heap.size) (hx : ∀ j, j < xs.length → 0 ≤ xs.getD j 0 ∧ xs.getD j 0 ≤ 255) (hn : xs.length ≤ 1048576) :
    Calls Try.prog 39 #[v] w fun e w' => ∃ (u : Value) (l : List PInt) (r : PInt) (us : Value) (ps : List PInt), e = .returned (.tuple #[u, Rule.mk r, us]) ∧ l.length ≤ 5 ∧ ps.length ≤ 257 ∧ OwnP 43 w' w.heap.size w'.heap.size u l ∧ OwnP 104 w' w.heap.size w'.heap.size us ps ∧ Below w.heap.size w w' := by
  obtain ⟨i0, hinf, hz0, hz1, hz2⟩ := info_parts PStep.infoT
  have HD := Lib.hid (DrawFollows v xs B (w.alloc (.cells #[.int .i64 0, .int .i64 0] 43)) (hr.below ((Below.refl w.heap.size w).alloc (Nat.le_refl _) _) hB) (by simp; omega) hx hn)
  have HN := Lib.hid fun (V : World) (hb : Below w.heap.size w V) => newCur v xs B V (hr.below hb hB) (Nat.le_trans hB hb.size) hx hn
  have hbx := BoxAt.new w 43 #[.int .i64 0, .int .i64 0]
  have hW := (Below.refl w.heap.size w).alloc (Nat.le_refl _) (.cells #[.int .i64 0, .int .i64 0] 43)
  have hzz : w.heap.size < (w.alloc (.cells #[.int .i64 0, .int .i64 0] 43)).heap.size := by simp
  obtain ⟨_, aa, ca, rfl, hca⟩ := hr
  have e0 : (u8s xs).length = xs.length := by simp [u8s]
  rw [e0] at HD HN ⊢
  clear hca hx e0
  go_enter Try.func39, Try.ntmps39
  go_upto_region 1 with fail
  generalize w.alloc (.cells #[.int .i64 0, .int .i64 0] 43) = W at HD hbx hW hzz ⊢
  go_wp2_with fail
  refine HD.out.mono ?_
  rintro e w1 ⟨u, l, ⟨x, y⟩, rfl, hl, o, b⟩
  obtain ⟨pu, cu, rfl⟩ := o.form
  have hs1 := b.size
  have X1 := Lib.hid ((hbx.below b hzz).alloc (.cells #[.int .i64 x, .int .i64 y] 43))
  have Y1 := Lib.hid (BoxAt.new w1 43 #[.int .i64 x, .int .i64 y])
  have O1 := Lib.hid (o.below ((Below.refl w1.heap.size w1).alloc (Nat.le_refl _) (.cells #[.int .i64 x, .int .i64 y] 43)) (Nat.le_refl _))
  have B1 := Lib.hid ((hW.trans (b.mono (by omega))).alloc (by omega) (.cells #[.int .i64 x, .int .i64 y] 43))
  have hs2 : w1.heap.size < (w1.alloc (.cells #[.int .i64 x, .int .i64 y] 43)).heap.size := by simp
  clear o b hbx hW HD
  go_upto_region 2 with fail
  generalize w1.alloc (.cells #[.int .i64 x, .int .i64 y] 43) = V at X1 Y1 O1 B1 hs2 ⊢
  have HNV := Lib.hid (HN.out V B1.out)
  clear HN
  go_wp2_with fail
  refine HNV.out.mono ?_
  rintro e w2 ⟨p, rfl, hp, c2, hz2w, b2⟩
  have hsV := b2.size
  have X2 := Lib.hid (X1.out.below b2 (by omega))
  have Y2 := Lib.hid (Y1.out.below b2 (by omega))
  have O2 := Lib.hid (O1.out.below b2 (by omega))
  have BW := Lib.hid (B1.out.trans (b2.mono (by omega)))
  have C2 := Lib.hid c2
  clear b2 c2 X1 Y1 O1 B1 HNV
  have HP := Lib.hid (spec_proof (.slice pu l.length cu) l (x, y) w1.heap.size w2 O2.out.reads (by omega))
  have hpl := proof_len l (x, y)
  have y20 := Y2.out.cell 0
  have y21 := Y2.out.cell 1
  simp only [List.getElem?_toArray, List.getElem?_cons_zero, List.getElem?_cons_succ] at y20 y21
  go_wp2_with fail
  refine HP.out.mono ?_
  rintro e w3 ⟨us, rfl, o3, b3⟩
  have HS3 : Hid (Sw w2 w3 B p us (proofOf l (x, y))) := Lib.hid ⟨o3.1, C2.out.below b3 C2.out.lt, Apart.of_below b3 (Nat.le_refl _), C2.out.lt⟩
  obtain ⟨as1, cs1, rfl⟩ := o3.form
  obtain ⟨m, hm⟩ : ∃ m, (proofOf l (x, y)).length = m := ⟨_, rfl⟩
  rw [hm] at HS3 hpl ⊢
  generalize proofOf l (x, y) = ps at HS3 hm
  have HPM := Lib.hid hm
  clear o3 b3 HP hm y20 y21
  by_cases hm0 : m = 0
  · subst hm0
    go_wp2_with fail
    refine (l1Once B p 10 _ HS3.out.cur (by omega) (by omega)).mono ?_
    rintro e w8 ⟨b10, rfl, c8, a8⟩
    have HS8 := Lib.hid (HS3.out.turn c8 a8)
    clear c8 a8
    cases b10 with
    | false =>
      have hsz : w2.heap.size ≤ w8.heap.size := HS8.out.size
      have X9 := Lib.hid (boxA X2.out HS8.out.ap (.inl (by omega)))
      have Y9 := Lib.hid (boxA Y2.out HS8.out.ap (.inl (by omega)))
      have y0 := Y9.out.cell 0
      have y1 := Y9.out.cell 1
      have q0 := X9.out.cell 0
      have q1 := X9.out.cell 1
      have f0 := X9.out.free 0
      have f1 := X9.out.free 1
      simp only [List.getElem?_toArray, List.getElem?_cons_zero, List.getElem?_cons_succ] at y0 y1 q0 q1
      have HO := Lib.hid (OwnP.drew (own_setP (own_setP (O2.out.apart HS8.out.ap (.inl (by omega))) (p := ⟨w.heap.size, 0, none⟩) (.inl (by show w.heap.size < W.heap.size; omega)) (.int .i64 x)) (p := ⟨w.heap.size, 1, none⟩) (.inl (by show w.heap.size < W.heap.size; omega)) (.int .i64 y)))
      have HT := Lib.hid (OwnP.drew (own_setP (own_setP HS8.out.ownP (p := ⟨w.heap.size, 0, none⟩) (.inl (by show w.heap.size < w2.heap.size; omega)) (.int .i64 x)) (p := ⟨w.heap.size, 1, none⟩) (.inl (by show w.heap.size < w2.heap.size; omega)) (.int .i64 y)))
      have HB := Lib.hid (((BW.out.trans (HS8.out.below (b := w.heap.size) (by omega) (by omega))).setCell (p := ⟨w.heap.size, 0, none⟩) (Nat.le_refl _) (.int .i64 x)).setCell (p := ⟨w.heap.size, 1, none⟩) (Nat.le_refl _) (.int .i64 y))
      go_wp2_with fail
      go_region
      go_wp2_with fail
      refine bodyPost_ret (v := .tuple #[.slice pu l.length cu, Rule.mk (x, y), .slice as1 0 cs1]) (by simp [results, Try.results39, go_sem, q0, q1]) rfl ⟨_, l, _, _, _, rfl, hl, ?_, HO.out.mono (by omega) (by simp; omega), HT.out.mono (by omega) (by simp), HB.out.drew⟩
      have := HPM.out; omega
    | true =>
      go_wp2_with fail
      refine (l1Below B p 6 _ HS8.out.cur (by omega) (by omega)).mono ?_
      rintro e w9 ⟨i6, rfl, hi6, c9, a9⟩
      have HS9 := Lib.hid (HS8.out.turn c9 a9)
      clear c9 a9 HS8
      go_wp2_with fail
      refine (l1Below B p 32 _ HS9.out.cur (by omega) (by omega)).mono ?_
      rintro e w10 ⟨j32, rfl, hj32, c10, a10⟩
      have HS10 := Lib.hid (HS9.out.turn c10 a10)
      clear c10 a10 HS9
      have hs10 := HS10.out.size
      have hpl : Hid (w10.ownsRow w2.heap.size 104 2 (.slice as1 0 cs1) 0 _) := Lib.hid (by have := HS10.out.own; rwa [HPM.out] at this)
      go_wp2_with (at_builtin; refine wpList_append_lies _ rfl _ _ _ rfl w2.heap.size 104 i0 (.agg #[.int .i64 0, .int .i64 0]) 2 16 Try.underlying46 hinf hz0 hz1 hz2 rfl (by decide) _ 0 _ rfl (hpl.out.alloc _) ⟨w10.heap.size, 0, none⟩ 1 1 (prs [((i6 : Int) - 1, (j32 : Int))]) rfl rfl (newsR2 _ _ _ _) (oneR2 _) Nat.one_pos (by unfold maxLen; omega) (by omega) (by simp; omega) _ rfl ?_)
      intro g cap w11 hown11 hgrow hat hlt11
      have HS11 := Lib.hid ((HS10.out.alloc (.cells #[.int .i64 ((i6 : Int) - 1), .int .i64 (j32 : Int)] 104)).grown hgrow (by have := HPM.out; omega : 0 + 1 = _ + 1) hown11)
      clear hown11 hgrow hat hlt11 HS10 hpl
      have hsz : w2.heap.size ≤ w11.heap.size := HS11.out.size
      have X9 := Lib.hid (boxA X2.out HS11.out.ap (.inl (by omega)))
      have Y9 := Lib.hid (boxA Y2.out HS11.out.ap (.inl (by omega)))
      have y0 := Y9.out.cell 0
      have y1 := Y9.out.cell 1
      have q0 := X9.out.cell 0
      have q1 := X9.out.cell 1
      have f0 := X9.out.free 0
      have f1 := X9.out.free 1
      simp only [List.getElem?_toArray, List.getElem?_cons_zero, List.getElem?_cons_succ] at y0 y1 q0 q1
      have HO := Lib.hid (OwnP.drew (own_setP (own_setP (O2.out.apart HS11.out.ap (.inl (by omega))) (p := ⟨w.heap.size, 0, none⟩) (.inl (by show w.heap.size < W.heap.size; omega)) (.int .i64 x)) (p := ⟨w.heap.size, 1, none⟩) (.inl (by show w.heap.size < W.heap.size; omega)) (.int .i64 y)))
      have HT := Lib.hid (OwnP.drew (own_setP (own_setP HS11.out.ownP (p := ⟨w.heap.size, 0, none⟩) (.inl (by show w.heap.size < w2.heap.size; omega)) (.int .i64 x)) (p := ⟨w.heap.size, 1, none⟩) (.inl (by show w.heap.size < w2.heap.size; omega)) (.int .i64 y)))
      have HB := Lib.hid (((BW.out.trans (HS11.out.below (b := w.heap.size) (by omega) (by omega))).setCell (p := ⟨w.heap.size, 0, none⟩) (Nat.le_refl _) (.int .i64 x)).setCell (p := ⟨w.heap.size, 1, none⟩) (Nat.le_refl _) (.int .i64 y))
      go_wp2_with fail
      go_region
      go_wp2_with fail
      refine bodyPost_ret (v := .tuple #[.slice pu l.length cu, Rule.mk (x, y), .slice (some ⟨g, 0, none⟩) (0 + 1) cap]) (by simp [results, Try.results39, go_sem, q0, q1]) rfl ⟨_, l, _, _, _, rfl, hl, ?_, HO.out.mono (by omega) (by simp; omega), HT.out.mono (by omega) (by simp), HB.out.drew⟩
      have := HPM.out; rw [List.length_append]; simp; omega
  · have hmp : decide ((0 : Int) < (m : Int)) = true := by simp; omega
    have hmp2 : decide (0 < m) = true := by simp; omega
    go_wp2_with fail
    refine (l1Once B p 3 _ HS3.out.cur (by omega) (by omega)).mono ?_
    rintro e w4 ⟨b3, rfl, c4, a4⟩
    have HS4 := Lib.hid (HS3.out.turn c4 a4)
    clear c4 a4 HS3
    cases b3 with
    | false =>
      go_wp2_with fail
      refine (l1Once B p 10 _ HS4.out.cur (by omega) (by omega)).mono ?_
      rintro e w8 ⟨b10, rfl, c8, a8⟩
      have HS8 := Lib.hid (HS4.out.turn c8 a8)
      clear c8 a8
      cases b10 with
      | false =>
        have hsz : w2.heap.size ≤ w8.heap.size := HS8.out.size
        have X9 := Lib.hid (boxA X2.out HS8.out.ap (.inl (by omega)))
        have Y9 := Lib.hid (boxA Y2.out HS8.out.ap (.inl (by omega)))
        have y0 := Y9.out.cell 0
        have y1 := Y9.out.cell 1
        have q0 := X9.out.cell 0
        have q1 := X9.out.cell 1
        have f0 := X9.out.free 0
        have f1 := X9.out.free 1
        simp only [List.getElem?_toArray, List.getElem?_cons_zero, List.getElem?_cons_succ] at y0 y1 q0 q1
        have HO := Lib.hid (OwnP.drew (own_setP (own_setP (O2.out.apart HS8.out.ap (.inl (by omega))) (p := ⟨w.heap.size, 0, none⟩) (.inl (by show w.heap.size < W.heap.size; omega)) (.int .i64 x)) (p := ⟨w.heap.size, 1, none⟩) (.inl (by show w.heap.size < W.heap.size; omega)) (.int .i64 y)))
        have HT := Lib.hid (OwnP.drew (own_setP (own_setP HS8.out.ownP (p := ⟨w.heap.size, 0, none⟩) (.inl (by show w.heap.size < w2.heap.size; omega)) (.int .i64 x)) (p := ⟨w.heap.size, 1, none⟩) (.inl (by show w.heap.size < w2.heap.size; omega)) (.int .i64 y)))
        have HB := Lib.hid (((BW.out.trans (HS8.out.below (b := w.heap.size) (by omega) (by omega))).setCell (p := ⟨w.heap.size, 0, none⟩) (Nat.le_refl _) (.int .i64 x)).setCell (p := ⟨w.heap.size, 1, none⟩) (Nat.le_refl _) (.int .i64 y))
        go_wp2_with fail
        go_region
        go_wp2_with fail
        refine bodyPost_ret (v := .tuple #[.slice pu l.length cu, Rule.mk (x, y), .slice as1 m cs1]) (by simp [results, Try.results39, go_sem, q0, q1]) rfl ⟨_, l, _, _, _, rfl, hl, ?_, HO.out.mono (by omega) (by simp; omega), HT.out.mono (by omega) (by simp), HB.out.drew⟩
        have := HPM.out; omega
      | true =>
        go_wp2_with fail
        refine (l1Below B p 6 _ HS8.out.cur (by omega) (by omega)).mono ?_
        rintro e w9 ⟨i6, rfl, hi6, c9, a9⟩
        have HS9 := Lib.hid (HS8.out.turn c9 a9)
        clear c9 a9 HS8
        go_wp2_with fail
        refine (l1Below B p 32 _ HS9.out.cur (by omega) (by omega)).mono ?_
        rintro e w10 ⟨j32, rfl, hj32, c10, a10⟩
        have HS10 := Lib.hid (HS9.out.turn c10 a10)
        clear c10 a10 HS9
        have hs10 := HS10.out.size
        have hpl : Hid (w10.ownsRow w2.heap.size 104 2 (.slice as1 m cs1) m _) := Lib.hid (by have := HS10.out.own; rwa [HPM.out] at this)
        go_wp2_with (at_builtin; refine wpList_append_lies _ rfl _ _ _ rfl w2.heap.size 104 i0 (.agg #[.int .i64 0, .int .i64 0]) 2 16 Try.underlying46 hinf hz0 hz1 hz2 rfl (by decide) _ m _ rfl (hpl.out.alloc _) ⟨w10.heap.size, 0, none⟩ 1 1 (prs [((i6 : Int) - 1, (j32 : Int))]) rfl rfl (newsR2 _ _ _ _) (oneR2 _) Nat.one_pos (by unfold maxLen; omega) (by omega) (by simp; omega) _ rfl ?_)
        intro g cap w11 hown11 hgrow hat hlt11
        have HS11 := Lib.hid ((HS10.out.alloc (.cells #[.int .i64 ((i6 : Int) - 1), .int .i64 (j32 : Int)] 104)).grown hgrow (by have := HPM.out; omega : m + 1 = _ + 1) hown11)
        clear hown11 hgrow hat hlt11 HS10 hpl
        have hsz : w2.heap.size ≤ w11.heap.size := HS11.out.size
        have X9 := Lib.hid (boxA X2.out HS11.out.ap (.inl (by omega)))
        have Y9 := Lib.hid (boxA Y2.out HS11.out.ap (.inl (by omega)))
        have y0 := Y9.out.cell 0
        have y1 := Y9.out.cell 1
        have q0 := X9.out.cell 0
        have q1 := X9.out.cell 1
        have f0 := X9.out.free 0
        have f1 := X9.out.free 1
        simp only [List.getElem?_toArray, List.getElem?_cons_zero, List.getElem?_cons_succ] at y0 y1 q0 q1
        have HO := Lib.hid (OwnP.drew (own_setP (own_setP (O2.out.apart HS11.out.ap (.inl (by omega))) (p := ⟨w.heap.size, 0, none⟩) (.inl (by show w.heap.size < W.heap.size; omega)) (.int .i64 x)) (p := ⟨w.heap.size, 1, none⟩) (.inl (by show w.heap.size < W.heap.size; omega)) (.int .i64 y)))
        have HT := Lib.hid (OwnP.drew (own_setP (own_setP HS11.out.ownP (p := ⟨w.heap.size, 0, none⟩) (.inl (by show w.heap.size < w2.heap.size; omega)) (.int .i64 x)) (p := ⟨w.heap.size, 1, none⟩) (.inl (by show w.heap.size < w2.heap.size; omega)) (.int .i64 y)))
        have HB := Lib.hid (((BW.out.trans (HS11.out.below (b := w.heap.size) (by omega) (by omega))).setCell (p := ⟨w.heap.size, 0, none⟩) (Nat.le_refl _) (.int .i64 x)).setCell (p := ⟨w.heap.size, 1, none⟩) (Nat.le_refl _) (.int .i64 y))
        go_wp2_with fail
        go_region
        go_wp2_with fail
        refine bodyPost_ret (v := .tuple #[.slice pu l.length cu, Rule.mk (x, y), .slice (some ⟨g, 0, none⟩) (m + 1) cap]) (by simp [results, Try.results39, go_sem, q0, q1]) rfl ⟨_, l, _, _, _, rfl, hl, ?_, HO.out.mono (by omega) (by simp; omega), HT.out.mono (by omega) (by simp), HB.out.drew⟩
        have := HPM.out; rw [List.length_append]; simp; omega
    | true =>
      go_wp2_with fail
      refine (l1Below B p m _ HS4.out.cur (by omega) (by omega)).mono ?_
      rintro e w5 ⟨k, rfl, hk, c5, a5⟩
      have HS5 := Lib.hid (HS4.out.turn c5 a5)
      clear c5 a5 HS4
      obtain ⟨gs, rfl⟩ : ∃ gs, as1 = some ⟨gs, 0, none⟩ := by
        rcases HS5.out.own.2 with ⟨hv, _⟩ | ⟨g, cap, cur, hv, _⟩
        · injection hv with e1 e2 e3; omega
        · injection hv with e1 e2 e3; exact ⟨g, e1⟩
      have ho5 := HS5.out.own
      rw [HPM.out] at ho5
      have hg5 := ho5.lt gs rfl
      have hpg : p < gs := by have := HS5.out.hp; omega
      have d0 : w5.cell? ⟨gs, k * 2 + 1, none⟩ = some (.int .i64 (ps.getD k (0, 0)).2) := (ho5.cellAt (k * 2 + 1) (by omega)).trans (prs_get ps k (by have := HPM.out; omega)).2
      have d1 : (w5.alloc (.cells #[.int .i64 1, .int .i64 2, .int .i64 16] 3)).drew.cell? ⟨gs, k * 2 + 1, none⟩ = some (.int .i64 (ps.getD k (0, 0)).2) := (World.cell?_alloc_lt w5 _ _ (by show gs < w5.heap.size; omega)).trans d0
      have HD0 := Lib.hid d0
      have HF0 := Lib.hid (show w5.frozen? ⟨gs, k * 2 + 1, none⟩ = false from ho5.frozenAt _)
      have HPK := Lib.hid (show Calls Try.prog 106 #[.pointer (some ⟨p, 0, none⟩), .slice (some ⟨w5.heap.size, 0, none⟩) 3 3] (w5.alloc (.cells #[.int .i64 1, .int .i64 2, .int .i64 16] 3)).drew fun e w' => ∃ j : Nat, e = .returned (.int .i64 (([1, 2, 16] : List Int).getD j 0)) ∧ j < 3 ∧ Cur w' B p ∧ Apart p (p + 1) w5.drew w' from pickLitAt B p [1, 2, 16] 3 rfl (by omega) (by omega) _ rfl w5.drew w5.heap.size rfl HS5.out.drew.cur)
      clear ho5
      go_upto_region 6 with fail
      go_cut [] (fun wx => ∃ z : Int, Hid (Sw w2 wx B p (.slice (some ⟨gs, 0, none⟩) m cs1) (ps.set k ((ps.getD k (0, 0)).1, z))))
      case first =>
        go_region_with (first | (go_at_call 106; (with_reducible refine HPK.out.mono ?_); rintro e w6 ⟨j, rfl, hj, c6, a6⟩; have d2 : w6.cell? ⟨gs, k * 2 + 1, none⟩ = some (.int .i64 (ps.getD k (0, 0)).2) := (apart_cell' a6 (q := ⟨gs, k * 2 + 1, none⟩) (by show gs < w5.heap.size; omega) (.inr (by show p + 1 ≤ gs; omega))).trans HD0.out; have f2 : w6.frozen? ⟨gs, k * 2 + 1, none⟩ = false := (apart_frozen a6 (q := ⟨gs, k * 2 + 1, none⟩) (by show gs < w5.heap.size; omega) (.inr (by show p + 1 ≤ gs; omega))).trans HF0.out) | fail)
        all_goals go_wp2
        all_goals go_meet
        all_goals exact ⟨_, Lib.hid ((HS5.out.drew.turn c6 a6).store HPM.out hk)⟩
      case rest =>
      obtain ⟨z, HS6⟩ := hcut
      have HPM := Lib.hid (show (ps.set k ((ps.getD k (0, 0)).1, z)).length = m by rw [List.length_set]; exact HPM.out)
      generalize ps.set k ((ps.getD k (0, 0)).1, z) = ps2 at HS6 HPM
      clear HS5 d0 d1 HD0 HF0 HPK
      go_wp2_with fail
      refine (l1Once B p 10 _ HS6.out.cur (by omega) (by omega)).mono ?_
      rintro e w8 ⟨b10, rfl, c8, a8⟩
      have HS8 := Lib.hid (HS6.out.turn c8 a8)
      clear c8 a8
      cases b10 with
      | false =>
        have hsz : w2.heap.size ≤ w8.heap.size := HS8.out.size
        have X9 := Lib.hid (boxA X2.out HS8.out.ap (.inl (by omega)))
        have Y9 := Lib.hid (boxA Y2.out HS8.out.ap (.inl (by omega)))
        have y0 := Y9.out.cell 0
        have y1 := Y9.out.cell 1
        have q0 := X9.out.cell 0
        have q1 := X9.out.cell 1
        have f0 := X9.out.free 0
        have f1 := X9.out.free 1
        simp only [List.getElem?_toArray, List.getElem?_cons_zero, List.getElem?_cons_succ] at y0 y1 q0 q1
        have HO := Lib.hid (OwnP.drew (own_setP (own_setP (O2.out.apart HS8.out.ap (.inl (by omega))) (p := ⟨w.heap.size, 0, none⟩) (.inl (by show w.heap.size < W.heap.size; omega)) (.int .i64 x)) (p := ⟨w.heap.size, 1, none⟩) (.inl (by show w.heap.size < W.heap.size; omega)) (.int .i64 y)))
        have HT := Lib.hid (OwnP.drew (own_setP (own_setP HS8.out.ownP (p := ⟨w.heap.size, 0, none⟩) (.inl (by show w.heap.size < w2.heap.size; omega)) (.int .i64 x)) (p := ⟨w.heap.size, 1, none⟩) (.inl (by show w.heap.size < w2.heap.size; omega)) (.int .i64 y)))
        have HB := Lib.hid (((BW.out.trans (HS8.out.below (b := w.heap.size) (by omega) (by omega))).setCell (p := ⟨w.heap.size, 0, none⟩) (Nat.le_refl _) (.int .i64 x)).setCell (p := ⟨w.heap.size, 1, none⟩) (Nat.le_refl _) (.int .i64 y))
        go_wp2_with fail
        go_region
        go_wp2_with fail
        refine bodyPost_ret (v := .tuple #[.slice pu l.length cu, Rule.mk (x, y), .slice (some ⟨gs, 0, none⟩) m cs1]) (by simp [results, Try.results39, go_sem, q0, q1]) rfl ⟨_, l, _, _, _, rfl, hl, ?_, HO.out.mono (by omega) (by simp; omega), HT.out.mono (by omega) (by simp), HB.out.drew⟩
        have := HPM.out; omega
      | true =>
        go_wp2_with fail
        refine (l1Below B p 6 _ HS8.out.cur (by omega) (by omega)).mono ?_
        rintro e w9 ⟨i6, rfl, hi6, c9, a9⟩
        have HS9 := Lib.hid (HS8.out.turn c9 a9)
        clear c9 a9 HS8
        go_wp2_with fail
        refine (l1Below B p 32 _ HS9.out.cur (by omega) (by omega)).mono ?_
        rintro e w10 ⟨j32, rfl, hj32, c10, a10⟩
        have HS10 := Lib.hid (HS9.out.turn c10 a10)
        clear c10 a10 HS9
        have hs10 := HS10.out.size
        have hpl : Hid (w10.ownsRow w2.heap.size 104 2 (.slice (some ⟨gs, 0, none⟩) m cs1) m _) := Lib.hid (by have := HS10.out.own; rwa [HPM.out] at this)
        go_wp2_with (at_builtin; refine wpList_append_lies _ rfl _ _ _ rfl w2.heap.size 104 i0 (.agg #[.int .i64 0, .int .i64 0]) 2 16 Try.underlying46 hinf hz0 hz1 hz2 rfl (by decide) _ m _ rfl (hpl.out.alloc _) ⟨w10.heap.size, 0, none⟩ 1 1 (prs [((i6 : Int) - 1, (j32 : Int))]) rfl rfl (newsR2 _ _ _ _) (oneR2 _) Nat.one_pos (by unfold maxLen; omega) (by omega) (by simp; omega) _ rfl ?_)
        intro g cap w11 hown11 hgrow hat hlt11
        have HS11 := Lib.hid ((HS10.out.alloc (.cells #[.int .i64 ((i6 : Int) - 1), .int .i64 (j32 : Int)] 104)).grown hgrow (by have := HPM.out; omega : m + 1 = _ + 1) hown11)
        clear hown11 hgrow hat hlt11 HS10 hpl
        have hsz : w2.heap.size ≤ w11.heap.size := HS11.out.size
        have X9 := Lib.hid (boxA X2.out HS11.out.ap (.inl (by omega)))
        have Y9 := Lib.hid (boxA Y2.out HS11.out.ap (.inl (by omega)))
        have y0 := Y9.out.cell 0
        have y1 := Y9.out.cell 1
        have q0 := X9.out.cell 0
        have q1 := X9.out.cell 1
        have f0 := X9.out.free 0
        have f1 := X9.out.free 1
        simp only [List.getElem?_toArray, List.getElem?_cons_zero, List.getElem?_cons_succ] at y0 y1 q0 q1
        have HO := Lib.hid (OwnP.drew (own_setP (own_setP (O2.out.apart HS11.out.ap (.inl (by omega))) (p := ⟨w.heap.size, 0, none⟩) (.inl (by show w.heap.size < W.heap.size; omega)) (.int .i64 x)) (p := ⟨w.heap.size, 1, none⟩) (.inl (by show w.heap.size < W.heap.size; omega)) (.int .i64 y)))
        have HT := Lib.hid (OwnP.drew (own_setP (own_setP HS11.out.ownP (p := ⟨w.heap.size, 0, none⟩) (.inl (by show w.heap.size < w2.heap.size; omega)) (.int .i64 x)) (p := ⟨w.heap.size, 1, none⟩) (.inl (by show w.heap.size < w2.heap.size; omega)) (.int .i64 y)))
        have HB := Lib.hid (((BW.out.trans (HS11.out.below (b := w.heap.size) (by omega) (by omega))).setCell (p := ⟨w.heap.size, 0, none⟩) (Nat.le_refl _) (.int .i64 x)).setCell (p := ⟨w.heap.size, 1, none⟩) (Nat.le_refl _) (.int .i64 y))
        go_wp2_with fail
        go_region
        go_wp2_with fail
        refine bodyPost_ret (v := .tuple #[.slice pu l.length cu, Rule.mk (x, y), .slice (some ⟨g, 0, none⟩) (m + 1) cap]) (by simp [results, Try.results39, go_sem, q0, q1]) rfl ⟨_, l, _, _, _, rfl, hl, ?_, HO.out.mono (by omega) (by simp; omega), HT.out.mono (by omega) (by simp), HB.out.drew⟩
        have := HPM.out; rw [List.length_append]; simp; omega
end Go.Proofs.Ytgkoggajdhibdaa.Draw
