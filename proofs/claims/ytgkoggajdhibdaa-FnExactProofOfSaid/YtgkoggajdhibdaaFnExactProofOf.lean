/-
  For all arguments the law FnExactProofOf returns true: the function of the program returns what the function of the model returns, in memory of its own, and leaves its arguments as they are. No condition.
-/
import Derived.Test.YtgkoggajdhibdaaRows
import Derived.Test.YtgkoggajdhibdaaLaw
import Derived.Test.YtgkoggajdhibdaaDual
import Derived.Test.YtgkoggajdhibdaaInfU
import Derived.Test.YtgkoggajdhibdaaInfL
import Derived.Deep.RegionHeld3
import Derived.Lib.SmallJoins
import Derived.Deep.SlicePairs
import Derived.WalkKit
import Derived.ProofKit
import Derived.OpenShut
import Derived.Deep.DeepHandedRow
import Derived.LaidMore
import Derived.Stop.LaidErr
import Derived.ChangeMaps5
import Derived.Outline
import Derived.LoopTactic
import Derived.Lib.Hide
import Derived.Below
namespace Go.Proofs.Ytgkoggajdhibdaa.FnExactProofOf
open Go Go.ChangeShapes Go.WideShapes Go.ChangeAt Go.ChangeMaps Go.RowKit Mem Ctx

theorem asInts {xs : List Int} {w : World} {e : Ending} {w' : World} (h : ∃ u, e = .returned u ∧ Mem.Own 3 w' w.heap.size w'.heap.size u (ints xs) ∧ Below w.heap.size w w') :
    ∃ p c, e = .returned (.slice p xs.length c) ∧ Mem.Own 3 w' w.heap.size w'.heap.size (.slice p xs.length c) (ints xs) ∧ Below w.heap.size w w' := by
  obtain ⟨u, he, o, b⟩ := h
  obtain ⟨p, c, rfl⟩ := own_form o
  exact ⟨p, c, he, o, b⟩
theorem boxApart {w w' : World} {g lo hi : Nat} {t : TypeId} {cs : Array Value} (h : BoxAt w g t cs) (ha : Apart lo hi w w') (hg : g < lo ∨ hi ≤ g) : BoxAt w' g t cs := (ha.block g h.lt hg).trans h
theorem ownBoxed {e : TypeId} {w : World} {lo hi : Nat} {v : Value} {cs : List Value} (h : Mem.Own e w lo hi v cs) (hh : hi ≤ w.heap.size) (o : Obj) : Mem.Own e (w.alloc o) lo hi v cs := h.below (B := w.heap.size) ((Below.refl _ _).alloc (Nat.le_refl _) o) hh
theorem keep4 {w w' : World} {B : Nat} {p q r s : Addr} {x y z t : Value} (hb : Below B w w') (h : w.cell? p = some x ∧ w.cell? q = some y ∧ w.cell? r = some z ∧ w.cell? s = some t) (hp : p.block < B) (hq : q.block < B) (hr : r.block < B) (hs : s.block < B) :
    w'.cell? p = some x ∧ w'.cell? q = some y ∧ w'.cell? r = some z ∧ w'.cell? s = some t :=
  ⟨(hb.cell hp).trans h.1, (hb.cell hq).trans h.2.1, (hb.cell hr).trans h.2.2.1, (hb.cell hs).trans h.2.2.2⟩
theorem asCtx {x : Option (Int × List Int)} {n : Int} {xs : List Int} {ok : Bool} (hn : (x.getD (0, [])).1 = n) (hx : (x.getD (0, [])).2 = xs) (ho : x.isSome = ok) {w : World} {e : Ending} {w' : World} (h : CtxRes x w e w') :
    ∃ p c, e = .returned (.tuple #[ctx n (.slice p xs.length c), .bool ok]) ∧ Mem.Own 3 w' w.heap.size w'.heap.size (.slice p xs.length c) (ints xs) ∧ Below w.heap.size w w' := by
  subst hn hx ho
  obtain ⟨u, he, o, b⟩ := h
  obtain ⟨p, c, rfl⟩ := own_form o
  exact ⟨p, c, he, o, b⟩


theorem keep2 {w w' : World} {B : Nat} {p q : Addr} {x y : Value} (hb : Below B w w') (h : w.cell? p = some x ∧ w.cell? q = some y) (hp : p.block < B) (hq : q.block < B) : w'.cell? p = some x ∧ w'.cell? q = some y := ⟨(hb.cell hp).trans h.1, (hb.cell hq).trans h.2⟩
theorem boxedP {w : World} {B : Nat} {v : Value} {l : List PInt} (h : ReadsP w B v l) (hB : B ≤ w.heap.size) (o : Obj) : ReadsP (w.alloc o) B v l := h.below ((Below.refl _ _).alloc (Nat.le_refl _) o) hB
theorem ownBoxedP {e : TypeId} {w : World} {lo hi : Nat} {v : Value} {l : List PInt} (h : OwnP e w lo hi v l) (hh : hi ≤ w.heap.size) (o : Obj) : OwnP e (w.alloc o) lo hi v l := h.below (B := w.heap.size) ((Below.refl _ _).alloc (Nat.le_refl _) o) hh
theorem readsP_nil (w : World) (B : Nat) : ReadsP w B (.slice none 0 0) [] := ⟨Nat.zero_le _, none, 0, rfl, fun h => absurd rfl h⟩
/-- A slice of pairs that came in can be read. -/
theorem readsP_of {w : World} {a : Addr} {len cap : Nat} (hl : len ≤ cap) (hm : cap ≤ maxLen) (hx : ∀ i, i < cap → ∃ x y : Int, w.cell? (a.add (i * 2)) = some (.int .i64 x) ∧ w.cell? (a.add (i * 2 + 1)) = some (.int .i64 y)) :
    ∃ l : List PInt, ReadsP w w.heap.size (.slice (some a) len cap) l := by
  obtain ⟨f, hf⟩ : ∃ f : Nat → PInt, ∀ i, i < cap → w.cell? (a.add (i * 2)) = some (.int .i64 (f i).1) ∧ w.cell? (a.add (i * 2 + 1)) = some (.int .i64 (f i).2) :=
    ⟨fun i => if h : i < cap then (Classical.choose (hx i h), Classical.choose (Classical.choose_spec (hx i h))) else (0, 0), fun i hi => by simp only [dif_pos hi]; exact Classical.choose_spec (Classical.choose_spec (hx i hi))⟩
  have hlen : ((List.range len).map f).length = len := by simp
  refine ⟨(List.range len).map f, by omega, some a, cap, by rw [hlen], fun hne => ?_⟩
  have h0 : 0 < len := by
    rcases Nat.eq_zero_or_pos len with h | h
    · subst h; exact absurd rfl hne
    · exact h
  have h1 := (hf 0 (by omega)).1
  have hspot : a = ⟨a.block, a.off, none⟩ := by
    obtain ⟨b, o, sp⟩ := a
    cases sp with
    | none => rfl
    | some x =>
      simp only [Addr.add, Nat.zero_mul, if_pos, World.cell?] at h1
      split at h1
      · simp at h1
      · cases h1
  have hb : a.block < w.heap.size := by
    simp only [Addr.add, Nat.zero_mul, if_pos, World.cell?] at h1
    split at h1
    · rename_i h; exact (Array.getElem?_eq_some_iff.1 h).1
    · cases h1
  have hadd : ∀ j, a.add j = ⟨a.block, a.off + j, none⟩ := fun j => by
    rw [hspot]
    unfold Addr.add
    split
    · rename_i h; subst h; rfl
    · rfl
  refine ⟨a.block, a.off, by rw [← hspot], hb, fun j hj => ?_⟩
  rw [hlen] at hj
  have h2 := hf j (by omega)
  rw [hadd, hadd] at h2
  have e : ((List.range len).map f).getD j (0, 0) = f j := by simp [List.getD, hj]
  rw [e]
  exact ⟨h2.1, by rw [Nat.add_assoc]; exact h2.2⟩

theorem asSteps {xs : List PInt} {w : World} {e : Ending} {w' : World} (h : ∃ u, e = .returned u ∧ OwnP 104 w' w.heap.size w'.heap.size u xs ∧ Below w.heap.size w w') :
    ∃ p c, e = .returned (.slice p xs.length c) ∧ OwnP 104 w' w.heap.size w'.heap.size (.slice p xs.length c) xs ∧ Below w.heap.size w w' := by
  obtain ⟨u, he, o, b⟩ := h
  obtain ⟨p, c, rfl⟩ := o.form
  exact ⟨p, c, he, o, b⟩
theorem asStepsOk {xs : List PInt} {ok : Bool} {w : World} {e : Ending} {w' : World} (h : ∃ u, e = .returned (.tuple #[u, .bool ok]) ∧ OwnP 104 w' w.heap.size w'.heap.size u xs ∧ Below w.heap.size w w') :
    ∃ p c, e = .returned (.tuple #[.slice p xs.length c, .bool ok]) ∧ OwnP 104 w' w.heap.size w'.heap.size (.slice p xs.length c) xs ∧ Below w.heap.size w w' := by
  obtain ⟨u, he, o, b⟩ := h
  obtain ⟨p, c, rfl⟩ := o.form
  exact ⟨p, c, he, o, b⟩
theorem steps_len (l : List PInt) (t : Nat) : ∀ f s, (Infer.steps l t f s).length ≤ f
  | 0, _ => Nat.le_refl _
  | f + 1, s => by
    unfold Infer.steps
    split
    · exact Nat.zero_le _
    · exact Nat.succ_le_succ (steps_len l t f _)
theorem small (l : List PInt) (r : PInt) : (Infer.proofOf l r).length ≤ 256 := by
  unfold Infer.proofOf
  split
  · exact steps_len _ _ _ _
  · exact Nat.zero_le _
set_option maxRecDepth 100000 in
set_option maxHeartbeats 4000000 in
theorem walk (lv : Value) (lr : List PInt) (x1 x2 : Int) (w : World) (hl : ReadsP w w.heap.size lv lr) :
    Calls Try.prog 13 #[lv, .agg #[.int .i64 x1, .int .i64 x2]] w fun e w' => e = .returned (.bool true) ∧ Below w.heap.size w w' := by
  have hll : lr.length ≤ 9223372036854775807 := by have := hl.1; unfold maxLen at this; omega
  obtain ⟨lp, lc, rfl⟩ := hl.form
  have HRl := Lib.hid hl
  clear hl
  by_cases hlen0 : 1048576 < (lr.length : Int)
  · have HZ0 := Lib.hid (fun w => PRule.szS (.slice lp lr.length lc) lr.length (1048576) w ⟨_, _, rfl⟩ hll (by omega) (by omega))
    simp only [if_pos hlen0] at HZ0
    go_enter Try.func13, Try.ntmps13
    go_wp2_with fail
    refine (HZ0.out _).mono ?_
    rintro e w' ⟨rfl, hw⟩
    subst w'
    go_wp2_with fail
    go_ret
    exact ⟨rfl, ((Below.refl w.heap.size w).alloc (by first | omega | (simp; omega) | simp) (.cells #[.int .i64 x1, .int .i64 x2] 78))⟩
  have HZ0 := Lib.hid (fun w => PRule.szS (.slice lp lr.length lc) lr.length (1048576) w ⟨_, _, rfl⟩ hll (by omega) (by omega))
  simp only [if_neg hlen0] at HZ0
  have hd0 : decide (1048576 - (lr.length : Int) < 0) = false := by simp; omega
  have hxll : lr.length ≤ 1048576 := by omega
  have hsm := small lr (x1, x2)
  obtain ⟨xs, hxs⟩ : ∃ xs, Infer.proofOf lr (x1, x2) = xs := ⟨_, rfl⟩
  obtain ⟨ok, hok⟩ : ∃ ok, Rule.follows lr (x1, x2) = ok := ⟨_, rfl⟩
  have HS := Lib.hid (fun v B w h hB => (Infer.spec_proof v lr (x1, x2) B w h hB).mono (fun _ _ h => asStepsOk (xs := xs) (ok := ok) (by rw [hxs, hok] at h; exact h)))
  have HI := Lib.hid (fun v B w h hB => (Infer.impl_proof v lr (x1, x2) B w h hB).mono (fun _ _ h => asStepsOk (xs := xs) (ok := ok) (by rw [hxs, hok] at h; exact h)))
  rw [hxs] at hsm
  have hqn : (xs == xs) = true := by simp
  have hqo : (ok != ok) = false := by simp
  clear hxs hok
  clear hlen0 hll
  go_enter Try.func13, Try.ntmps13
  go_wp2_with fail
  refine (HZ0.out _).mono ?_
  rintro e w' ⟨rfl, hw⟩
  subst w'
  go_wp2_with fail
  have b1 := (Below.refl w.heap.size w).alloc (Nat.le_refl _) (.cells #[.int .i64 x1, .int .i64 x2] 78)
  have nb1 := BoxAt.new w 78 #[.int .i64 x1, .int .i64 x2]
  generalize w.alloc (.cells #[.int .i64 x1, .int .i64 x2] 78) = w1 at b1 nb1 ⊢
  have Ax1 := Lib.hid nb1
  clear nb1
  have hs1 : w.heap.size ≤ w1.heap.size := by have := b1.size; simpa using this
  have T1 := Lib.hid ((Below.refl w.heap.size w).trans (b1.mono (by first | omega | (simp; omega) | simp)))
  have zAx_1 : w.heap.size < w1.heap.size := Ax1.out.lt
  have hzAx : w.heap.size < w1.heap.size := Ax1.out.lt
  have cAx_0_1 : w1.cell? ⟨w.heap.size, 0, none⟩ = some (.int .i64 x1) := Ax1.out.cell 0
  have cAx_1_1 : w1.cell? ⟨w.heap.size, 1, none⟩ = some (.int .i64 x2) := Ax1.out.cell 1
  clear b1
  go_wp2_with fail
  go_region_held3 (fun wx => wx.cell? ⟨w.heap.size, 0, none⟩ = some (.int .i64 x1) ∧ wx.cell? ⟨w.heap.size, 1, none⟩ = some (.int .i64 x2))
    (first | exact ⟨cAx_0_1, cAx_1_1⟩ | exact keep2 (w := w1.drew) (B := w1.heap.size) b2 ⟨cAx_0_1, cAx_1_1⟩ (by show w.heap.size < _; omega) (by show w.heap.size < _; omega) | exact keep2 (w := w1.drew) (B := w1.heap.size) (b2.trans (b3.mono (b2).size)) ⟨cAx_0_1, cAx_1_1⟩ (by show w.heap.size < _; omega) (by show w.heap.size < _; omega) | exact keep2 (w := w1.drew) (B := w1.heap.size) ((b2.trans (b3.mono (b2).size)).trans (b4.mono ((b2.trans (b3.mono (b2).size))).size)) ⟨cAx_0_1, cAx_1_1⟩ (by show w.heap.size < _; omega) (by show w.heap.size < _; omega))
    (first | (go_at_call 68; (with_reducible refine (PRule.toS _ lr w.heap.size w1.drew (HRl.out.below T1.out.drew (Nat.le_refl _)) (T1.out.drew).size hxll).mono ?_); rintro e w2 ⟨u2, rfl, o2, b2⟩; obtain ⟨p2, q2, rfl⟩ := o2.form) | (go_at_call 69; (with_reducible refine (PRule.to1 (x1, x2) _).mono ?_); rintro e w3 ⟨rfl, b3⟩) | (go_at_call 38; (with_reducible refine (HS.out _ w2.heap.size _ (o2.reads.below b3 (by first | exact Nat.le_refl _ | (have hs_2 := b2.size; have hs_3 := b3.size; omega))) (by have hs_2 := b2.size; have hs_3 := b3.size; have hsz : w1.drew.heap.size = w1.heap.size := rfl; omega)).mono ?_); rintro e w4 ⟨p4, q4, rfl, o4, b4⟩) | fail)
  have bb := (Below.refl w1.heap.size w1).drew.trans ((b2.trans (b3.mono (b2).size)).trans (b4.mono ((b2.trans (b3.mono (b2).size))).size))
  have hlo : w1.heap.size ≤ w3.heap.size := ((b2.trans (b3.mono (b2).size))).size
  have Wn4 := Lib.hid (o4.mono (lo' := w1.heap.size) hlo (Nat.le_refl _))
  clear o4 hlo
  clear b3 
  clear b2 o2
  clear b4
  have b4 := bb
  clear bb
  have hs4 : w1.heap.size ≤ w4.heap.size := by have := b4.size; simpa using this
  have T4 := Lib.hid (T1.out.trans (b4.mono (by first | omega | (simp; omega) | simp)))
  have Ax4 := Lib.hid (Ax1.out.below b4 (by first | omega | (simp; omega) | simp))
  have zAx_4 : w.heap.size < w4.heap.size := Ax4.out.lt
  have cAx_0_4 : w4.cell? ⟨w.heap.size, 0, none⟩ = some (.int .i64 x1) := Ax4.out.cell 0
  have cAx_1_4 : w4.cell? ⟨w.heap.size, 1, none⟩ = some (.int .i64 x2) := Ax4.out.cell 1
  clear b4 T1 Ax1 zAx_1 cAx_0_1 cAx_1_1
  go_wp2_with fail
  refine (PRule.toS _ lr w.heap.size _ (HRl.out.below T4.out (Nat.le_refl _)) (by first | omega | (simp; omega) | simp) hxll).mono ?_
  rintro e w5 ⟨u5, rfl, o5, b5⟩
  obtain ⟨p5, q5, rfl⟩ := o5.form
  have X05 := Lib.hid (o5.mono (lo' := w4.heap.size) (by first | omega | (simp; omega) | simp) (Nat.le_refl _))
  have hs5 : w4.heap.size ≤ w5.heap.size := by have := b5.size; simpa using this
  have T5 := Lib.hid (T4.out.trans (b5.mono (by first | omega | (simp; omega) | simp)))
  have Ax5 := Lib.hid (Ax4.out.below b5 (by first | omega | (simp; omega) | simp))
  have Wn5 := Lib.hid (Wn4.out.below b5 (by first | omega | (simp; omega) | simp))
  have zAx_5 : w.heap.size < w5.heap.size := Ax5.out.lt
  have cAx_0_5 : w5.cell? ⟨w.heap.size, 0, none⟩ = some (.int .i64 x1) := Ax5.out.cell 0
  have cAx_1_5 : w5.cell? ⟨w.heap.size, 1, none⟩ = some (.int .i64 x2) := Ax5.out.cell 1
  clear o5 b5 T4 Ax4 Wn4 zAx_4 cAx_0_4 cAx_1_4
  go_wp2_with fail
  refine (PRule.to1 (x1, x2) _).mono ?_
  rintro e w6 ⟨rfl, b6⟩
  have hs6 : w5.heap.size ≤ w6.heap.size := by have := b6.size; simpa using this
  have T6 := Lib.hid (T5.out.trans (b6.mono (by first | omega | (simp; omega) | simp)))
  have Ax6 := Lib.hid (Ax5.out.below b6 (by first | omega | (simp; omega) | simp))
  have Wn6 := Lib.hid (Wn5.out.below b6 (by first | omega | (simp; omega) | simp))
  have X06 := Lib.hid (X05.out.below b6 (by first | omega | (simp; omega) | simp))
  have zAx_6 : w.heap.size < w6.heap.size := Ax6.out.lt
  have cAx_0_6 : w6.cell? ⟨w.heap.size, 0, none⟩ = some (.int .i64 x1) := Ax6.out.cell 0
  have cAx_1_6 : w6.cell? ⟨w.heap.size, 1, none⟩ = some (.int .i64 x2) := Ax6.out.cell 1
  clear b6 T5 Ax5 Wn5 X05 zAx_5 cAx_0_5 cAx_1_5
  go_wp2_with fail
  refine (HI.out _ w5.heap.size _ X06.out.reads (by first | omega | (simp; omega) | simp)).mono ?_
  rintro e w7 ⟨p7, q7, rfl, o7, b7⟩
  have Gn7 := Lib.hid (o7.mono (lo' := w6.heap.size) (by first | omega | (simp; omega) | simp) (Nat.le_refl _))
  have hs7 : w6.heap.size ≤ w7.heap.size := by have := b7.size; simpa using this
  have T7 := Lib.hid (T6.out.trans (b7.mono (by first | omega | (simp; omega) | simp)))
  have Ax7 := Lib.hid (Ax6.out.below b7 (by first | omega | (simp; omega) | simp))
  have Wn7 := Lib.hid (Wn6.out.below b7 (by first | omega | (simp; omega) | simp))
  have X07 := Lib.hid (X06.out.below b7 (by first | omega | (simp; omega) | simp))
  have zAx_7 : w.heap.size < w7.heap.size := Ax7.out.lt
  have cAx_0_7 : w7.cell? ⟨w.heap.size, 0, none⟩ = some (.int .i64 x1) := Ax7.out.cell 0
  have cAx_1_7 : w7.cell? ⟨w.heap.size, 1, none⟩ = some (.int .i64 x2) := Ax7.out.cell 1
  clear o7 b7 T6 Ax6 Wn6 X06 zAx_6 cAx_0_6 cAx_1_6
  go_wp2_with fail
  refine (PStep.eqS _ _ xs xs w7.heap.size w4.heap.size _ Gn7.out.reads Wn7.out.reads (by first | omega | (simp; omega) | simp) (by first | omega | (simp; omega) | simp)).mono ?_
  rintro e w8 ⟨rfl, b8⟩
  have hs8 : w7.heap.size ≤ w8.heap.size := by have := b8.size; simpa using this
  have T8 := Lib.hid (T7.out.trans (b8.mono (by first | omega | (simp; omega) | simp)))
  have Ax8 := Lib.hid (Ax7.out.below b8 (by first | omega | (simp; omega) | simp))
  have Wn8 := Lib.hid (Wn7.out.below b8 (by first | omega | (simp; omega) | simp))
  have X08 := Lib.hid (X07.out.below b8 (by first | omega | (simp; omega) | simp))
  have Gn8 := Lib.hid (Gn7.out.below b8 (by first | omega | (simp; omega) | simp))
  have zAx_8 : w.heap.size < w8.heap.size := Ax8.out.lt
  have cAx_0_8 : w8.cell? ⟨w.heap.size, 0, none⟩ = some (.int .i64 x1) := Ax8.out.cell 0
  have cAx_1_8 : w8.cell? ⟨w.heap.size, 1, none⟩ = some (.int .i64 x2) := Ax8.out.cell 1
  clear b8 T7 Ax7 Wn7 X07 Gn7 zAx_7 cAx_0_7 cAx_1_7
  go_wp2_with fail
  refine (PRule.toS _ lr w.heap.size _ (HRl.out.below T8.out (Nat.le_refl _)) (by first | omega | (simp; omega) | simp) hxll).mono ?_
  rintro e w9 ⟨u9, rfl, o9, b9⟩
  obtain ⟨p9, q9, rfl⟩ := o9.form
  have Q09 := Lib.hid (o9.mono (lo' := w8.heap.size) (by first | omega | (simp; omega) | simp) (Nat.le_refl _))
  have hs9 : w8.heap.size ≤ w9.heap.size := by have := b9.size; simpa using this
  have T9 := Lib.hid (T8.out.trans (b9.mono (by first | omega | (simp; omega) | simp)))
  have Ax9 := Lib.hid (Ax8.out.below b9 (by first | omega | (simp; omega) | simp))
  have Wn9 := Lib.hid (Wn8.out.below b9 (by first | omega | (simp; omega) | simp))
  have X09 := Lib.hid (X08.out.below b9 (by first | omega | (simp; omega) | simp))
  have Gn9 := Lib.hid (Gn8.out.below b9 (by first | omega | (simp; omega) | simp))
  have zAx_9 : w.heap.size < w9.heap.size := Ax9.out.lt
  have cAx_0_9 : w9.cell? ⟨w.heap.size, 0, none⟩ = some (.int .i64 x1) := Ax9.out.cell 0
  have cAx_1_9 : w9.cell? ⟨w.heap.size, 1, none⟩ = some (.int .i64 x2) := Ax9.out.cell 1
  clear o9 b9 T8 Ax8 Wn8 X08 Gn8 zAx_8 cAx_0_8 cAx_1_8
  go_wp2_with fail
  refine (PRule.eqS _ _ lr lr w5.heap.size w9.heap.size _ X09.out.reads Q09.out.reads (by first | omega | (simp; omega) | simp) (by first | omega | (simp; omega) | simp)).mono ?_
  rintro e w10 ⟨rfl, b10⟩
  have hs10 : w9.heap.size ≤ w10.heap.size := by have := b10.size; simpa using this
  have T10 := Lib.hid (T9.out.trans (b10.mono (by first | omega | (simp; omega) | simp)))
  have Ax10 := Lib.hid (Ax9.out.below b10 (by first | omega | (simp; omega) | simp))
  have Wn10 := Lib.hid (Wn9.out.below b10 (by first | omega | (simp; omega) | simp))
  have X010 := Lib.hid (X09.out.below b10 (by first | omega | (simp; omega) | simp))
  have Gn10 := Lib.hid (Gn9.out.below b10 (by first | omega | (simp; omega) | simp))
  have Q010 := Lib.hid (Q09.out.below b10 (by first | omega | (simp; omega) | simp))
  have zAx_10 : w.heap.size < w10.heap.size := Ax10.out.lt
  have cAx_0_10 : w10.cell? ⟨w.heap.size, 0, none⟩ = some (.int .i64 x1) := Ax10.out.cell 0
  have cAx_1_10 : w10.cell? ⟨w.heap.size, 1, none⟩ = some (.int .i64 x2) := Ax10.out.cell 1
  clear b10 T9 Ax9 Wn9 X09 Gn9 Q09 zAx_9 cAx_0_9 cAx_1_9
  clear Q010
  have hqq0 : (lr == lr) = true := by simp
  go_wp2_with fail
  refine (PRule.markS _ lr 1 (w4.heap.size) w5.heap.size _ X010.out (by first | omega | (simp; omega) | simp)).mono ?_
  rintro e w11 ⟨rfl, m11, b11⟩
  have X011 := Lib.hid m11
  have hs11 : w10.heap.size ≤ w11.heap.size := by have := b11.size; simpa using this
  have T11 := Lib.hid (T10.out.trans (b11.below (B := w.heap.size) (by first | omega | (simp; omega) | simp) (by first | omega | (simp; omega) | simp)))
  have Ax11 := Lib.hid (boxApart Ax10.out b11 (by first | omega | (simp; omega) | simp))
  have Wn11 := Lib.hid (Wn10.out.apart b11 (by first | omega | (simp; omega) | simp))
  have Gn11 := Lib.hid (Gn10.out.apart b11 (by first | omega | (simp; omega) | simp))
  have zAx_11 : w.heap.size < w11.heap.size := Ax11.out.lt
  have cAx_0_11 : w11.cell? ⟨w.heap.size, 0, none⟩ = some (.int .i64 x1) := Ax11.out.cell 0
  have cAx_1_11 : w11.cell? ⟨w.heap.size, 1, none⟩ = some (.int .i64 x2) := Ax11.out.cell 1
  clear m11 b11 T10 Ax10 Wn10 X010 Gn10 zAx_10 cAx_0_10 cAx_1_10
  go_wp2_with fail
  refine (PStep.eqS _ _ xs xs w7.heap.size w4.heap.size _ Gn11.out.reads Wn11.out.reads (by first | omega | (simp; omega) | simp) (by first | omega | (simp; omega) | simp)).mono ?_
  rintro e w12 ⟨rfl, b12⟩
  have hs12 : w11.heap.size ≤ w12.heap.size := by have := b12.size; simpa using this
  have T12 := Lib.hid (T11.out.trans (b12.mono (by first | omega | (simp; omega) | simp)))
  have Ax12 := Lib.hid (Ax11.out.below b12 (by first | omega | (simp; omega) | simp))
  have Wn12 := Lib.hid (Wn11.out.below b12 (by first | omega | (simp; omega) | simp))
  have X012 := Lib.hid (X011.out.below b12 (by first | omega | (simp; omega) | simp))
  have Gn12 := Lib.hid (Gn11.out.below b12 (by first | omega | (simp; omega) | simp))
  have zAx_12 : w.heap.size < w12.heap.size := Ax12.out.lt
  have cAx_0_12 : w12.cell? ⟨w.heap.size, 0, none⟩ = some (.int .i64 x1) := Ax12.out.cell 0
  have cAx_1_12 : w12.cell? ⟨w.heap.size, 1, none⟩ = some (.int .i64 x2) := Ax12.out.cell 1
  clear b12 T11 Ax11 Wn11 X011 Gn11 zAx_11 cAx_0_11 cAx_1_11
  clear X012
  go_wp2_with fail
  refine (PStep.markS _ xs 1 (w6.heap.size) w7.heap.size _ Gn12.out (by first | omega | (simp; omega) | simp)).mono ?_
  rintro e w13 ⟨rfl, m13, b13⟩
  have Gn13 := Lib.hid m13
  have hs13 : w12.heap.size ≤ w13.heap.size := by have := b13.size; simpa using this
  have T13 := Lib.hid (T12.out.trans (b13.below (B := w.heap.size) (by first | omega | (simp; omega) | simp) (by first | omega | (simp; omega) | simp)))
  have Ax13 := Lib.hid (boxApart Ax12.out b13 (by first | omega | (simp; omega) | simp))
  have Wn13 := Lib.hid (Wn12.out.apart b13 (by first | omega | (simp; omega) | simp))
  have zAx_13 : w.heap.size < w13.heap.size := Ax13.out.lt
  have cAx_0_13 : w13.cell? ⟨w.heap.size, 0, none⟩ = some (.int .i64 x1) := Ax13.out.cell 0
  have cAx_1_13 : w13.cell? ⟨w.heap.size, 1, none⟩ = some (.int .i64 x2) := Ax13.out.cell 1
  clear m13 b13 T12 Ax12 Wn12 Gn12 zAx_12 cAx_0_12 cAx_1_12
  go_wp2_with fail
  refine (PStep.heldS _ (seqP 1 xs.length) 1 xs.length w7.heap.size _ Gn13.out.reads rfl (by first | omega | (simp; omega) | simp)).mono ?_
  rintro e w13 ⟨rfl, rfl⟩
  go_wp2_with fail
  go_region_held3 (fun wx => wx.cell? ⟨w.heap.size, 0, none⟩ = some (.int .i64 x1) ∧ wx.cell? ⟨w.heap.size, 1, none⟩ = some (.int .i64 x2))
    (first | exact ⟨cAx_0_13, cAx_1_13⟩ | exact keep2 (w := w13.drew) (B := w13.heap.size) b14 ⟨cAx_0_13, cAx_1_13⟩ (by show w.heap.size < _; omega) (by show w.heap.size < _; omega) | exact keep2 (w := w13.drew) (B := w13.heap.size) (b14.trans (b15.mono (b14).size)) ⟨cAx_0_13, cAx_1_13⟩ (by show w.heap.size < _; omega) (by show w.heap.size < _; omega) | exact keep2 (w := w13.drew) (B := w13.heap.size) ((b14.trans (b15.mono (b14).size)).trans (b16.mono ((b14.trans (b15.mono (b14).size))).size)) ⟨cAx_0_13, cAx_1_13⟩ (by show w.heap.size < _; omega) (by show w.heap.size < _; omega))
    (first | (go_at_call 68; (with_reducible refine (PRule.toS _ lr w.heap.size w13.drew (HRl.out.below T13.out.drew (Nat.le_refl _)) (T13.out.drew).size hxll).mono ?_); rintro e w14 ⟨u14, rfl, o14, b14⟩; obtain ⟨p14, q14, rfl⟩ := o14.form) | (go_at_call 69; (with_reducible refine (PRule.to1 (x1, x2) _).mono ?_); rintro e w15 ⟨rfl, b15⟩) | (go_at_call 37; (with_reducible refine (HI.out _ w14.heap.size _ (o14.reads.below b15 (by first | exact Nat.le_refl _ | (have hs_14 := b14.size; have hs_15 := b15.size; omega))) (by have hs_14 := b14.size; have hs_15 := b15.size; have hsz : w13.drew.heap.size = w13.heap.size := rfl; omega)).mono ?_); rintro e w16 ⟨p16, q16, rfl, o16, b16⟩) | fail)
  have bb := (Below.refl w13.heap.size w13).drew.trans ((b14.trans (b15.mono (b14).size)).trans (b16.mono ((b14.trans (b15.mono (b14).size))).size))
  have hlo : w13.heap.size ≤ w15.heap.size := ((b14.trans (b15.mono (b14).size))).size
  have Hn16 := Lib.hid (o16.mono (lo' := w13.heap.size) hlo (Nat.le_refl _))
  clear o16 hlo
  clear b15 
  clear b14 o14
  clear b16
  have b16 := bb
  clear bb
  have hs16 : w13.heap.size ≤ w16.heap.size := by have := b16.size; simpa using this
  have T16 := Lib.hid (T13.out.trans (b16.mono (by first | omega | (simp; omega) | simp)))
  have Ax16 := Lib.hid (Ax13.out.below b16 (by first | omega | (simp; omega) | simp))
  have Wn16 := Lib.hid (Wn13.out.below b16 (by first | omega | (simp; omega) | simp))
  have Gn16 := Lib.hid (Gn13.out.below b16 (by first | omega | (simp; omega) | simp))
  have zAx_16 : w.heap.size < w16.heap.size := Ax16.out.lt
  have cAx_0_16 : w16.cell? ⟨w.heap.size, 0, none⟩ = some (.int .i64 x1) := Ax16.out.cell 0
  have cAx_1_16 : w16.cell? ⟨w.heap.size, 1, none⟩ = some (.int .i64 x2) := Ax16.out.cell 1
  clear b16 T13 Ax13 Wn13 Gn13 zAx_13 cAx_0_13 cAx_1_13
  go_wp2_with fail
  refine (PStep.eqS _ _ xs xs w16.heap.size w4.heap.size _ Hn16.out.reads Wn16.out.reads (by first | omega | (simp; omega) | simp) (by first | omega | (simp; omega) | simp)).mono ?_
  rintro e w17 ⟨rfl, b17⟩
  have hs17 : w16.heap.size ≤ w17.heap.size := by have := b17.size; simpa using this
  have T17 := Lib.hid (T16.out.trans (b17.mono (by first | omega | (simp; omega) | simp)))
  have Ax17 := Lib.hid (Ax16.out.below b17 (by first | omega | (simp; omega) | simp))
  have Wn17 := Lib.hid (Wn16.out.below b17 (by first | omega | (simp; omega) | simp))
  have Gn17 := Lib.hid (Gn16.out.below b17 (by first | omega | (simp; omega) | simp))
  have Hn17 := Lib.hid (Hn16.out.below b17 (by first | omega | (simp; omega) | simp))
  have zAx_17 : w.heap.size < w17.heap.size := Ax17.out.lt
  have cAx_0_17 : w17.cell? ⟨w.heap.size, 0, none⟩ = some (.int .i64 x1) := Ax17.out.cell 0
  have cAx_1_17 : w17.cell? ⟨w.heap.size, 1, none⟩ = some (.int .i64 x2) := Ax17.out.cell 1
  clear b17 T16 Ax16 Wn16 Gn16 Hn16 zAx_16 cAx_0_16 cAx_1_16
  clear Hn17
  go_wp2_with fail
  refine (PStep.heldS _ (seqP 1 xs.length) 1 xs.length w7.heap.size _ Gn17.out.reads rfl (by first | omega | (simp; omega) | simp)).mono ?_
  rintro e w17 ⟨rfl, rfl⟩
  go_wp2_with fail
  go_ret
  exact ⟨rfl, T17.out⟩

set_option maxRecDepth 100000 in
theorem contract (H : Type) (enc : TypeId × Value → H) (W : World) (base : Nat) (args : Array Value) (ds gs : List (DataW H)) (before : List MemPlace)
    (hval : ∀ (j : Nat) t v, Try.f13.params[j]? = some t → args[j]? = some v → Value.okWide Try.prog W .any base t v)
    (hW : DataW.Whole enc Try.prog Try.f13.params.toList Rows.fnExactProofOfSpec.vars false W args.toList ds gs before) :
    Calls Try.prog 13 args W fun e W' => ∃ v, e = .returned v ∧ Rows.fnExactProofOfSpec.post enc Try.prog Try.f13 false true false false W args v W' := by
  have hW' := hW
  obtain ⟨p, q, hA0, hV, rfl, hfz, hnd⟩ := hW
  have hA : DataW.TrodAll enc Try.prog W 0 (fun _ => true) true Try.f13.params.toList args.toList ds p := hA0
  rw [Try.params13] at hA hval
  obtain ⟨v0, vs0, d0, ds0, p0, q0, hargs, rfl, rfl, h0, r0⟩ := trodAll_cons hA
  obtain ⟨v1, vs1, d1, ds1, p1, q1, rfl, rfl, rfl, h1, r1⟩ := trodAll_cons r0
  obtain ⟨rfl, rfl, rfl⟩ := trodAll_nil r1
  obtain rfl : args = #[v0, v1] := by cases args; simp_all
  obtain ⟨xs0, hr0⟩ : ∃ xs : List PInt, ReadsP W W.heap.size v0 xs := by
    obtain ⟨a0, len, cap, rfl⟩ := okWide_slice Try.underlying70 (hval 0 70 v0 rfl rfl)
    obtain ⟨fuel, hf⟩ := h0
    rcases Deep.open_slice_pairs Try.underlying70 Try.underlying78 (by kernel_rfl) rfl rfl (by kernel_rfl) (by kernel_rfl) hf with ⟨hcs, -⟩ | ⟨a, len', cap', m, n, V0, V1, D0, D1, P0, P1, hcs, -, hl, hm, hmm, -, hx⟩
    · simp [Value.cells] at hcs
      obtain ⟨rfl, rfl, rfl⟩ := hcs
      exact ⟨[], readsP_nil _ _⟩
    · simp [Value.cells] at hcs
      obtain ⟨rfl, rfl, rfl⟩ := hcs
      simp only [if_true] at hmm
      subst hmm
      exact readsP_of hl hm fun i hi => by
        obtain ⟨h0, h1, h2, h3⟩ := hx i hi
        obtain ⟨x, hx0, -, -⟩ := DataW.trod_int Try.underlying3 h2
        obtain ⟨y, hy0, -, -⟩ := DataW.trod_int Try.underlying3 h3
        refine ⟨x, y, ?_, ?_⟩
        · rw [h0]; simpa using hx0
        · rw [h1]; simpa using hy0
  obtain ⟨x1, y1, rfl⟩ : ∃ x y : Int, v1 = .agg #[.int .i64 x, .int .i64 y] := by
    obtain ⟨c0, c1, y0, y1, n, rfl, -, -, g0, g1⟩ := Joins.open_agg2 Try.underlying78 (by kernel_rfl) (by kernel_rfl) (hval 1 78 v1 rfl rfl) h1
    obtain ⟨a, ha, -, -⟩ := DataW.trod_int Try.underlying3 g0
    obtain rfl : c0 = .int .i64 a := by simpa using ha
    obtain ⟨b, hb, -, -⟩ := DataW.trod_int Try.underlying3 g1
    obtain rfl : c1 = .int .i64 b := by simpa using hb
    exact ⟨a, b, rfl⟩
  clear hA0
  refine (walk v0 xs0 x1 y1 W hr0).mono fun e W' ⟨he, hg⟩ => ?_
  subst he
  exact ⟨_, rfl, Law.post_true (tb := 4) (kids_rows (by kernel_rfl) (by kernel_rfl)) (by unfold Law.Full; kernel_rfl) hW' rfl (by rw [Try.params13]; decide +kernel) Try.underlying4 (by kernel_rfl) rfl hg⟩

noncomputable def start (os : Os) : World := World.holding Try.prog os ⟨#[], #[], []⟩
theorem reads (os : Os) {H : Type} (enc : TypeId × Value → H) : ∃ places, DataW.whole enc Try.prog ((start os).forCall (fun _ _ => 0) ⟨#[], #[.slice none 0 0, .agg #[.int .i64 0, .int .i64 0]], []⟩).memory Try.f13.params.toList Rows.fnExactProofOfSpec.vars false (#[.slice none 0 0, .agg #[.int .i64 0, .int .i64 0]] : Array Value).toList 8 = some ([.nil, .agg [.lit (.int .i64 0), .lit (.int .i64 0)]], [], places) :=
  ⟨[], by kernel_rfl⟩
theorem own : ownKnob Try.prog.godebug = none := by kernel_rfl

set_option maxRecDepth 100000 in
theorem lifted (os : Os) (started : os.Started) (H : Type) (enc : TypeId × Value → H) (F : Stop.Interp) :
    ReturnsInHanded {} Try.checked os 13 .any ((OpenSpec.ofChange Rows.fnExactProofOfSpec).preRow enc Try.prog Try.f13 Rows.fnExactProofOfRow.domain false Rows.fnExactProofOfRow.laid) (((OpenSpec.ofChange Rows.fnExactProofOfSpec).at F).post enc Try.prog Try.f13 false true false false) := by
  obtain ⟨places, hx⟩ := reads os enc
  refine returnsInHanded_of_row (C := Try.checked) (s := OpenSpec.ofChange Rows.fnExactProofOfSpec) own started (by kernel_rfl) Try.func13
    (witness_row_at (enc := enc) (C := Try.checked) false (start os) #[.slice none 0 0, .agg #[.int .i64 0, .int .i64 0]] rfl (by kernel_rfl) (by kernel_rfl) (by kernel_rfl)
      (OpenSpec.preRow_of_cond 8 hx (by kernel_rfl) (fun k hk => by cases hk) (by kernel_rfl) (laidMet_of_run' 8 (by kernel_rfl) (by kernel_rfl)))) ?_
  intro W base args ds gs before hval hW _ _ _ _ _ _
  exact contract H enc W base args ds gs before hval hW

theorem said : Rows.FnExactProofOfSaid :=
  OpenClaim.holds_of_cond 13 Try.f13 rfl rfl rfl rfl rfl rfl rfl ⟨rfl, rfl, rfl, rfl, rfl⟩ rfl rfl rfl rfl rfl (by kernel_rfl) Try.func13 (by kernel_rfl)
    (of_decide_eq_true (by kernel_rfl)) (by unfold Func.isWrapper; first | (rw [if_pos (by decide +kernel)]; kernel_rfl) | (rw [if_neg (by decide +kernel)]; exact ⟨rfl, rfl⟩))
    (fun os started H enc _ F => by rw [OpenClaim.pre_eq_preRow]; exact lifted os started H enc F)
end Go.Proofs.Ytgkoggajdhibdaa.FnExactProofOf
