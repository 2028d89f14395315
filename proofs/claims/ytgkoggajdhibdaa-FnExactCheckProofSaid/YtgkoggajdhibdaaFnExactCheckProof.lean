/-
  For all arguments the law FnExactCheckProof returns true: the function of the program returns what the function of the model returns, in memory of its own, and leaves its arguments as they are. No condition.
-/
import Derived.Test.YtgkoggajdhibdaaRows
import Derived.Test.YtgkoggajdhibdaaLaw
import Derived.Test.YtgkoggajdhibdaaDual
import Derived.Test.YtgkoggajdhibdaaInfV
import Derived.Test.YtgkoggajdhibdaaInfL
import Derived.Deep.RegionHeld3
import Derived.Lib.SmallJoins
import Derived.Deep.SlicePairs
import Derived.WalkKit
import Derived.ProofKit
import Derived.OpenShut
import Derived.Deep.DeepHandedRow
import Derived.LaidMore
import Derived.Stop.LaidErr
import Derived.ChangeMaps5
import Derived.Outline
import Derived.LoopTactic
import Derived.Lib.Hide
import Derived.Below
namespace Go.Proofs.Ytgkoggajdhibdaa.FnExactCheckProof
open Go Go.ChangeShapes Go.WideShapes Go.ChangeAt Go.ChangeMaps Go.RowKit Mem Ctx

theorem asInts {xs : List Int} {w : World} {e : Ending} {w' : World} (h : ∃ u, e = .returned u ∧ Mem.Own 3 w' w.heap.size w'.heap.size u (ints xs) ∧ Below w.heap.size w w') :
    ∃ p c, e = .returned (.slice p xs.length c) ∧ Mem.Own 3 w' w.heap.size w'.heap.size (.slice p xs.length c) (ints xs) ∧ Below w.heap.size w w' := by
  obtain ⟨u, he, o, b⟩ := h
  obtain ⟨p, c, rfl⟩ := own_form o
  exact ⟨p, c, he, o, b⟩
theorem boxApart {w w' : World} {g lo hi : Nat} {t : TypeId} {cs : Array Value} (h : BoxAt w g t cs) (ha : Apart lo hi w w') (hg : g < lo ∨ hi ≤ g) : BoxAt w' g t cs := (ha.block g h.lt hg).trans h
theorem ownBoxed {e : TypeId} {w : World} {lo hi : Nat} {v : Value} {cs : List Value} (h : Mem.Own e w lo hi v cs) (hh : hi ≤ w.heap.size) (o : Obj) : Mem.Own e (w.alloc o) lo hi v cs := h.below (B := w.heap.size) ((Below.refl _ _).alloc (Nat.le_refl _) o) hh
theorem keep4 {w w' : World} {B : Nat} {p q r s : Addr} {x y z t : Value} (hb : Below B w w') (h : w.cell? p = some x ∧ w.cell? q = some y ∧ w.cell? r = some z ∧ w.cell? s = some t) (hp : p.block < B) (hq : q.block < B) (hr : r.block < B) (hs : s.block < B) :
    w'.cell? p = some x ∧ w'.cell? q = some y ∧ w'.cell? r = some z ∧ w'.cell? s = some t :=
  ⟨(hb.cell hp).trans h.1, (hb.cell hq).trans h.2.1, (hb.cell hr).trans h.2.2.1, (hb.cell hs).trans h.2.2.2⟩
theorem asCtx {x : Option (Int × List Int)} {n : Int} {xs : List Int} {ok : Bool} (hn : (x.getD (0, [])).1 = n) (hx : (x.getD (0, [])).2 = xs) (ho : x.isSome = ok) {w : World} {e : Ending} {w' : World} (h : CtxRes x w e w') :
    ∃ p c, e = .returned (.tuple #[ctx n (.slice p xs.length c), .bool ok]) ∧ Mem.Own 3 w' w.heap.size w'.heap.size (.slice p xs.length c) (ints xs) ∧ Below w.heap.size w w' := by
  subst hn hx ho
  obtain ⟨u, he, o, b⟩ := h
  obtain ⟨p, c, rfl⟩ := own_form o
  exact ⟨p, c, he, o, b⟩


theorem keep2 {w w' : World} {B : Nat} {p q : Addr} {x y : Value} (hb : Below B w w') (h : w.cell? p = some x ∧ w.cell? q = some y) (hp : p.block < B) (hq : q.block < B) : w'.cell? p = some x ∧ w'.cell? q = some y := ⟨(hb.cell hp).trans h.1, (hb.cell hq).trans h.2⟩
theorem boxedP {w : World} {B : Nat} {v : Value} {l : List PInt} (h : ReadsP w B v l) (hB : B ≤ w.heap.size) (o : Obj) : ReadsP (w.alloc o) B v l := h.below ((Below.refl _ _).alloc (Nat.le_refl _) o) hB
theorem ownBoxedP {e : TypeId} {w : World} {lo hi : Nat} {v : Value} {l : List PInt} (h : OwnP e w lo hi v l) (hh : hi ≤ w.heap.size) (o : Obj) : OwnP e (w.alloc o) lo hi v l := h.below (B := w.heap.size) ((Below.refl _ _).alloc (Nat.le_refl _) o) hh
theorem readsP_nil (w : World) (B : Nat) : ReadsP w B (.slice none 0 0) [] := ⟨Nat.zero_le _, none, 0, rfl, fun h => absurd rfl h⟩
/-- A slice of pairs that came in can be read. -/
theorem readsP_of {w : World} {a : Addr} {len cap : Nat} (hl : len ≤ cap) (hm : cap ≤ maxLen) (hx : ∀ i, i < cap → ∃ x y : Int, w.cell? (a.add (i * 2)) = some (.int .i64 x) ∧ w.cell? (a.add (i * 2 + 1)) = some (.int .i64 y)) :
    ∃ l : List PInt, ReadsP w w.heap.size (.slice (some a) len cap) l := by
  obtain ⟨f, hf⟩ : ∃ f : Nat → PInt, ∀ i, i < cap → w.cell? (a.add (i * 2)) = some (.int .i64 (f i).1) ∧ w.cell? (a.add (i * 2 + 1)) = some (.int .i64 (f i).2) :=
    ⟨fun i => if h : i < cap then (Classical.choose (hx i h), Classical.choose (Classical.choose_spec (hx i h))) else (0, 0), fun i hi => by simp only [dif_pos hi]; exact Classical.choose_spec (Classical.choose_spec (hx i hi))⟩
  have hlen : ((List.range len).map f).length = len := by simp
  refine ⟨(List.range len).map f, by omega, some a, cap, by rw [hlen], fun hne => ?_⟩
  have h0 : 0 < len := by
    rcases Nat.eq_zero_or_pos len with h | h
    · subst h; exact absurd rfl hne
    · exact h
  have h1 := (hf 0 (by omega)).1
  have hspot : a = ⟨a.block, a.off, none⟩ := by
    obtain ⟨b, o, sp⟩ := a
    cases sp with
    | none => rfl
    | some x =>
      simp only [Addr.add, Nat.zero_mul, if_pos, World.cell?] at h1
      split at h1
      · simp at h1
      · cases h1
  have hb : a.block < w.heap.size := by
    simp only [Addr.add, Nat.zero_mul, if_pos, World.cell?] at h1
    split at h1
    · rename_i h; exact (Array.getElem?_eq_some_iff.1 h).1
    · cases h1
  have hadd : ∀ j, a.add j = ⟨a.block, a.off + j, none⟩ := fun j => by
    rw [hspot]
    unfold Addr.add
    split
    · rename_i h; subst h; rfl
    · rfl
  refine ⟨a.block, a.off, by rw [← hspot], hb, fun j hj => ?_⟩
  rw [hlen] at hj
  have h2 := hf j (by omega)
  rw [hadd, hadd] at h2
  have e : ((List.range len).map f).getD j (0, 0) = f j := by simp [List.getD, hj]
  rw [e]
  exact ⟨h2.1, by rw [Nat.add_assoc]; exact h2.2⟩
set_option maxRecDepth 100000 in
set_option maxHeartbeats 4000000 in
theorem walk (lv : Value) (lr : List PInt) (x1 x2 : Int) (tv : Value) (tr : List PInt) (w : World) (hl : ReadsP w w.heap.size lv lr) (ht : ReadsP w w.heap.size tv tr) :
    Calls Try.prog 14 #[lv, .agg #[.int .i64 x1, .int .i64 x2], tv] w fun e w' => e = .returned (.bool true) ∧ Below w.heap.size w w' := by
  have hll : lr.length ≤ 9223372036854775807 := by have := hl.1; unfold maxLen at this; omega
  obtain ⟨lp, lc, rfl⟩ := hl.form
  have HRl := Lib.hid hl
  clear hl
  have hlt : tr.length ≤ 9223372036854775807 := by have := ht.1; unfold maxLen at this; omega
  obtain ⟨tp, tc, rfl⟩ := ht.form
  have HRt := Lib.hid ht
  clear ht
  by_cases hlen0 : 1048576 < (lr.length : Int)
  · have HZ0 := Lib.hid (fun w => PRule.szS (.slice lp lr.length lc) lr.length (1048576) w ⟨_, _, rfl⟩ hll (by omega) (by omega))
    simp only [if_pos hlen0] at HZ0
    go_enter Try.func14, Try.ntmps14
    go_wp2_with fail
    refine (HZ0.out _).mono ?_
    rintro e w' ⟨rfl, hw⟩
    subst w'
    go_wp2_with fail
    go_ret
    exact ⟨rfl, ((Below.refl w.heap.size w).alloc (by first | omega | (simp; omega) | simp) (.cells #[.int .i64 x1, .int .i64 x2] 78))⟩
  have HZ0 := Lib.hid (fun w => PRule.szS (.slice lp lr.length lc) lr.length (1048576) w ⟨_, _, rfl⟩ hll (by omega) (by omega))
  simp only [if_neg hlen0] at HZ0
  have hd0 : decide (1048576 - (lr.length : Int) < 0) = false := by simp; omega
  have hxll : lr.length ≤ 1048576 := by omega
  by_cases hlen1 : (1048576 - (lr.length : Int)) < (tr.length : Int)
  · have HZ1 := Lib.hid (fun w => PStep.szS (.slice tp tr.length tc) tr.length ((1048576 - (lr.length : Int))) w ⟨_, _, rfl⟩ hlt (by omega) (by omega))
    simp only [if_pos hlen1] at HZ1
    go_enter Try.func14, Try.ntmps14
    go_wp2_with fail
    refine (HZ0.out _).mono ?_
    rintro e w' ⟨rfl, hw⟩
    subst w'
    go_wp2_with fail
    refine (HZ1.out _).mono ?_
    rintro e w' ⟨rfl, hw⟩
    subst w'
    go_wp2_with fail
    go_ret
    exact ⟨rfl, ((Below.refl w.heap.size w).alloc (by first | omega | (simp; omega) | simp) (.cells #[.int .i64 x1, .int .i64 x2] 78))⟩
  have HZ1 := Lib.hid (fun w => PStep.szS (.slice tp tr.length tc) tr.length ((1048576 - (lr.length : Int))) w ⟨_, _, rfl⟩ hlt (by omega) (by omega))
  simp only [if_neg hlen1] at HZ1
  have hd1 : decide ((1048576 - (lr.length : Int)) - (tr.length : Int) < 0) = false := by simp; omega
  have hxlt : tr.length ≤ 1048576 := by omega
  obtain ⟨R, hR⟩ : ∃ R : Bool, Infer.checkProof lr (x1, x2) tr = R := ⟨_, rfl⟩
  have HS := Lib.hid (fun v1 v2 B w h1 h2 hB => by have := Infer.spec_check v1 v2 lr tr (x1, x2) B w h1 h2 hB; rw [hR] at this; exact this)
  have HI := Lib.hid (fun v1 v2 B w h1 h2 hB => by have := Infer.impl_check v1 v2 lr tr (x1, x2) B w h1 h2 hB; rw [hR] at this; exact this)
  have hq : (R != R) = false := by simp
  clear hR
  clear hlen0 hlen1 hll hlt
  go_enter Try.func14, Try.ntmps14
  go_wp2_with fail
  refine (HZ0.out _).mono ?_
  rintro e w' ⟨rfl, hw⟩
  subst w'
  go_wp2_with fail
  refine (HZ1.out _).mono ?_
  rintro e w' ⟨rfl, hw⟩
  subst w'
  go_wp2_with fail
  have b1 := (Below.refl w.heap.size w).alloc (Nat.le_refl _) (.cells #[.int .i64 x1, .int .i64 x2] 78)
  have nb1 := BoxAt.new w 78 #[.int .i64 x1, .int .i64 x2]
  generalize w.alloc (.cells #[.int .i64 x1, .int .i64 x2] 78) = w1 at b1 nb1 ⊢
  have Ax1 := Lib.hid nb1
  clear nb1
  have hs1 : w.heap.size ≤ w1.heap.size := by have := b1.size; simpa using this
  have T1 := Lib.hid ((Below.refl w.heap.size w).trans (b1.mono (by first | omega | (simp; omega) | simp)))
  have zAx_1 : w.heap.size < w1.heap.size := Ax1.out.lt
  have hzAx : w.heap.size < w1.heap.size := Ax1.out.lt
  have cAx_0_1 : w1.cell? ⟨w.heap.size, 0, none⟩ = some (.int .i64 x1) := Ax1.out.cell 0
  have cAx_1_1 : w1.cell? ⟨w.heap.size, 1, none⟩ = some (.int .i64 x2) := Ax1.out.cell 1
  clear b1
  go_wp2_with fail
  go_region_held3 (fun wx => wx.cell? ⟨w.heap.size, 0, none⟩ = some (.int .i64 x1) ∧ wx.cell? ⟨w.heap.size, 1, none⟩ = some (.int .i64 x2))
    (first | exact ⟨cAx_0_1, cAx_1_1⟩ | exact keep2 (w := w1.drew) (B := w1.heap.size) b2 ⟨cAx_0_1, cAx_1_1⟩ (by show w.heap.size < _; omega) (by show w.heap.size < _; omega) | exact keep2 (w := w1.drew) (B := w1.heap.size) (b2.trans (b3.mono (b2).size)) ⟨cAx_0_1, cAx_1_1⟩ (by show w.heap.size < _; omega) (by show w.heap.size < _; omega) | exact keep2 (w := w1.drew) (B := w1.heap.size) ((b2.trans (b3.mono (b2).size)).trans (b4.mono ((b2.trans (b3.mono (b2).size))).size)) ⟨cAx_0_1, cAx_1_1⟩ (by show w.heap.size < _; omega) (by show w.heap.size < _; omega) | exact keep2 (w := w1.drew) (B := w1.heap.size) (((b2.trans (b3.mono (b2).size)).trans (b4.mono ((b2.trans (b3.mono (b2).size))).size)).trans (b5.mono (((b2.trans (b3.mono (b2).size)).trans (b4.mono ((b2.trans (b3.mono (b2).size))).size))).size)) ⟨cAx_0_1, cAx_1_1⟩ (by show w.heap.size < _; omega) (by show w.heap.size < _; omega))
    (first | (go_at_call 68; (with_reducible refine (PRule.toS _ lr w.heap.size w1.drew (HRl.out.below T1.out.drew (Nat.le_refl _)) (T1.out.drew).size hxll).mono ?_); rintro e w2 ⟨u2, rfl, o2, b2⟩; obtain ⟨p2, q2, rfl⟩ := o2.form) | (go_at_call 69; (with_reducible refine (PRule.to1 (x1, x2) _).mono ?_); rintro e w3 ⟨rfl, b3⟩) | (go_at_call 74; (with_reducible refine (PStep.toS _ tr w.heap.size w3 (HRt.out.below (T1.out.drew.trans ((b2.trans (b3.mono (b2).size)).mono T1.out.drew.size)) (Nat.le_refl _)) ((T1.out.drew.trans ((b2.trans (b3.mono (b2).size)).mono T1.out.drew.size))).size hxlt).mono ?_); rintro e w4 ⟨u4, rfl, o4, b4⟩; obtain ⟨p4, q4, rfl⟩ := o4.form) | (go_at_call 51; (with_reducible refine (HS.out _ _ w4.heap.size _ (((o2.reads.below b3 (by first | exact Nat.le_refl _ | (have hs_2 := b2.size; have hs_3 := b3.size; have hs_4 := b4.size; omega))).below b4 (by first | exact Nat.le_refl _ | (have hs_2 := b2.size; have hs_3 := b3.size; have hs_4 := b4.size; omega))).mono (by have hs_2 := b2.size; have hs_3 := b3.size; have hs_4 := b4.size; have hsz : w1.drew.heap.size = w1.heap.size := rfl; omega)) o4.reads (by have hs_2 := b2.size; have hs_3 := b3.size; have hs_4 := b4.size; have hsz : w1.drew.heap.size = w1.heap.size := rfl; omega)).mono ?_); rintro e w5 ⟨rfl, b5⟩) | fail)
  have bb := (Below.refl w1.heap.size w1).drew.trans (((b2.trans (b3.mono (b2).size)).trans (b4.mono ((b2.trans (b3.mono (b2).size))).size)).trans (b5.mono (((b2.trans (b3.mono (b2).size)).trans (b4.mono ((b2.trans (b3.mono (b2).size))).size))).size))
  clear b4 o4
  clear b3 
  clear b2 o2
  clear b5
  have b5 := bb
  clear bb
  have hs5 : w1.heap.size ≤ w5.heap.size := by have := b5.size; simpa using this
  have T5 := Lib.hid (T1.out.trans (b5.mono (by first | omega | (simp; omega) | simp)))
  have Ax5 := Lib.hid (Ax1.out.below b5 (by first | omega | (simp; omega) | simp))
  have zAx_5 : w.heap.size < w5.heap.size := Ax5.out.lt
  have cAx_0_5 : w5.cell? ⟨w.heap.size, 0, none⟩ = some (.int .i64 x1) := Ax5.out.cell 0
  have cAx_1_5 : w5.cell? ⟨w.heap.size, 1, none⟩ = some (.int .i64 x2) := Ax5.out.cell 1
  clear b5 T1 Ax1 zAx_1 cAx_0_1 cAx_1_1
  go_wp2_with fail
  refine (PRule.toS _ lr w.heap.size _ (HRl.out.below T5.out (Nat.le_refl _)) (by first | omega | (simp; omega) | simp) hxll).mono ?_
  rintro e w6 ⟨u6, rfl, o6, b6⟩
  obtain ⟨p6, q6, rfl⟩ := o6.form
  have X06 := Lib.hid (o6.mono (lo' := w5.heap.size) (by first | omega | (simp; omega) | simp) (Nat.le_refl _))
  have hs6 : w5.heap.size ≤ w6.heap.size := by have := b6.size; simpa using this
  have T6 := Lib.hid (T5.out.trans (b6.mono (by first | omega | (simp; omega) | simp)))
  have Ax6 := Lib.hid (Ax5.out.below b6 (by first | omega | (simp; omega) | simp))
  have zAx_6 : w.heap.size < w6.heap.size := Ax6.out.lt
  have cAx_0_6 : w6.cell? ⟨w.heap.size, 0, none⟩ = some (.int .i64 x1) := Ax6.out.cell 0
  have cAx_1_6 : w6.cell? ⟨w.heap.size, 1, none⟩ = some (.int .i64 x2) := Ax6.out.cell 1
  clear o6 b6 T5 Ax5 zAx_5 cAx_0_5 cAx_1_5
  go_wp2_with fail
  refine (PStep.toS _ tr w.heap.size _ (HRt.out.below T6.out (Nat.le_refl _)) (by first | omega | (simp; omega) | simp) hxlt).mono ?_
  rintro e w7 ⟨u7, rfl, o7, b7⟩
  obtain ⟨p7, q7, rfl⟩ := o7.form
  have X27 := Lib.hid (o7.mono (lo' := w6.heap.size) (by first | omega | (simp; omega) | simp) (Nat.le_refl _))
  have hs7 : w6.heap.size ≤ w7.heap.size := by have := b7.size; simpa using this
  have T7 := Lib.hid (T6.out.trans (b7.mono (by first | omega | (simp; omega) | simp)))
  have Ax7 := Lib.hid (Ax6.out.below b7 (by first | omega | (simp; omega) | simp))
  have X07 := Lib.hid (X06.out.below b7 (by first | omega | (simp; omega) | simp))
  have zAx_7 : w.heap.size < w7.heap.size := Ax7.out.lt
  have cAx_0_7 : w7.cell? ⟨w.heap.size, 0, none⟩ = some (.int .i64 x1) := Ax7.out.cell 0
  have cAx_1_7 : w7.cell? ⟨w.heap.size, 1, none⟩ = some (.int .i64 x2) := Ax7.out.cell 1
  clear o7 b7 T6 Ax6 X06 zAx_6 cAx_0_6 cAx_1_6
  go_wp2_with fail
  refine (PRule.to1 (x1, x2) _).mono ?_
  rintro e w8 ⟨rfl, b8⟩
  have hs8 : w7.heap.size ≤ w8.heap.size := by have := b8.size; simpa using this
  have T8 := Lib.hid (T7.out.trans (b8.mono (by first | omega | (simp; omega) | simp)))
  have Ax8 := Lib.hid (Ax7.out.below b8 (by first | omega | (simp; omega) | simp))
  have X08 := Lib.hid (X07.out.below b8 (by first | omega | (simp; omega) | simp))
  have X28 := Lib.hid (X27.out.below b8 (by first | omega | (simp; omega) | simp))
  have zAx_8 : w.heap.size < w8.heap.size := Ax8.out.lt
  have cAx_0_8 : w8.cell? ⟨w.heap.size, 0, none⟩ = some (.int .i64 x1) := Ax8.out.cell 0
  have cAx_1_8 : w8.cell? ⟨w.heap.size, 1, none⟩ = some (.int .i64 x2) := Ax8.out.cell 1
  clear b8 T7 Ax7 X07 X27 zAx_7 cAx_0_7 cAx_1_7
  go_wp2_with fail
  refine (HI.out _ _ w7.heap.size _ (X08.out.reads.mono (by first | omega | (simp; omega) | simp)) X28.out.reads (by first | omega | (simp; omega) | simp)).mono ?_
  rintro e w9 ⟨rfl, b9⟩
  have hs9 : w8.heap.size ≤ w9.heap.size := by have := b9.size; simpa using this
  have T9 := Lib.hid (T8.out.trans (b9.mono (by first | omega | (simp; omega) | simp)))
  have Ax9 := Lib.hid (Ax8.out.below b9 (by first | omega | (simp; omega) | simp))
  have X09 := Lib.hid (X08.out.below b9 (by first | omega | (simp; omega) | simp))
  have X29 := Lib.hid (X28.out.below b9 (by first | omega | (simp; omega) | simp))
  have zAx_9 : w.heap.size < w9.heap.size := Ax9.out.lt
  have cAx_0_9 : w9.cell? ⟨w.heap.size, 0, none⟩ = some (.int .i64 x1) := Ax9.out.cell 0
  have cAx_1_9 : w9.cell? ⟨w.heap.size, 1, none⟩ = some (.int .i64 x2) := Ax9.out.cell 1
  clear b9 T8 Ax8 X08 X28 zAx_8 cAx_0_8 cAx_1_8
  go_wp2_with fail
  refine (PRule.toS _ lr w.heap.size _ (HRl.out.below T9.out (Nat.le_refl _)) (by first | omega | (simp; omega) | simp) hxll).mono ?_
  rintro e w10 ⟨u10, rfl, o10, b10⟩
  obtain ⟨p10, q10, rfl⟩ := o10.form
  have Q010 := Lib.hid (o10.mono (lo' := w9.heap.size) (by first | omega | (simp; omega) | simp) (Nat.le_refl _))
  have hs10 : w9.heap.size ≤ w10.heap.size := by have := b10.size; simpa using this
  have T10 := Lib.hid (T9.out.trans (b10.mono (by first | omega | (simp; omega) | simp)))
  have Ax10 := Lib.hid (Ax9.out.below b10 (by first | omega | (simp; omega) | simp))
  have X010 := Lib.hid (X09.out.below b10 (by first | omega | (simp; omega) | simp))
  have X210 := Lib.hid (X29.out.below b10 (by first | omega | (simp; omega) | simp))
  have zAx_10 : w.heap.size < w10.heap.size := Ax10.out.lt
  have cAx_0_10 : w10.cell? ⟨w.heap.size, 0, none⟩ = some (.int .i64 x1) := Ax10.out.cell 0
  have cAx_1_10 : w10.cell? ⟨w.heap.size, 1, none⟩ = some (.int .i64 x2) := Ax10.out.cell 1
  clear o10 b10 T9 Ax9 X09 X29 zAx_9 cAx_0_9 cAx_1_9
  go_wp2_with fail
  refine (PRule.eqS _ _ lr lr w6.heap.size w10.heap.size _ X010.out.reads Q010.out.reads (by first | omega | (simp; omega) | simp) (by first | omega | (simp; omega) | simp)).mono ?_
  rintro e w11 ⟨rfl, b11⟩
  have hs11 : w10.heap.size ≤ w11.heap.size := by have := b11.size; simpa using this
  have T11 := Lib.hid (T10.out.trans (b11.mono (by first | omega | (simp; omega) | simp)))
  have Ax11 := Lib.hid (Ax10.out.below b11 (by first | omega | (simp; omega) | simp))
  have X011 := Lib.hid (X010.out.below b11 (by first | omega | (simp; omega) | simp))
  have X211 := Lib.hid (X210.out.below b11 (by first | omega | (simp; omega) | simp))
  have Q011 := Lib.hid (Q010.out.below b11 (by first | omega | (simp; omega) | simp))
  have zAx_11 : w.heap.size < w11.heap.size := Ax11.out.lt
  have cAx_0_11 : w11.cell? ⟨w.heap.size, 0, none⟩ = some (.int .i64 x1) := Ax11.out.cell 0
  have cAx_1_11 : w11.cell? ⟨w.heap.size, 1, none⟩ = some (.int .i64 x2) := Ax11.out.cell 1
  clear b11 T10 Ax10 X010 X210 Q010 zAx_10 cAx_0_10 cAx_1_10
  clear Q011
  have hqq0 : (lr == lr) = true := by simp
  go_wp2_with fail
  refine (PStep.toS _ tr w.heap.size _ (HRt.out.below T11.out (Nat.le_refl _)) (by first | omega | (simp; omega) | simp) hxlt).mono ?_
  rintro e w12 ⟨u12, rfl, o12, b12⟩
  obtain ⟨p12, q12, rfl⟩ := o12.form
  have Q212 := Lib.hid (o12.mono (lo' := w11.heap.size) (by first | omega | (simp; omega) | simp) (Nat.le_refl _))
  have hs12 : w11.heap.size ≤ w12.heap.size := by have := b12.size; simpa using this
  have T12 := Lib.hid (T11.out.trans (b12.mono (by first | omega | (simp; omega) | simp)))
  have Ax12 := Lib.hid (Ax11.out.below b12 (by first | omega | (simp; omega) | simp))
  have X012 := Lib.hid (X011.out.below b12 (by first | omega | (simp; omega) | simp))
  have X212 := Lib.hid (X211.out.below b12 (by first | omega | (simp; omega) | simp))
  have zAx_12 : w.heap.size < w12.heap.size := Ax12.out.lt
  have cAx_0_12 : w12.cell? ⟨w.heap.size, 0, none⟩ = some (.int .i64 x1) := Ax12.out.cell 0
  have cAx_1_12 : w12.cell? ⟨w.heap.size, 1, none⟩ = some (.int .i64 x2) := Ax12.out.cell 1
  clear o12 b12 T11 Ax11 X011 X211 zAx_11 cAx_0_11 cAx_1_11
  go_wp2_with fail
  refine (PStep.eqS _ _ tr tr w7.heap.size w12.heap.size _ X212.out.reads Q212.out.reads (by first | omega | (simp; omega) | simp) (by first | omega | (simp; omega) | simp)).mono ?_
  rintro e w13 ⟨rfl, b13⟩
  have hs13 : w12.heap.size ≤ w13.heap.size := by have := b13.size; simpa using this
  have T13 := Lib.hid (T12.out.trans (b13.mono (by first | omega | (simp; omega) | simp)))
  have Ax13 := Lib.hid (Ax12.out.below b13 (by first | omega | (simp; omega) | simp))
  have X013 := Lib.hid (X012.out.below b13 (by first | omega | (simp; omega) | simp))
  have X213 := Lib.hid (X212.out.below b13 (by first | omega | (simp; omega) | simp))
  have Q213 := Lib.hid (Q212.out.below b13 (by first | omega | (simp; omega) | simp))
  have zAx_13 : w.heap.size < w13.heap.size := Ax13.out.lt
  have cAx_0_13 : w13.cell? ⟨w.heap.size, 0, none⟩ = some (.int .i64 x1) := Ax13.out.cell 0
  have cAx_1_13 : w13.cell? ⟨w.heap.size, 1, none⟩ = some (.int .i64 x2) := Ax13.out.cell 1
  clear b13 T12 Ax12 X012 X212 Q212 zAx_12 cAx_0_12 cAx_1_12
  clear Q213
  have hqq2 : (tr == tr) = true := by simp
  go_wp2_with fail
  go_ret
  exact ⟨rfl, T13.out⟩

set_option maxRecDepth 100000 in
theorem contract (H : Type) (enc : TypeId × Value → H) (W : World) (base : Nat) (args : Array Value) (ds gs : List (DataW H)) (before : List MemPlace)
    (hval : ∀ (j : Nat) t v, Try.f14.params[j]? = some t → args[j]? = some v → Value.okWide Try.prog W .any base t v)
    (hW : DataW.Whole enc Try.prog Try.f14.params.toList Rows.fnExactCheckProofSpec.vars false W args.toList ds gs before) :
    Calls Try.prog 14 args W fun e W' => ∃ v, e = .returned v ∧ Rows.fnExactCheckProofSpec.post enc Try.prog Try.f14 false true false false W args v W' := by
  have hW' := hW
  obtain ⟨p, q, hA0, hV, rfl, hfz, hnd⟩ := hW
  have hA : DataW.TrodAll enc Try.prog W 0 (fun _ => true) true Try.f14.params.toList args.toList ds p := hA0
  rw [Try.params14] at hA hval
  obtain ⟨v0, vs0, d0, ds0, p0, q0, hargs, rfl, rfl, h0, r0⟩ := trodAll_cons hA
  obtain ⟨v1, vs1, d1, ds1, p1, q1, rfl, rfl, rfl, h1, r1⟩ := trodAll_cons r0
  obtain ⟨v2, vs2, d2, ds2, p2, q2, rfl, rfl, rfl, h2, r2⟩ := trodAll_cons r1
  obtain ⟨rfl, rfl, rfl⟩ := trodAll_nil r2
  obtain rfl : args = #[v0, v1, v2] := by cases args; simp_all
  obtain ⟨xs0, hr0⟩ : ∃ xs : List PInt, ReadsP W W.heap.size v0 xs := by
    obtain ⟨a0, len, cap, rfl⟩ := okWide_slice Try.underlying70 (hval 0 70 v0 rfl rfl)
    obtain ⟨fuel, hf⟩ := h0
    rcases Deep.open_slice_pairs Try.underlying70 Try.underlying78 (by kernel_rfl) rfl rfl (by kernel_rfl) (by kernel_rfl) hf with ⟨hcs, -⟩ | ⟨a, len', cap', m, n, V0, V1, D0, D1, P0, P1, hcs, -, hl, hm, hmm, -, hx⟩
    · simp [Value.cells] at hcs
      obtain ⟨rfl, rfl, rfl⟩ := hcs
      exact ⟨[], readsP_nil _ _⟩
    · simp [Value.cells] at hcs
      obtain ⟨rfl, rfl, rfl⟩ := hcs
      simp only [if_true] at hmm
      subst hmm
      exact readsP_of hl hm fun i hi => by
        obtain ⟨h0, h1, h2, h3⟩ := hx i hi
        obtain ⟨x, hx0, -, -⟩ := DataW.trod_int Try.underlying3 h2
        obtain ⟨y, hy0, -, -⟩ := DataW.trod_int Try.underlying3 h3
        refine ⟨x, y, ?_, ?_⟩
        · rw [h0]; simpa using hx0
        · rw [h1]; simpa using hy0
  obtain ⟨x1, y1, rfl⟩ : ∃ x y : Int, v1 = .agg #[.int .i64 x, .int .i64 y] := by
    obtain ⟨c0, c1, y0, y1, n, rfl, -, -, g0, g1⟩ := Joins.open_agg2 Try.underlying78 (by kernel_rfl) (by kernel_rfl) (hval 1 78 v1 rfl rfl) h1
    obtain ⟨a, ha, -, -⟩ := DataW.trod_int Try.underlying3 g0
    obtain rfl : c0 = .int .i64 a := by simpa using ha
    obtain ⟨b, hb, -, -⟩ := DataW.trod_int Try.underlying3 g1
    obtain rfl : c1 = .int .i64 b := by simpa using hb
    exact ⟨a, b, rfl⟩
  obtain ⟨xs2, hr2⟩ : ∃ xs : List PInt, ReadsP W W.heap.size v2 xs := by
    obtain ⟨a0, len, cap, rfl⟩ := okWide_slice Try.underlying82 (hval 2 82 v2 rfl rfl)
    obtain ⟨fuel, hf⟩ := h2
    rcases Deep.open_slice_pairs Try.underlying82 Try.underlying118 (by kernel_rfl) rfl rfl (by kernel_rfl) (by kernel_rfl) hf with ⟨hcs, -⟩ | ⟨a, len', cap', m, n, V0, V1, D0, D1, P0, P1, hcs, -, hl, hm, hmm, -, hx⟩
    · simp [Value.cells] at hcs
      obtain ⟨rfl, rfl, rfl⟩ := hcs
      exact ⟨[], readsP_nil _ _⟩
    · simp [Value.cells] at hcs
      obtain ⟨rfl, rfl, rfl⟩ := hcs
      simp only [if_true] at hmm
      subst hmm
      exact readsP_of hl hm fun i hi => by
        obtain ⟨h0, h1, h2, h3⟩ := hx i hi
        obtain ⟨x, hx0, -, -⟩ := DataW.trod_int Try.underlying3 h2
        obtain ⟨y, hy0, -, -⟩ := DataW.trod_int Try.underlying3 h3
        refine ⟨x, y, ?_, ?_⟩
        · rw [h0]; simpa using hx0
        · rw [h1]; simpa using hy0
  clear hA0
  refine (walk v0 xs0 x1 y1 v2 xs2 W hr0 hr2).mono fun e W' ⟨he, hg⟩ => ?_
  subst he
  exact ⟨_, rfl, Law.post_true (tb := 4) (kids_rows (by kernel_rfl) (by kernel_rfl)) (by unfold Law.Full; kernel_rfl) hW' rfl (by rw [Try.params14]; decide +kernel) Try.underlying4 (by kernel_rfl) rfl hg⟩

noncomputable def start (os : Os) : World := World.holding Try.prog os ⟨#[], #[], []⟩
theorem reads (os : Os) {H : Type} (enc : TypeId × Value → H) : ∃ places, DataW.whole enc Try.prog ((start os).forCall (fun _ _ => 0) ⟨#[], #[.slice none 0 0, .agg #[.int .i64 0, .int .i64 0], .slice none 0 0], []⟩).memory Try.f14.params.toList Rows.fnExactCheckProofSpec.vars false (#[.slice none 0 0, .agg #[.int .i64 0, .int .i64 0], .slice none 0 0] : Array Value).toList 8 = some ([.nil, .agg [.lit (.int .i64 0), .lit (.int .i64 0)], .nil], [], places) :=
  ⟨[], by kernel_rfl⟩
theorem own : ownKnob Try.prog.godebug = none := by kernel_rfl

set_option maxRecDepth 100000 in
theorem lifted (os : Os) (started : os.Started) (H : Type) (enc : TypeId × Value → H) (F : Stop.Interp) :
    ReturnsInHanded {} Try.checked os 14 .any ((OpenSpec.ofChange Rows.fnExactCheckProofSpec).preRow enc Try.prog Try.f14 Rows.fnExactCheckProofRow.domain false Rows.fnExactCheckProofRow.laid) (((OpenSpec.ofChange Rows.fnExactCheckProofSpec).at F).post enc Try.prog Try.f14 false true false false) := by
  obtain ⟨places, hx⟩ := reads os enc
  refine returnsInHanded_of_row (C := Try.checked) (s := OpenSpec.ofChange Rows.fnExactCheckProofSpec) own started (by kernel_rfl) Try.func14
    (witness_row_at (enc := enc) (C := Try.checked) false (start os) #[.slice none 0 0, .agg #[.int .i64 0, .int .i64 0], .slice none 0 0] rfl (by kernel_rfl) (by kernel_rfl) (by kernel_rfl)
      (OpenSpec.preRow_of_cond 8 hx (by kernel_rfl) (fun k hk => by cases hk) (by kernel_rfl) (laidMet_of_run' 8 (by kernel_rfl) (by kernel_rfl)))) ?_
  intro W base args ds gs before hval hW _ _ _ _ _ _
  exact contract H enc W base args ds gs before hval hW

theorem said : Rows.FnExactCheckProofSaid :=
  OpenClaim.holds_of_cond 14 Try.f14 rfl rfl rfl rfl rfl rfl rfl ⟨rfl, rfl, rfl, rfl, rfl⟩ rfl rfl rfl rfl rfl (by kernel_rfl) Try.func14 (by kernel_rfl)
    (of_decide_eq_true (by kernel_rfl)) (by unfold Func.isWrapper; first | (rw [if_pos (by decide +kernel)]; kernel_rfl) | (rw [if_neg (by decide +kernel)]; exact ⟨rfl, rfl⟩))
    (fun os started H enc _ F => by rw [OpenClaim.pre_eq_preRow]; exact lifted os started H enc F)
end Go.Proofs.Ytgkoggajdhibdaa.FnExactCheckProof
