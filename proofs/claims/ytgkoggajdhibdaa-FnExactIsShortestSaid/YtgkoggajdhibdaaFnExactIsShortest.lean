/-
  For all arguments the law FnExactIsShortest returns true: the function of the program returns what the function of the model returns, in memory of its own, and leaves its arguments as they are. No condition.
-/
import Derived.Test.YtgkoggajdhibdaaRows
import Derived.Test.YtgkoggajdhibdaaLaw
import Derived.Test.YtgkoggajdhibdaaDual
import Derived.Test.YtgkoggajdhibdaaStemW
import Derived.Test.YtgkoggajdhibdaaStemI
import Derived.Deep.RegionHeld3
import Derived.Lib.SmallJoins
import Derived.Deep.SlicePairs
import Derived.WalkKit
import Derived.ProofKit
import Derived.OpenShut
import Derived.Deep.DeepHandedRow
import Derived.LaidMore
import Derived.Stop.LaidErr
import Derived.ChangeMaps5
import Derived.Outline
import Derived.LoopTactic
import Derived.Lib.Hide
import Derived.Below
namespace Go.Proofs.Ytgkoggajdhibdaa.FnExactIsShortest
open Go Go.ChangeShapes Go.WideShapes Go.ChangeAt Go.ChangeMaps Go.RowKit Mem Ctx

theorem asInts {xs : List Int} {w : World} {e : Ending} {w' : World} (h : ∃ u, e = .returned u ∧ Mem.Own 3 w' w.heap.size w'.heap.size u (ints xs) ∧ Below w.heap.size w w') :
    ∃ p c, e = .returned (.slice p xs.length c) ∧ Mem.Own 3 w' w.heap.size w'.heap.size (.slice p xs.length c) (ints xs) ∧ Below w.heap.size w w' := by
  obtain ⟨u, he, o, b⟩ := h
  obtain ⟨p, c, rfl⟩ := own_form o
  exact ⟨p, c, he, o, b⟩
theorem boxApart {w w' : World} {g lo hi : Nat} {t : TypeId} {cs : Array Value} (h : BoxAt w g t cs) (ha : Apart lo hi w w') (hg : g < lo ∨ hi ≤ g) : BoxAt w' g t cs := (ha.block g h.lt hg).trans h
theorem ownBoxed {e : TypeId} {w : World} {lo hi : Nat} {v : Value} {cs : List Value} (h : Mem.Own e w lo hi v cs) (hh : hi ≤ w.heap.size) (o : Obj) : Mem.Own e (w.alloc o) lo hi v cs := h.below (B := w.heap.size) ((Below.refl _ _).alloc (Nat.le_refl _) o) hh
theorem keep4 {w w' : World} {B : Nat} {p q r s : Addr} {x y z t : Value} (hb : Below B w w') (h : w.cell? p = some x ∧ w.cell? q = some y ∧ w.cell? r = some z ∧ w.cell? s = some t) (hp : p.block < B) (hq : q.block < B) (hr : r.block < B) (hs : s.block < B) :
    w'.cell? p = some x ∧ w'.cell? q = some y ∧ w'.cell? r = some z ∧ w'.cell? s = some t :=
  ⟨(hb.cell hp).trans h.1, (hb.cell hq).trans h.2.1, (hb.cell hr).trans h.2.2.1, (hb.cell hs).trans h.2.2.2⟩
theorem asCtx {x : Option (Int × List Int)} {n : Int} {xs : List Int} {ok : Bool} (hn : (x.getD (0, [])).1 = n) (hx : (x.getD (0, [])).2 = xs) (ho : x.isSome = ok) {w : World} {e : Ending} {w' : World} (h : CtxRes x w e w') :
    ∃ p c, e = .returned (.tuple #[ctx n (.slice p xs.length c), .bool ok]) ∧ Mem.Own 3 w' w.heap.size w'.heap.size (.slice p xs.length c) (ints xs) ∧ Below w.heap.size w w' := by
  subst hn hx ho
  obtain ⟨u, he, o, b⟩ := h
  obtain ⟨p, c, rfl⟩ := own_form o
  exact ⟨p, c, he, o, b⟩


theorem keep2 {w w' : World} {B : Nat} {p q : Addr} {x y : Value} (hb : Below B w w') (h : w.cell? p = some x ∧ w.cell? q = some y) (hp : p.block < B) (hq : q.block < B) : w'.cell? p = some x ∧ w'.cell? q = some y := ⟨(hb.cell hp).trans h.1, (hb.cell hq).trans h.2⟩
theorem boxedP {w : World} {B : Nat} {v : Value} {l : List PInt} (h : ReadsP w B v l) (hB : B ≤ w.heap.size) (o : Obj) : ReadsP (w.alloc o) B v l := h.below ((Below.refl _ _).alloc (Nat.le_refl _) o) hB
theorem ownBoxedP {e : TypeId} {w : World} {lo hi : Nat} {v : Value} {l : List PInt} (h : OwnP e w lo hi v l) (hh : hi ≤ w.heap.size) (o : Obj) : OwnP e (w.alloc o) lo hi v l := h.below (B := w.heap.size) ((Below.refl _ _).alloc (Nat.le_refl _) o) hh
theorem readsP_nil (w : World) (B : Nat) : ReadsP w B (.slice none 0 0) [] := ⟨Nat.zero_le _, none, 0, rfl, fun h => absurd rfl h⟩
/-- A slice of pairs that came in can be read. -/
theorem readsP_of {w : World} {a : Addr} {len cap : Nat} (hl : len ≤ cap) (hm : cap ≤ maxLen) (hx : ∀ i, i < cap → ∃ x y : Int, w.cell? (a.add (i * 2)) = some (.int .i64 x) ∧ w.cell? (a.add (i * 2 + 1)) = some (.int .i64 y)) :
    ∃ l : List PInt, ReadsP w w.heap.size (.slice (some a) len cap) l := by
  obtain ⟨f, hf⟩ : ∃ f : Nat → PInt, ∀ i, i < cap → w.cell? (a.add (i * 2)) = some (.int .i64 (f i).1) ∧ w.cell? (a.add (i * 2 + 1)) = some (.int .i64 (f i).2) :=
    ⟨fun i => if h : i < cap then (Classical.choose (hx i h), Classical.choose (Classical.choose_spec (hx i h))) else (0, 0), fun i hi => by simp only [dif_pos hi]; exact Classical.choose_spec (Classical.choose_spec (hx i hi))⟩
  have hlen : ((List.range len).map f).length = len := by simp
  refine ⟨(List.range len).map f, by omega, some a, cap, by rw [hlen], fun hne => ?_⟩
  have h0 : 0 < len := by
    rcases Nat.eq_zero_or_pos len with h | h
    · subst h; exact absurd rfl hne
    · exact h
  have h1 := (hf 0 (by omega)).1
  have hspot : a = ⟨a.block, a.off, none⟩ := by
    obtain ⟨b, o, sp⟩ := a
    cases sp with
    | none => rfl
    | some x =>
      simp only [Addr.add, Nat.zero_mul, if_pos, World.cell?] at h1
      split at h1
      · simp at h1
      · cases h1
  have hb : a.block < w.heap.size := by
    simp only [Addr.add, Nat.zero_mul, if_pos, World.cell?] at h1
    split at h1
    · rename_i h; exact (Array.getElem?_eq_some_iff.1 h).1
    · cases h1
  have hadd : ∀ j, a.add j = ⟨a.block, a.off + j, none⟩ := fun j => by
    rw [hspot]
    unfold Addr.add
    split
    · rename_i h; subst h; rfl
    · rfl
  refine ⟨a.block, a.off, by rw [← hspot], hb, fun j hj => ?_⟩
  rw [hlen] at hj
  have h2 := hf j (by omega)
  rw [hadd, hadd] at h2
  have e : ((List.range len).map f).getD j (0, 0) = f j := by simp [List.getD, hj]
  rw [e]
  exact ⟨h2.1, by rw [Nat.add_assoc]; exact h2.2⟩
set_option maxRecDepth 100000 in
set_option maxHeartbeats 4000000 in
theorem walk (c : Int) (cv : Value) (cr : List Int) (lv : Value) (lr : List PInt) (w : World) (hc : Reads w w.heap.size cv (ints cr)) (hl : ReadsP w w.heap.size lv lr) :
    Calls Try.prog 8 #[ctx c cv, lv] w fun e w' => e = .returned (.bool true) ∧ Below w.heap.size w w' := by
  have hlc : cr.length ≤ 9223372036854775807 := by have := hc.1; unfold maxLen at this; simp [ints] at this; omega
  obtain ⟨cp, cc, rfl⟩ := reads_form hc
  have HRc := Lib.hid hc
  clear hc
  have hll : lr.length ≤ 9223372036854775807 := by have := hl.1; unfold maxLen at this; omega
  obtain ⟨lp, lc, rfl⟩ := hl.form
  have HRl := Lib.hid hl
  clear hl
  by_cases hlen0 : 1048576 < (cr.length : Int)
  · have HZ0 := Lib.hid (fun w => szCtx c (.slice cp cr.length cc) cr.length 1048576 w ⟨_, _, rfl⟩ hlc (by omega) (by omega))
    simp only [if_pos hlen0] at HZ0
    go_enter Try.func8, Try.ntmps8
    go_wp2_with fail
    refine (HZ0.out _).mono ?_
    rintro e w1 ⟨rfl, b1⟩
    have hs1 : w.heap.size + 1 ≤ w1.heap.size := by have := b1.size; simpa using this
    have T1 := Lib.hid (((Below.refl w.heap.size w).alloc (by first | omega | (simp; omega) | simp) (.cells #[.int .i64 c, .slice cp cr.length cc] 64)).trans (b1.mono (by first | omega | (simp; omega) | simp)))
    have Ac1 := Lib.hid ((show BoxAt _ (w.heap.size) _ _ by have := (BoxAt.new w 64 #[.int .i64 c, .slice cp cr.length cc]); simpa using this).below b1 (by first | omega | (simp; omega) | simp))
    have zAc_1 : w.heap.size < w1.heap.size := Ac1.out.lt
    have cAc_0_1 : w1.cell? ⟨w.heap.size, 0, none⟩ = some (.int .i64 c) := Ac1.out.cell 0
    have cAc_1_1 : w1.cell? ⟨w.heap.size, 1, none⟩ = some (.slice cp cr.length cc) := Ac1.out.cell 1
    clear b1
    go_wp2_with fail
    go_ret
    exact ⟨rfl, T1.out⟩
  have HZ0 := Lib.hid (fun w => szCtx c (.slice cp cr.length cc) cr.length 1048576 w ⟨_, _, rfl⟩ hlc (by omega) (by omega))
  simp only [if_neg hlen0] at HZ0
  have hd0 : decide (1048576 - (cr.length : Int) < 0) = false := by simp; omega
  have hxlc : cr.length ≤ 1048576 := by omega
  by_cases hlen1 : (1048576 - (cr.length : Int)) < (lr.length : Int)
  · have HZ1 := Lib.hid (fun w => PRule.szS (.slice lp lr.length lc) lr.length ((1048576 - (cr.length : Int))) w ⟨_, _, rfl⟩ hll (by omega) (by omega))
    simp only [if_pos hlen1] at HZ1
    go_enter Try.func8, Try.ntmps8
    go_wp2_with fail
    refine (HZ0.out _).mono ?_
    rintro e w1 ⟨rfl, b1⟩
    have hs1 : w.heap.size + 1 ≤ w1.heap.size := by have := b1.size; simpa using this
    have T1 := Lib.hid (((Below.refl w.heap.size w).alloc (by first | omega | (simp; omega) | simp) (.cells #[.int .i64 c, .slice cp cr.length cc] 64)).trans (b1.mono (by first | omega | (simp; omega) | simp)))
    have Ac1 := Lib.hid ((show BoxAt _ (w.heap.size) _ _ by have := (BoxAt.new w 64 #[.int .i64 c, .slice cp cr.length cc]); simpa using this).below b1 (by first | omega | (simp; omega) | simp))
    have zAc_1 : w.heap.size < w1.heap.size := Ac1.out.lt
    have cAc_0_1 : w1.cell? ⟨w.heap.size, 0, none⟩ = some (.int .i64 c) := Ac1.out.cell 0
    have cAc_1_1 : w1.cell? ⟨w.heap.size, 1, none⟩ = some (.slice cp cr.length cc) := Ac1.out.cell 1
    clear b1
    go_wp2_with fail
    refine (HZ1.out _).mono ?_
    rintro e w' ⟨rfl, hw⟩
    subst w'
    go_wp2_with fail
    go_ret
    exact ⟨rfl, T1.out⟩
  have HZ1 := Lib.hid (fun w => PRule.szS (.slice lp lr.length lc) lr.length ((1048576 - (cr.length : Int))) w ⟨_, _, rfl⟩ hll (by omega) (by omega))
  simp only [if_neg hlen1] at HZ1
  have hd1 : decide ((1048576 - (cr.length : Int)) - (lr.length : Int) < 0) = false := by simp; omega
  have hxll : lr.length ≤ 1048576 := by omega
  obtain ⟨R, hR⟩ : ∃ R : Bool, Stem.isShortest c cr lr = R := ⟨_, rfl⟩
  have HS := Lib.hid (fun v vl B w h h2 hB => by have := Stem.spec_short c v vl cr lr B w h h2 hB; rw [hR] at this; exact this)
  have HI := Lib.hid (fun v vl B w h h2 hB => by have := Stem.impl_short c v vl cr lr B w h h2 hB; rw [hR] at this; exact this)
  have hq : (R != R) = false := by simp
  clear hR
  clear hlen0 hlen1 hlc hll
  go_enter Try.func8, Try.ntmps8
  go_wp2_with fail
  refine (HZ0.out _).mono ?_
  rintro e w1 ⟨rfl, b1⟩
  have hs1 : w.heap.size + 1 ≤ w1.heap.size := by have := b1.size; simpa using this
  have T1 := Lib.hid (((Below.refl w.heap.size w).alloc (by first | omega | (simp; omega) | simp) (.cells #[.int .i64 c, .slice cp cr.length cc] 64)).trans (b1.mono (by first | omega | (simp; omega) | simp)))
  have Ac1 := Lib.hid ((show BoxAt _ (w.heap.size) _ _ by have := (BoxAt.new w 64 #[.int .i64 c, .slice cp cr.length cc]); simpa using this).below b1 (by first | omega | (simp; omega) | simp))
  have zAc_1 : w.heap.size < w1.heap.size := Ac1.out.lt
  have cAc_0_1 : w1.cell? ⟨w.heap.size, 0, none⟩ = some (.int .i64 c) := Ac1.out.cell 0
  have cAc_1_1 : w1.cell? ⟨w.heap.size, 1, none⟩ = some (.slice cp cr.length cc) := Ac1.out.cell 1
  clear b1
  go_wp2_with fail
  refine (HZ1.out _).mono ?_
  rintro e w' ⟨rfl, hw⟩
  subst w'
  go_wp2_with fail
  refine (toCtx c _ cr w.heap.size _ (HRc.out.below T1.out (Nat.le_refl _)) (by first | omega | (simp; omega) | simp) hxlc).mono ?_
  rintro e w2 ⟨u2, rfl, o2, b2⟩
  obtain ⟨p2, q2, rfl⟩ := own_form o2
  have P02 := Lib.hid (o2.mono (lo' := w1.heap.size) (by first | omega | (simp; omega) | simp) (Nat.le_refl _))
  have hs2 : w1.heap.size ≤ w2.heap.size := by have := b2.size; simpa using this
  have T2 := Lib.hid (T1.out.trans (b2.mono (by first | omega | (simp; omega) | simp)))
  have Ac2 := Lib.hid (Ac1.out.below b2 (by first | omega | (simp; omega) | simp))
  have zAc_2 : w.heap.size < w2.heap.size := Ac2.out.lt
  have cAc_0_2 : w2.cell? ⟨w.heap.size, 0, none⟩ = some (.int .i64 c) := Ac2.out.cell 0
  have cAc_1_2 : w2.cell? ⟨w.heap.size, 1, none⟩ = some (.slice cp cr.length cc) := Ac2.out.cell 1
  clear o2 b2 T1 Ac1 zAc_1 cAc_0_1 cAc_1_1
  go_wp2_with fail
  refine (PRule.toS _ lr w.heap.size _ (HRl.out.below T2.out (Nat.le_refl _)) (by first | omega | (simp; omega) | simp) hxll).mono ?_
  rintro e w3 ⟨u3, rfl, o3, b3⟩
  obtain ⟨p3, q3, rfl⟩ := o3.form
  have P13 := Lib.hid (o3.mono (lo' := w2.heap.size) (by first | omega | (simp; omega) | simp) (Nat.le_refl _))
  have hs3 : w2.heap.size ≤ w3.heap.size := by have := b3.size; simpa using this
  have T3 := Lib.hid (T2.out.trans (b3.mono (by first | omega | (simp; omega) | simp)))
  have Ac3 := Lib.hid (Ac2.out.below b3 (by first | omega | (simp; omega) | simp))
  have P03 := Lib.hid (P02.out.below b3 (by first | omega | (simp; omega) | simp))
  have zAc_3 : w.heap.size < w3.heap.size := Ac3.out.lt
  have cAc_0_3 : w3.cell? ⟨w.heap.size, 0, none⟩ = some (.int .i64 c) := Ac3.out.cell 0
  have cAc_1_3 : w3.cell? ⟨w.heap.size, 1, none⟩ = some (.slice cp cr.length cc) := Ac3.out.cell 1
  clear o3 b3 T2 Ac2 P02 zAc_2 cAc_0_2 cAc_1_2
  go_wp2_with fail
  refine (HS.out _ _ w3.heap.size _ (P03.out.reads.mono (by first | omega | (simp; omega) | simp)) P13.out.reads (by first | omega | (simp; omega) | simp)).mono ?_
  rintro e w4 ⟨rfl, b4⟩
  have hs4 : w3.heap.size ≤ w4.heap.size := by have := b4.size; simpa using this
  have T4 := Lib.hid (T3.out.trans (b4.mono (by first | omega | (simp; omega) | simp)))
  have Ac4 := Lib.hid (Ac3.out.below b4 (by first | omega | (simp; omega) | simp))
  have P04 := Lib.hid (P03.out.below b4 (by first | omega | (simp; omega) | simp))
  have P14 := Lib.hid (P13.out.below b4 (by first | omega | (simp; omega) | simp))
  have zAc_4 : w.heap.size < w4.heap.size := Ac4.out.lt
  have cAc_0_4 : w4.cell? ⟨w.heap.size, 0, none⟩ = some (.int .i64 c) := Ac4.out.cell 0
  have cAc_1_4 : w4.cell? ⟨w.heap.size, 1, none⟩ = some (.slice cp cr.length cc) := Ac4.out.cell 1
  clear b4 T3 Ac3 P03 P13 zAc_3 cAc_0_3 cAc_1_3
  clear P04
  clear P14
  go_wp2_with fail
  refine (toCtx c _ cr w.heap.size _ (HRc.out.below T4.out (Nat.le_refl _)) (by first | omega | (simp; omega) | simp) hxlc).mono ?_
  rintro e w5 ⟨u5, rfl, o5, b5⟩
  obtain ⟨p5, q5, rfl⟩ := own_form o5
  have X05 := Lib.hid (o5.mono (lo' := w4.heap.size) (by first | omega | (simp; omega) | simp) (Nat.le_refl _))
  have hs5 : w4.heap.size ≤ w5.heap.size := by have := b5.size; simpa using this
  have T5 := Lib.hid (T4.out.trans (b5.mono (by first | omega | (simp; omega) | simp)))
  have Ac5 := Lib.hid (Ac4.out.below b5 (by first | omega | (simp; omega) | simp))
  have zAc_5 : w.heap.size < w5.heap.size := Ac5.out.lt
  have cAc_0_5 : w5.cell? ⟨w.heap.size, 0, none⟩ = some (.int .i64 c) := Ac5.out.cell 0
  have cAc_1_5 : w5.cell? ⟨w.heap.size, 1, none⟩ = some (.slice cp cr.length cc) := Ac5.out.cell 1
  clear o5 b5 T4 Ac4 zAc_4 cAc_0_4 cAc_1_4
  go_wp2_with fail
  refine (PRule.toS _ lr w.heap.size _ (HRl.out.below (T5.out.alloc (by first | omega | (simp; omega) | simp) (.cells #[.int .i64 c, .slice p5 cr.length q5] 26)) (Nat.le_refl _)) (by first | omega | (simp; omega) | simp) hxll).mono ?_
  rintro e w6 ⟨u6, rfl, o6, b6⟩
  obtain ⟨p6, q6, rfl⟩ := o6.form
  have X16 := Lib.hid (o6.mono (lo' := w5.heap.size + 1) (by first | omega | (simp; omega) | simp) (Nat.le_refl _))
  have hs6 : w5.heap.size + 1 ≤ w6.heap.size := by have := b6.size; simpa using this
  have T6 := Lib.hid ((T5.out.alloc (by first | omega | (simp; omega) | simp) (.cells #[.int .i64 c, .slice p5 cr.length q5] 26)).trans (b6.mono (by first | omega | (simp; omega) | simp)))
  have Ac6 := Lib.hid ((Ac5.out.alloc (.cells #[.int .i64 c, .slice p5 cr.length q5] 26)).below b6 (by first | omega | (simp; omega) | simp))
  have Bx06 := Lib.hid ((show BoxAt _ (w5.heap.size) _ _ by have := (BoxAt.new w5 26 #[.int .i64 c, .slice p5 cr.length q5]); simpa using this).below b6 (by first | omega | (simp; omega) | simp))
  have X06 := Lib.hid ((ownBoxed X05.out (by first | omega | (simp; omega) | simp) (.cells #[.int .i64 c, .slice p5 cr.length q5] 26)).below b6 (by first | omega | (simp; omega) | simp))
  have zAc_6 : w.heap.size < w6.heap.size := Ac6.out.lt
  have cAc_0_6 : w6.cell? ⟨w.heap.size, 0, none⟩ = some (.int .i64 c) := Ac6.out.cell 0
  have cAc_1_6 : w6.cell? ⟨w.heap.size, 1, none⟩ = some (.slice cp cr.length cc) := Ac6.out.cell 1
  have zBx0_6 : w5.heap.size < w6.heap.size := Bx06.out.lt
  have cBx0_0_6 : w6.cell? ⟨w5.heap.size, 0, none⟩ = some (.int .i64 c) := Bx06.out.cell 0
  have cBx0_1_6 : w6.cell? ⟨w5.heap.size, 1, none⟩ = some (.slice p5 cr.length q5) := Bx06.out.cell 1
  clear o6 b6 T5 Ac5 X05 zAc_5 cAc_0_5 cAc_1_5
  go_wp2_with fail
  refine (HI.out _ _ w6.heap.size _ (X06.out.reads.mono (by first | omega | (simp; omega) | simp)) X16.out.reads (by first | omega | (simp; omega) | simp)).mono ?_
  rintro e w7 ⟨rfl, b7⟩
  have hs7 : w6.heap.size ≤ w7.heap.size := by have := b7.size; simpa using this
  have T7 := Lib.hid (T6.out.trans (b7.mono (by first | omega | (simp; omega) | simp)))
  have Ac7 := Lib.hid (Ac6.out.below b7 (by first | omega | (simp; omega) | simp))
  have Bx07 := Lib.hid (Bx06.out.below b7 (by first | omega | (simp; omega) | simp))
  have X07 := Lib.hid (X06.out.below b7 (by first | omega | (simp; omega) | simp))
  have X17 := Lib.hid (X16.out.below b7 (by first | omega | (simp; omega) | simp))
  have zAc_7 : w.heap.size < w7.heap.size := Ac7.out.lt
  have cAc_0_7 : w7.cell? ⟨w.heap.size, 0, none⟩ = some (.int .i64 c) := Ac7.out.cell 0
  have cAc_1_7 : w7.cell? ⟨w.heap.size, 1, none⟩ = some (.slice cp cr.length cc) := Ac7.out.cell 1
  have zBx0_7 : w5.heap.size < w7.heap.size := Bx07.out.lt
  have cBx0_0_7 : w7.cell? ⟨w5.heap.size, 0, none⟩ = some (.int .i64 c) := Bx07.out.cell 0
  have cBx0_1_7 : w7.cell? ⟨w5.heap.size, 1, none⟩ = some (.slice p5 cr.length q5) := Bx07.out.cell 1
  clear b7 T6 Ac6 Bx06 X06 X16 zAc_6 cAc_0_6 cAc_1_6 zBx0_6 cBx0_0_6 cBx0_1_6
  go_wp2_with fail
  have RD := Lib.hid (X07.out.reads.below (Below.refl w7.heap.size w7).drew (by first | omega | (simp; omega) | simp))
  go_region_held3 (fun wx => wx.cell? ⟨w.heap.size, 0, none⟩ = some (.int .i64 c) ∧ wx.cell? ⟨w.heap.size, 1, none⟩ = some (.slice cp cr.length cc) ∧ wx.cell? ⟨w5.heap.size, 0, none⟩ = some (.int .i64 c) ∧ wx.cell? ⟨w5.heap.size, 1, none⟩ = some (.slice p5 cr.length q5))
    (first | exact ⟨cAc_0_7, cAc_1_7, cBx0_0_7, cBx0_1_7⟩ | exact keep4 (w := w7.drew) (B := w7.heap.size) b8 ⟨cAc_0_7, cAc_1_7, cBx0_0_7, cBx0_1_7⟩ (by show w.heap.size < _; omega) (by show w.heap.size < _; omega) (by show w5.heap.size < _; omega) (by show w5.heap.size < _; omega) | exact keep4 (w := w7.drew) (B := w7.heap.size) (b8.trans (b9.mono b8.size)) ⟨cAc_0_7, cAc_1_7, cBx0_0_7, cBx0_1_7⟩ (by show w.heap.size < _; omega) (by show w.heap.size < _; omega) (by show w5.heap.size < _; omega) (by show w5.heap.size < _; omega))
    (first | (go_at_call 58; refine (toCtx c _ cr w.heap.size w7.drew (HRc.out.below T7.out.drew (Nat.le_refl _)) (by show w.heap.size ≤ w7.heap.size; omega) hxlc).mono ?_; rintro e w8 ⟨u8, rfl, o8, b8⟩; obtain ⟨p8, q8, rfl⟩ := own_form o8) | (go_at_call 60; refine (eqCtx c c _ _ cr cr w5.heap.size w8.heap.size w8 (RD.out.below b8 (by show w5.heap.size ≤ w7.heap.size; omega)) o8.reads (by have := b8.size; show w5.heap.size ≤ w8.heap.size; change w7.heap.size ≤ w8.heap.size at this; omega) (Nat.le_refl _)).mono ?_; rintro e w9 ⟨rfl, b9⟩) | fail)
  have bb := (Below.refl w7.heap.size w7).drew.trans (b8.trans (b9.mono b8.size))
  clear b8 o8 RD
  clear b9
  have b9 := bb
  clear bb
  have hs9 : w7.heap.size ≤ w9.heap.size := by have := b9.size; simpa using this
  have T9 := Lib.hid (T7.out.trans (b9.mono (by first | omega | (simp; omega) | simp)))
  have Ac9 := Lib.hid (Ac7.out.below b9 (by first | omega | (simp; omega) | simp))
  have Bx09 := Lib.hid (Bx07.out.below b9 (by first | omega | (simp; omega) | simp))
  have X09 := Lib.hid (X07.out.below b9 (by first | omega | (simp; omega) | simp))
  have X19 := Lib.hid (X17.out.below b9 (by first | omega | (simp; omega) | simp))
  have zAc_9 : w.heap.size < w9.heap.size := Ac9.out.lt
  have cAc_0_9 : w9.cell? ⟨w.heap.size, 0, none⟩ = some (.int .i64 c) := Ac9.out.cell 0
  have cAc_1_9 : w9.cell? ⟨w.heap.size, 1, none⟩ = some (.slice cp cr.length cc) := Ac9.out.cell 1
  have zBx0_9 : w5.heap.size < w9.heap.size := Bx09.out.lt
  have cBx0_0_9 : w9.cell? ⟨w5.heap.size, 0, none⟩ = some (.int .i64 c) := Bx09.out.cell 0
  have cBx0_1_9 : w9.cell? ⟨w5.heap.size, 1, none⟩ = some (.slice p5 cr.length q5) := Bx09.out.cell 1
  clear b9 T7 Ac7 Bx07 X07 X17 zAc_7 cAc_0_7 cAc_1_7 zBx0_7 cBx0_0_7 cBx0_1_7
  have hqq0 : (c == c && cr == cr) = true := by simp
  go_wp2_with fail
  refine (PRule.toS _ lr w.heap.size _ (HRl.out.below T9.out (Nat.le_refl _)) (by first | omega | (simp; omega) | simp) hxll).mono ?_
  rintro e w10 ⟨u10, rfl, o10, b10⟩
  obtain ⟨p10, q10, rfl⟩ := o10.form
  have Q110 := Lib.hid (o10.mono (lo' := w9.heap.size) (by first | omega | (simp; omega) | simp) (Nat.le_refl _))
  have hs10 : w9.heap.size ≤ w10.heap.size := by have := b10.size; simpa using this
  have T10 := Lib.hid (T9.out.trans (b10.mono (by first | omega | (simp; omega) | simp)))
  have Ac10 := Lib.hid (Ac9.out.below b10 (by first | omega | (simp; omega) | simp))
  have Bx010 := Lib.hid (Bx09.out.below b10 (by first | omega | (simp; omega) | simp))
  have X010 := Lib.hid (X09.out.below b10 (by first | omega | (simp; omega) | simp))
  have X110 := Lib.hid (X19.out.below b10 (by first | omega | (simp; omega) | simp))
  have zAc_10 : w.heap.size < w10.heap.size := Ac10.out.lt
  have cAc_0_10 : w10.cell? ⟨w.heap.size, 0, none⟩ = some (.int .i64 c) := Ac10.out.cell 0
  have cAc_1_10 : w10.cell? ⟨w.heap.size, 1, none⟩ = some (.slice cp cr.length cc) := Ac10.out.cell 1
  have zBx0_10 : w5.heap.size < w10.heap.size := Bx010.out.lt
  have cBx0_0_10 : w10.cell? ⟨w5.heap.size, 0, none⟩ = some (.int .i64 c) := Bx010.out.cell 0
  have cBx0_1_10 : w10.cell? ⟨w5.heap.size, 1, none⟩ = some (.slice p5 cr.length q5) := Bx010.out.cell 1
  clear o10 b10 T9 Ac9 Bx09 X09 X19 zAc_9 cAc_0_9 cAc_1_9 zBx0_9 cBx0_0_9 cBx0_1_9
  go_wp2_with fail
  refine (PRule.eqS _ _ lr lr w6.heap.size w10.heap.size _ X110.out.reads Q110.out.reads (by first | omega | (simp; omega) | simp) (by first | omega | (simp; omega) | simp)).mono ?_
  rintro e w11 ⟨rfl, b11⟩
  have hs11 : w10.heap.size ≤ w11.heap.size := by have := b11.size; simpa using this
  have T11 := Lib.hid (T10.out.trans (b11.mono (by first | omega | (simp; omega) | simp)))
  have Ac11 := Lib.hid (Ac10.out.below b11 (by first | omega | (simp; omega) | simp))
  have Bx011 := Lib.hid (Bx010.out.below b11 (by first | omega | (simp; omega) | simp))
  have X011 := Lib.hid (X010.out.below b11 (by first | omega | (simp; omega) | simp))
  have X111 := Lib.hid (X110.out.below b11 (by first | omega | (simp; omega) | simp))
  have Q111 := Lib.hid (Q110.out.below b11 (by first | omega | (simp; omega) | simp))
  have zAc_11 : w.heap.size < w11.heap.size := Ac11.out.lt
  have cAc_0_11 : w11.cell? ⟨w.heap.size, 0, none⟩ = some (.int .i64 c) := Ac11.out.cell 0
  have cAc_1_11 : w11.cell? ⟨w.heap.size, 1, none⟩ = some (.slice cp cr.length cc) := Ac11.out.cell 1
  have zBx0_11 : w5.heap.size < w11.heap.size := Bx011.out.lt
  have cBx0_0_11 : w11.cell? ⟨w5.heap.size, 0, none⟩ = some (.int .i64 c) := Bx011.out.cell 0
  have cBx0_1_11 : w11.cell? ⟨w5.heap.size, 1, none⟩ = some (.slice p5 cr.length q5) := Bx011.out.cell 1
  clear b11 T10 Ac10 Bx010 X010 X110 Q110 zAc_10 cAc_0_10 cAc_1_10 zBx0_10 cBx0_0_10 cBx0_1_10
  clear Q111
  have hqq1 : (lr == lr) = true := by simp
  go_wp2_with fail
  go_ret
  exact ⟨rfl, T11.out⟩

set_option maxRecDepth 100000 in
theorem contract (H : Type) (enc : TypeId × Value → H) (W : World) (base : Nat) (args : Array Value) (ds gs : List (DataW H)) (before : List MemPlace)
    (hval : ∀ (j : Nat) t v, Try.f8.params[j]? = some t → args[j]? = some v → Value.okWide Try.prog W .any base t v)
    (hW : DataW.Whole enc Try.prog Try.f8.params.toList Rows.fnExactIsShortestSpec.vars false W args.toList ds gs before) :
    Calls Try.prog 8 args W fun e W' => ∃ v, e = .returned v ∧ Rows.fnExactIsShortestSpec.post enc Try.prog Try.f8 false true false false W args v W' := by
  have hW' := hW
  obtain ⟨p, q, hA0, hV, rfl, hfz, hnd⟩ := hW
  have hA : DataW.TrodAll enc Try.prog W 0 (fun _ => true) true Try.f8.params.toList args.toList ds p := hA0
  rw [Try.params8] at hA hval
  obtain ⟨v0, vs0, d0, ds0, p0, q0, hargs, rfl, rfl, h0, r0⟩ := trodAll_cons hA
  obtain ⟨v1, vs1, d1, ds1, p1, q1, rfl, rfl, rfl, h1, r1⟩ := trodAll_cons r0
  obtain ⟨rfl, rfl, rfl⟩ := trodAll_nil r1
  obtain rfl : args = #[v0, v1] := by cases args; simp_all
  obtain ⟨a0, u0, rs0, rfl, hr0⟩ : ∃ (a : Int) (u : Value) (rs : List Int), v0 = Ctx.ctx a u ∧ Reads W W.heap.size u (ints rs) := by
    obtain ⟨c0, c1, y0, y1, n, rfl, -, -, g0, g1⟩ := Joins.open_agg2 Try.underlying64 (by kernel_rfl) (by kernel_rfl) (hval 0 64 v0 rfl rfl) h0
    obtain ⟨a, ha, -, -⟩ := DataW.trod_int Try.underlying3 g0
    obtain rfl : c0 = .int .i64 a := by simpa using ha
    rcases open_ints Try.underlying24 Try.underlying3 (by kernel_rfl) g1 with ⟨hcs, -⟩ | ⟨a', len, cap, zs, hcs, -, hl, hm, hz, -, hcell, -⟩
    · obtain rfl : c1 = .slice none 0 0 := by simpa using hcs
      exact ⟨a, _, [], rfl, reads_nil _ _⟩
    · obtain rfl : c1 = .slice (some a') len cap := by simpa using hcs
      simp only [if_true] at hz
      have := reads_of (cap := cap) (cs := ints zs) (len := len) (by simp [ints]; omega) (by simp [ints]; omega) (fun i hi => by
        have hi' : i < zs.length := by simpa [ints] using hi
        rw [hcell i hi', ints_get zs i hi'])
      exact ⟨a, _, zs.take len, rfl, by simpa [ints, List.map_take] using this⟩
  obtain ⟨xs1, hr1⟩ : ∃ xs : List PInt, ReadsP W W.heap.size v1 xs := by
    obtain ⟨a0, len, cap, rfl⟩ := okWide_slice Try.underlying70 (hval 1 70 v1 rfl rfl)
    obtain ⟨fuel, hf⟩ := h1
    rcases Deep.open_slice_pairs Try.underlying70 Try.underlying78 (by kernel_rfl) rfl rfl (by kernel_rfl) (by kernel_rfl) hf with ⟨hcs, -⟩ | ⟨a, len', cap', m, n, V0, V1, D0, D1, P0, P1, hcs, -, hl, hm, hmm, -, hx⟩
    · simp [Value.cells] at hcs
      obtain ⟨rfl, rfl, rfl⟩ := hcs
      exact ⟨[], readsP_nil _ _⟩
    · simp [Value.cells] at hcs
      obtain ⟨rfl, rfl, rfl⟩ := hcs
      simp only [if_true] at hmm
      subst hmm
      exact readsP_of hl hm fun i hi => by
        obtain ⟨h0, h1, h2, h3⟩ := hx i hi
        obtain ⟨x, hx0, -, -⟩ := DataW.trod_int Try.underlying3 h2
        obtain ⟨y, hy0, -, -⟩ := DataW.trod_int Try.underlying3 h3
        refine ⟨x, y, ?_, ?_⟩
        · rw [h0]; simpa using hx0
        · rw [h1]; simpa using hy0
  clear hA0
  refine (walk a0 u0 rs0 v1 xs1 W hr0 hr1).mono fun e W' ⟨he, hg⟩ => ?_
  subst he
  exact ⟨_, rfl, Law.post_true (tb := 4) (kids_rows (by kernel_rfl) (by kernel_rfl)) (by unfold Law.Full; kernel_rfl) hW' rfl (by rw [Try.params8]; decide +kernel) Try.underlying4 (by kernel_rfl) rfl hg⟩

noncomputable def start (os : Os) : World := World.holding Try.prog os ⟨#[], #[], []⟩
theorem reads (os : Os) {H : Type} (enc : TypeId × Value → H) : ∃ places, DataW.whole enc Try.prog ((start os).forCall (fun _ _ => 0) ⟨#[], #[.agg #[.int .i64 0, .slice none 0 0], .slice none 0 0], []⟩).memory Try.f8.params.toList Rows.fnExactIsShortestSpec.vars false (#[.agg #[.int .i64 0, .slice none 0 0], .slice none 0 0] : Array Value).toList 8 = some ([.agg [.lit (.int .i64 0), .nil], .nil], [], places) :=
  ⟨[], by kernel_rfl⟩
theorem own : ownKnob Try.prog.godebug = none := by kernel_rfl

set_option maxRecDepth 100000 in
theorem lifted (os : Os) (started : os.Started) (H : Type) (enc : TypeId × Value → H) (F : Stop.Interp) :
    ReturnsInHanded {} Try.checked os 8 .any ((OpenSpec.ofChange Rows.fnExactIsShortestSpec).preRow enc Try.prog Try.f8 Rows.fnExactIsShortestRow.domain false Rows.fnExactIsShortestRow.laid) (((OpenSpec.ofChange Rows.fnExactIsShortestSpec).at F).post enc Try.prog Try.f8 false true false false) := by
  obtain ⟨places, hx⟩ := reads os enc
  refine returnsInHanded_of_row (C := Try.checked) (s := OpenSpec.ofChange Rows.fnExactIsShortestSpec) own started (by kernel_rfl) Try.func8
    (witness_row_at (enc := enc) (C := Try.checked) false (start os) #[.agg #[.int .i64 0, .slice none 0 0], .slice none 0 0] rfl (by kernel_rfl) (by kernel_rfl) (by kernel_rfl)
      (OpenSpec.preRow_of_cond 8 hx (by kernel_rfl) (fun k hk => by cases hk) (by kernel_rfl) (laidMet_of_run' 8 (by kernel_rfl) (by kernel_rfl)))) ?_
  intro W base args ds gs before hval hW _ _ _ _ _ _
  exact contract H enc W base args ds gs before hval hW

theorem said : Rows.FnExactIsShortestSaid :=
  OpenClaim.holds_of_cond 8 Try.f8 rfl rfl rfl rfl rfl rfl rfl ⟨rfl, rfl, rfl, rfl, rfl⟩ rfl rfl rfl rfl rfl (by kernel_rfl) Try.func8 (by kernel_rfl)
    (of_decide_eq_true (by kernel_rfl)) (by unfold Func.isWrapper; first | (rw [if_pos (by decide +kernel)]; kernel_rfl) | (rw [if_neg (by decide +kernel)]; exact ⟨rfl, rfl⟩))
    (fun os started H enc _ F => by rw [OpenClaim.pre_eq_preRow]; exact lifted os started H enc F)
end Go.Proofs.Ytgkoggajdhibdaa.FnExactIsShortest
