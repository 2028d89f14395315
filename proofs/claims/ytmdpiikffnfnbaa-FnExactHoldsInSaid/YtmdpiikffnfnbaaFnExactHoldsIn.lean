/-
  For all arguments the law FnExactHoldsIn returns true: the function of the program returns what the function of the model returns, and leaves its arguments as they are. No condition.
-/
import Derived.Test.YtmdpiikffnfnbaaRows
import Derived.Test.YtmdpiikffnfnbaaLaw
import Derived.Test.YtmdpiikffnfnbaaDual
import Derived.Test.YtmdpiikffnfnbaaRuleI
import Derived.Test.YtmdpiikffnfnbaaRuleI2
import Derived.Test.YtmdpiikffnfnbaaRuleI3
import Derived.Deep.RegionHeld3
import Derived.Lib.SmallJoins
import Derived.WalkKit
import Derived.ProofKit
import Derived.OpenShut
import Derived.Deep.DeepHandedRow
import Derived.LaidMore
import Derived.Stop.LaidErr
import Derived.ChangeMaps5
import Derived.Outline
import Derived.LoopTactic
import Derived.Lib.Hide
import Derived.Below
namespace Go.Proofs.Ytmdpiikffnfnbaa.FnExactHoldsIn
open Go Go.ChangeShapes Go.WideShapes Go.ChangeAt Go.ChangeMaps Go.RowKit Mem Ctx

theorem asInts {xs : List Int} {w : World} {e : Ending} {w' : World} (h : ∃ u, e = .returned u ∧ Mem.Own 3 w' w.heap.size w'.heap.size u (ints xs) ∧ Below w.heap.size w w') :
    ∃ p c, e = .returned (.slice p xs.length c) ∧ Mem.Own 3 w' w.heap.size w'.heap.size (.slice p xs.length c) (ints xs) ∧ Below w.heap.size w w' := by
  obtain ⟨u, he, o, b⟩ := h
  obtain ⟨p, c, rfl⟩ := own_form o
  exact ⟨p, c, he, o, b⟩
theorem boxApart {w w' : World} {g lo hi : Nat} {t : TypeId} {cs : Array Value} (h : BoxAt w g t cs) (ha : Apart lo hi w w') (hg : g < lo ∨ hi ≤ g) : BoxAt w' g t cs := (ha.block g h.lt hg).trans h
theorem ownBoxed {e : TypeId} {w : World} {lo hi : Nat} {v : Value} {cs : List Value} (h : Mem.Own e w lo hi v cs) (hh : hi ≤ w.heap.size) (o : Obj) : Mem.Own e (w.alloc o) lo hi v cs := h.below (B := w.heap.size) ((Below.refl _ _).alloc (Nat.le_refl _) o) hh
theorem keep4 {w w' : World} {B : Nat} {p q r s : Addr} {x y z t : Value} (hb : Below B w w') (h : w.cell? p = some x ∧ w.cell? q = some y ∧ w.cell? r = some z ∧ w.cell? s = some t) (hp : p.block < B) (hq : q.block < B) (hr : r.block < B) (hs : s.block < B) :
    w'.cell? p = some x ∧ w'.cell? q = some y ∧ w'.cell? r = some z ∧ w'.cell? s = some t :=
  ⟨(hb.cell hp).trans h.1, (hb.cell hq).trans h.2.1, (hb.cell hr).trans h.2.2.1, (hb.cell hs).trans h.2.2.2⟩
theorem asCtx {x : Option (Int × List Int)} {n : Int} {xs : List Int} {ok : Bool} (hn : (x.getD (0, [])).1 = n) (hx : (x.getD (0, [])).2 = xs) (ho : x.isSome = ok) {w : World} {e : Ending} {w' : World} (h : CtxRes x w e w') :
    ∃ p c, e = .returned (.tuple #[ctx n (.slice p xs.length c), .bool ok]) ∧ Mem.Own 3 w' w.heap.size w'.heap.size (.slice p xs.length c) (ints xs) ∧ Below w.heap.size w w' := by
  subst hn hx ho
  obtain ⟨u, he, o, b⟩ := h
  obtain ⟨p, c, rfl⟩ := own_form o
  exact ⟨p, c, he, o, b⟩

set_option maxRecDepth 100000 in
set_option maxHeartbeats 4000000 in
theorem walk (c : Int) (cv : Value) (cr : List Int) (x1 x2 : Int) (w : World) (hc : Reads w w.heap.size cv (ints cr)) :
    Calls Try.prog 4 #[ctx c cv, .agg #[.int .i64 x1, .int .i64 x2]] w fun e w' => e = .returned (.bool true) ∧ Below w.heap.size w w' := by
  have hlc : cr.length ≤ 9223372036854775807 := by have := hc.1; unfold maxLen at this; simp [ints] at this; omega
  obtain ⟨cp, cc, rfl⟩ := reads_form hc
  have HRc := Lib.hid hc
  clear hc
  by_cases hlen0 : 1048576 < (cr.length : Int)
  · have HZ0 := Lib.hid (fun w => szCtx c (.slice cp cr.length cc) cr.length 1048576 w ⟨_, _, rfl⟩ hlc (by omega) (by omega))
    simp only [if_pos hlen0] at HZ0
    go_enter Try.func4, Try.ntmps4
    go_wp2_with fail
    refine (HZ0.out _).mono ?_
    rintro e w1 ⟨rfl, b1⟩
    have hs1 : w.heap.size + 2 ≤ w1.heap.size := by have := b1.size; simpa using this
    have T1 := Lib.hid ((((Below.refl w.heap.size w).alloc (by first | omega | (simp; omega) | simp) (.cells #[.int .i64 c, .slice cp cr.length cc] 31)).alloc (by first | omega | (simp; omega) | simp) (.cells #[.int .i64 x1, .int .i64 x2] 33)).trans (b1.mono (by first | omega | (simp; omega) | simp)))
    have Ac1 := Lib.hid (((show BoxAt _ (w.heap.size) _ _ by have := (BoxAt.new w 31 #[.int .i64 c, .slice cp cr.length cc]); simpa using this).alloc (.cells #[.int .i64 x1, .int .i64 x2] 33)).below b1 (by first | omega | (simp; omega) | simp))
    have Ax1 := Lib.hid ((show BoxAt _ (w.heap.size + 1) _ _ by have := (BoxAt.new (w.alloc (.cells #[.int .i64 c, .slice cp cr.length cc] 31)) 33 #[.int .i64 x1, .int .i64 x2]); simpa using this).below b1 (by first | omega | (simp; omega) | simp))
    have zAc_1 : w.heap.size < w1.heap.size := Ac1.out.lt
    have cAc_0_1 : w1.cell? ⟨w.heap.size, 0, none⟩ = some (.int .i64 c) := Ac1.out.cell 0
    have cAc_1_1 : w1.cell? ⟨w.heap.size, 1, none⟩ = some (.slice cp cr.length cc) := Ac1.out.cell 1
    have zAx_1 : w.heap.size + 1 < w1.heap.size := Ax1.out.lt
    have cAx_0_1 : w1.cell? ⟨w.heap.size + 1, 0, none⟩ = some (.int .i64 x1) := Ax1.out.cell 0
    have cAx_1_1 : w1.cell? ⟨w.heap.size + 1, 1, none⟩ = some (.int .i64 x2) := Ax1.out.cell 1
    clear b1
    go_wp2_with fail
    go_ret
    exact ⟨rfl, T1.out⟩
  have HZ0 := Lib.hid (fun w => szCtx c (.slice cp cr.length cc) cr.length 1048576 w ⟨_, _, rfl⟩ hlc (by omega) (by omega))
  simp only [if_neg hlen0] at HZ0
  have hd0 : decide (1048576 - (cr.length : Int) < 0) = false := by simp; omega
  have hxlc : cr.length ≤ 1048576 := by omega
  obtain ⟨R, hR⟩ : ∃ R : Bool, Rule.holds c cr (x1, x2) = R := ⟨_, rfl⟩
  have HS := Lib.hid (fun v B w h hB => by have := Rule.spec_holds c v cr (x1, x2) B w h hB; rw [hR] at this; exact this)
  have HI := Lib.hid (fun v B w h hB => by have := Rule.impl_holds c v cr (x1, x2) B w h hB; rw [hR] at this; exact this)
  have hq : (R != R) = false := by simp
  clear hR
  clear hlen0 hlc
  go_enter Try.func4, Try.ntmps4
  go_wp2_with fail
  refine (HZ0.out _).mono ?_
  rintro e w1 ⟨rfl, b1⟩
  have hs1 : w.heap.size + 2 ≤ w1.heap.size := by have := b1.size; simpa using this
  have T1 := Lib.hid ((((Below.refl w.heap.size w).alloc (by first | omega | (simp; omega) | simp) (.cells #[.int .i64 c, .slice cp cr.length cc] 31)).alloc (by first | omega | (simp; omega) | simp) (.cells #[.int .i64 x1, .int .i64 x2] 33)).trans (b1.mono (by first | omega | (simp; omega) | simp)))
  have Ac1 := Lib.hid (((show BoxAt _ (w.heap.size) _ _ by have := (BoxAt.new w 31 #[.int .i64 c, .slice cp cr.length cc]); simpa using this).alloc (.cells #[.int .i64 x1, .int .i64 x2] 33)).below b1 (by first | omega | (simp; omega) | simp))
  have Ax1 := Lib.hid ((show BoxAt _ (w.heap.size + 1) _ _ by have := (BoxAt.new (w.alloc (.cells #[.int .i64 c, .slice cp cr.length cc] 31)) 33 #[.int .i64 x1, .int .i64 x2]); simpa using this).below b1 (by first | omega | (simp; omega) | simp))
  have zAc_1 : w.heap.size < w1.heap.size := Ac1.out.lt
  have cAc_0_1 : w1.cell? ⟨w.heap.size, 0, none⟩ = some (.int .i64 c) := Ac1.out.cell 0
  have cAc_1_1 : w1.cell? ⟨w.heap.size, 1, none⟩ = some (.slice cp cr.length cc) := Ac1.out.cell 1
  have zAx_1 : w.heap.size + 1 < w1.heap.size := Ax1.out.lt
  have cAx_0_1 : w1.cell? ⟨w.heap.size + 1, 0, none⟩ = some (.int .i64 x1) := Ax1.out.cell 0
  have cAx_1_1 : w1.cell? ⟨w.heap.size + 1, 1, none⟩ = some (.int .i64 x2) := Ax1.out.cell 1
  clear b1
  go_wp2_with fail
  go_region_held3 (fun wx => wx.cell? ⟨w.heap.size, 0, none⟩ = some (.int .i64 c) ∧ wx.cell? ⟨w.heap.size, 1, none⟩ = some (.slice cp cr.length cc) ∧ wx.cell? ⟨w.heap.size + 1, 0, none⟩ = some (.int .i64 x1) ∧ wx.cell? ⟨w.heap.size + 1, 1, none⟩ = some (.int .i64 x2))
    (first | exact ⟨cAc_0_1, cAc_1_1, cAx_0_1, cAx_1_1⟩ | exact keep4 (w := w1.drew) (B := w1.heap.size) b2 ⟨cAc_0_1, cAc_1_1, cAx_0_1, cAx_1_1⟩ (by show w.heap.size < _; omega) (by show w.heap.size < _; omega) (by show w.heap.size + 1 < _; omega) (by show w.heap.size + 1 < _; omega) | exact keep4 (w := w1.drew) (B := w1.heap.size) (b2.trans (b3.mono (b2).size)) ⟨cAc_0_1, cAc_1_1, cAx_0_1, cAx_1_1⟩ (by show w.heap.size < _; omega) (by show w.heap.size < _; omega) (by show w.heap.size + 1 < _; omega) (by show w.heap.size + 1 < _; omega) | exact keep4 (w := w1.drew) (B := w1.heap.size) ((b2.trans (b3.mono (b2).size)).trans (b4.mono ((b2.trans (b3.mono (b2).size))).size)) ⟨cAc_0_1, cAc_1_1, cAx_0_1, cAx_1_1⟩ (by show w.heap.size < _; omega) (by show w.heap.size < _; omega) (by show w.heap.size + 1 < _; omega) (by show w.heap.size + 1 < _; omega))
    (first | (go_at_call 18; (with_reducible refine (toCtx c _ cr w.heap.size w1.drew (HRc.out.below T1.out.drew (Nat.le_refl _)) (T1.out.drew).size hxlc).mono ?_); rintro e w2 ⟨u2, rfl, o2, b2⟩; obtain ⟨p2, q2, rfl⟩ := own_form o2) | (go_at_call 19; (with_reducible refine (PRule.to1 (x1, x2) _).mono ?_); rintro e w3 ⟨rfl, b3⟩) | (go_at_call 17; (with_reducible refine (HS.out _ w2.heap.size _ (o2.reads.below b3 (by first | exact Nat.le_refl _ | (have := b3.size; omega))) (by have hs_2 := b2.size; have hs_3 := b3.size; have hsz : w1.drew.heap.size = w1.heap.size := rfl; omega)).mono ?_); rintro e w4 ⟨rfl, b4⟩) | fail)
  have bb := (Below.refl w1.heap.size w1).drew.trans ((b2.trans (b3.mono (b2).size)).trans (b4.mono ((b2.trans (b3.mono (b2).size))).size))
  clear b3 
  clear b2 o2
  clear b4
  have b4 := bb
  clear bb
  have hs4 : w1.heap.size ≤ w4.heap.size := by have := b4.size; simpa using this
  have T4 := Lib.hid (T1.out.trans (b4.mono (by first | omega | (simp; omega) | simp)))
  have Ac4 := Lib.hid (Ac1.out.below b4 (by first | omega | (simp; omega) | simp))
  have Ax4 := Lib.hid (Ax1.out.below b4 (by first | omega | (simp; omega) | simp))
  have zAc_4 : w.heap.size < w4.heap.size := Ac4.out.lt
  have cAc_0_4 : w4.cell? ⟨w.heap.size, 0, none⟩ = some (.int .i64 c) := Ac4.out.cell 0
  have cAc_1_4 : w4.cell? ⟨w.heap.size, 1, none⟩ = some (.slice cp cr.length cc) := Ac4.out.cell 1
  have zAx_4 : w.heap.size + 1 < w4.heap.size := Ax4.out.lt
  have cAx_0_4 : w4.cell? ⟨w.heap.size + 1, 0, none⟩ = some (.int .i64 x1) := Ax4.out.cell 0
  have cAx_1_4 : w4.cell? ⟨w.heap.size + 1, 1, none⟩ = some (.int .i64 x2) := Ax4.out.cell 1
  clear b4 T1 Ac1 Ax1 zAc_1 cAc_0_1 cAc_1_1 zAx_1 cAx_0_1 cAx_1_1
  go_wp2_with fail
  refine (toCtx c _ cr w.heap.size _ (HRc.out.below T4.out (Nat.le_refl _)) (by first | omega | (simp; omega) | simp) hxlc).mono ?_
  rintro e w5 ⟨u5, rfl, o5, b5⟩
  obtain ⟨p5, q5, rfl⟩ := own_form o5
  have X05 := Lib.hid (o5.mono (lo' := w4.heap.size) (by first | omega | (simp; omega) | simp) (Nat.le_refl _))
  have hs5 : w4.heap.size ≤ w5.heap.size := by have := b5.size; simpa using this
  have T5 := Lib.hid (T4.out.trans (b5.mono (by first | omega | (simp; omega) | simp)))
  have Ac5 := Lib.hid (Ac4.out.below b5 (by first | omega | (simp; omega) | simp))
  have Ax5 := Lib.hid (Ax4.out.below b5 (by first | omega | (simp; omega) | simp))
  have zAc_5 : w.heap.size < w5.heap.size := Ac5.out.lt
  have cAc_0_5 : w5.cell? ⟨w.heap.size, 0, none⟩ = some (.int .i64 c) := Ac5.out.cell 0
  have cAc_1_5 : w5.cell? ⟨w.heap.size, 1, none⟩ = some (.slice cp cr.length cc) := Ac5.out.cell 1
  have zAx_5 : w.heap.size + 1 < w5.heap.size := Ax5.out.lt
  have cAx_0_5 : w5.cell? ⟨w.heap.size + 1, 0, none⟩ = some (.int .i64 x1) := Ax5.out.cell 0
  have cAx_1_5 : w5.cell? ⟨w.heap.size + 1, 1, none⟩ = some (.int .i64 x2) := Ax5.out.cell 1
  clear o5 b5 T4 Ac4 Ax4 zAc_4 cAc_0_4 cAc_1_4 zAx_4 cAx_0_4 cAx_1_4
  go_wp2_with fail
  have b6 := (Below.refl w5.heap.size w5).alloc (Nat.le_refl _) (.cells #[.int .i64 c, .slice p5 cr.length q5] 36)
  have nb6 := BoxAt.new w5 36 #[.int .i64 c, .slice p5 cr.length q5]
  generalize w5.alloc (.cells #[.int .i64 c, .slice p5 cr.length q5] 36) = w6 at b6 nb6 ⊢
  have Bx06 := Lib.hid nb6
  clear nb6
  have hs6 : w5.heap.size ≤ w6.heap.size := by have := b6.size; simpa using this
  have T6 := Lib.hid (T5.out.trans (b6.mono (by first | omega | (simp; omega) | simp)))
  have Ac6 := Lib.hid (Ac5.out.below b6 (by first | omega | (simp; omega) | simp))
  have Ax6 := Lib.hid (Ax5.out.below b6 (by first | omega | (simp; omega) | simp))
  have X06 := Lib.hid (X05.out.below b6 (by first | omega | (simp; omega) | simp))
  have zAc_6 : w.heap.size < w6.heap.size := Ac6.out.lt
  have cAc_0_6 : w6.cell? ⟨w.heap.size, 0, none⟩ = some (.int .i64 c) := Ac6.out.cell 0
  have cAc_1_6 : w6.cell? ⟨w.heap.size, 1, none⟩ = some (.slice cp cr.length cc) := Ac6.out.cell 1
  have zAx_6 : w.heap.size + 1 < w6.heap.size := Ax6.out.lt
  have cAx_0_6 : w6.cell? ⟨w.heap.size + 1, 0, none⟩ = some (.int .i64 x1) := Ax6.out.cell 0
  have cAx_1_6 : w6.cell? ⟨w.heap.size + 1, 1, none⟩ = some (.int .i64 x2) := Ax6.out.cell 1
  have zBx0_6 : w5.heap.size < w6.heap.size := Bx06.out.lt
  have cBx0_0_6 : w6.cell? ⟨w5.heap.size, 0, none⟩ = some (.int .i64 c) := Bx06.out.cell 0
  have cBx0_1_6 : w6.cell? ⟨w5.heap.size, 1, none⟩ = some (.slice p5 cr.length q5) := Bx06.out.cell 1
  clear b6 T5 Ac5 Ax5 X05 zAc_5 cAc_0_5 cAc_1_5 zAx_5 cAx_0_5 cAx_1_5
  have RD := Lib.hid (X06.out.reads.below (Below.refl w6.heap.size w6).drew (by first | omega | (simp; omega) | simp))
  go_wp2_with fail
  go_region_held3 (fun wx => wx.cell? ⟨w.heap.size + 1, 0, none⟩ = some (.int .i64 x1) ∧ wx.cell? ⟨w.heap.size + 1, 1, none⟩ = some (.int .i64 x2) ∧ wx.cell? ⟨w5.heap.size, 0, none⟩ = some (.int .i64 c) ∧ wx.cell? ⟨w5.heap.size, 1, none⟩ = some (.slice p5 cr.length q5))
    (first | exact ⟨cAx_0_6, cAx_1_6, cBx0_0_6, cBx0_1_6⟩ | exact keep4 (w := w6.drew) (B := w6.heap.size) b7 ⟨cAx_0_6, cAx_1_6, cBx0_0_6, cBx0_1_6⟩ (by show w.heap.size + 1 < _; omega) (by show w.heap.size + 1 < _; omega) (by show w5.heap.size < _; omega) (by show w5.heap.size < _; omega) | exact keep4 (w := w6.drew) (B := w6.heap.size) (b7.trans (b8.mono (b7).size)) ⟨cAx_0_6, cAx_1_6, cBx0_0_6, cBx0_1_6⟩ (by show w.heap.size + 1 < _; omega) (by show w.heap.size + 1 < _; omega) (by show w5.heap.size < _; omega) (by show w5.heap.size < _; omega))
    (first | (go_at_call 19; (with_reducible refine (PRule.to1 (x1, x2) _).mono ?_); rintro e w7 ⟨rfl, b7⟩) | (go_at_call 20; (with_reducible refine (HI.out _ w5.heap.size _ (RD.out.below b7 (by have hsz : w6.drew.heap.size = w6.heap.size := rfl; show w5.heap.size ≤ _; omega)) (by have hs_7 := b7.size; have hsz : w6.drew.heap.size = w6.heap.size := rfl; omega)).mono ?_); rintro e w8 ⟨rfl, b8⟩) | fail)
  have bb := (Below.refl w6.heap.size w6).drew.trans (b7.trans (b8.mono (b7).size))
  clear b7 
  clear b8 RD
  have b8 := bb
  clear bb
  have hs8 : w6.heap.size ≤ w8.heap.size := by have := b8.size; simpa using this
  have T8 := Lib.hid (T6.out.trans (b8.mono (by first | omega | (simp; omega) | simp)))
  have Ac8 := Lib.hid (Ac6.out.below b8 (by first | omega | (simp; omega) | simp))
  have Ax8 := Lib.hid (Ax6.out.below b8 (by first | omega | (simp; omega) | simp))
  have Bx08 := Lib.hid (Bx06.out.below b8 (by first | omega | (simp; omega) | simp))
  have X08 := Lib.hid (X06.out.below b8 (by first | omega | (simp; omega) | simp))
  have zAc_8 : w.heap.size < w8.heap.size := Ac8.out.lt
  have cAc_0_8 : w8.cell? ⟨w.heap.size, 0, none⟩ = some (.int .i64 c) := Ac8.out.cell 0
  have cAc_1_8 : w8.cell? ⟨w.heap.size, 1, none⟩ = some (.slice cp cr.length cc) := Ac8.out.cell 1
  have zAx_8 : w.heap.size + 1 < w8.heap.size := Ax8.out.lt
  have cAx_0_8 : w8.cell? ⟨w.heap.size + 1, 0, none⟩ = some (.int .i64 x1) := Ax8.out.cell 0
  have cAx_1_8 : w8.cell? ⟨w.heap.size + 1, 1, none⟩ = some (.int .i64 x2) := Ax8.out.cell 1
  have zBx0_8 : w5.heap.size < w8.heap.size := Bx08.out.lt
  have cBx0_0_8 : w8.cell? ⟨w5.heap.size, 0, none⟩ = some (.int .i64 c) := Bx08.out.cell 0
  have cBx0_1_8 : w8.cell? ⟨w5.heap.size, 1, none⟩ = some (.slice p5 cr.length q5) := Bx08.out.cell 1
  clear b8 T6 Ac6 Ax6 Bx06 X06 zAc_6 cAc_0_6 cAc_1_6 zAx_6 cAx_0_6 cAx_1_6 zBx0_6 cBx0_0_6 cBx0_1_6
  go_wp2_with fail
  have RD := Lib.hid (X08.out.reads.below (Below.refl w8.heap.size w8).drew (by first | omega | (simp; omega) | simp))
  go_region_held3 (fun wx => wx.cell? ⟨w.heap.size, 0, none⟩ = some (.int .i64 c) ∧ wx.cell? ⟨w.heap.size, 1, none⟩ = some (.slice cp cr.length cc) ∧ wx.cell? ⟨w5.heap.size, 0, none⟩ = some (.int .i64 c) ∧ wx.cell? ⟨w5.heap.size, 1, none⟩ = some (.slice p5 cr.length q5))
    (first | exact ⟨cAc_0_8, cAc_1_8, cBx0_0_8, cBx0_1_8⟩ | exact keep4 (w := w8.drew) (B := w8.heap.size) b9 ⟨cAc_0_8, cAc_1_8, cBx0_0_8, cBx0_1_8⟩ (by show w.heap.size < _; omega) (by show w.heap.size < _; omega) (by show w5.heap.size < _; omega) (by show w5.heap.size < _; omega) | exact keep4 (w := w8.drew) (B := w8.heap.size) (b9.trans (b10.mono b9.size)) ⟨cAc_0_8, cAc_1_8, cBx0_0_8, cBx0_1_8⟩ (by show w.heap.size < _; omega) (by show w.heap.size < _; omega) (by show w5.heap.size < _; omega) (by show w5.heap.size < _; omega))
    (first | (go_at_call 18; refine (toCtx c _ cr w.heap.size w8.drew (HRc.out.below T8.out.drew (Nat.le_refl _)) (by show w.heap.size ≤ w8.heap.size; omega) hxlc).mono ?_; rintro e w9 ⟨u9, rfl, o9, b9⟩; obtain ⟨p9, q9, rfl⟩ := own_form o9) | (go_at_call 21; refine (eqCtx c c _ _ cr cr w5.heap.size w9.heap.size w9 (RD.out.below b9 (by show w5.heap.size ≤ w8.heap.size; omega)) o9.reads (by have := b9.size; show w5.heap.size ≤ w9.heap.size; change w8.heap.size ≤ w9.heap.size at this; omega) (Nat.le_refl _)).mono ?_; rintro e w10 ⟨rfl, b10⟩) | fail)
  have bb := (Below.refl w8.heap.size w8).drew.trans (b9.trans (b10.mono b9.size))
  clear b9 o9 RD
  clear b10
  have b10 := bb
  clear bb
  have hs10 : w8.heap.size ≤ w10.heap.size := by have := b10.size; simpa using this
  have T10 := Lib.hid (T8.out.trans (b10.mono (by first | omega | (simp; omega) | simp)))
  have Ac10 := Lib.hid (Ac8.out.below b10 (by first | omega | (simp; omega) | simp))
  have Ax10 := Lib.hid (Ax8.out.below b10 (by first | omega | (simp; omega) | simp))
  have Bx010 := Lib.hid (Bx08.out.below b10 (by first | omega | (simp; omega) | simp))
  have X010 := Lib.hid (X08.out.below b10 (by first | omega | (simp; omega) | simp))
  have zAc_10 : w.heap.size < w10.heap.size := Ac10.out.lt
  have cAc_0_10 : w10.cell? ⟨w.heap.size, 0, none⟩ = some (.int .i64 c) := Ac10.out.cell 0
  have cAc_1_10 : w10.cell? ⟨w.heap.size, 1, none⟩ = some (.slice cp cr.length cc) := Ac10.out.cell 1
  have zAx_10 : w.heap.size + 1 < w10.heap.size := Ax10.out.lt
  have cAx_0_10 : w10.cell? ⟨w.heap.size + 1, 0, none⟩ = some (.int .i64 x1) := Ax10.out.cell 0
  have cAx_1_10 : w10.cell? ⟨w.heap.size + 1, 1, none⟩ = some (.int .i64 x2) := Ax10.out.cell 1
  have zBx0_10 : w5.heap.size < w10.heap.size := Bx010.out.lt
  have cBx0_0_10 : w10.cell? ⟨w5.heap.size, 0, none⟩ = some (.int .i64 c) := Bx010.out.cell 0
  have cBx0_1_10 : w10.cell? ⟨w5.heap.size, 1, none⟩ = some (.slice p5 cr.length q5) := Bx010.out.cell 1
  clear b10 T8 Ac8 Ax8 Bx08 X08 zAc_8 cAc_0_8 cAc_1_8 zAx_8 cAx_0_8 cAx_1_8 zBx0_8 cBx0_0_8 cBx0_1_8
  have hqq0 : (c == c && cr == cr) = true := by simp
  go_wp2_with fail
  go_ret
  exact ⟨rfl, T10.out⟩

set_option maxRecDepth 100000 in
theorem contract (H : Type) (enc : TypeId × Value → H) (W : World) (base : Nat) (args : Array Value) (ds gs : List (DataW H)) (before : List MemPlace)
    (hval : ∀ (j : Nat) t v, Try.f4.params[j]? = some t → args[j]? = some v → Value.okWide Try.prog W .any base t v)
    (hW : DataW.Whole enc Try.prog Try.f4.params.toList Rows.fnExactHoldsInSpec.vars false W args.toList ds gs before) :
    Calls Try.prog 4 args W fun e W' => ∃ v, e = .returned v ∧ Rows.fnExactHoldsInSpec.post enc Try.prog Try.f4 false true false false W args v W' := by
  have hW' := hW
  obtain ⟨p, q, hA0, hV, rfl, hfz, hnd⟩ := hW
  have hA : DataW.TrodAll enc Try.prog W 0 (fun _ => true) true Try.f4.params.toList args.toList ds p := hA0
  rw [Try.params4] at hA hval
  obtain ⟨v0, vs0, d0, ds0, p0, q0, hargs, rfl, rfl, h0, r0⟩ := trodAll_cons hA
  obtain ⟨v1, vs1, d1, ds1, p1, q1, rfl, rfl, rfl, h1, r1⟩ := trodAll_cons r0
  obtain ⟨rfl, rfl, rfl⟩ := trodAll_nil r1
  obtain rfl : args = #[v0, v1] := by cases args; simp_all
  obtain ⟨a0, u0, rs0, rfl, hr0⟩ : ∃ (a : Int) (u : Value) (rs : List Int), v0 = Ctx.ctx a u ∧ Reads W W.heap.size u (ints rs) := by
    obtain ⟨c0, c1, y0, y1, n, rfl, -, -, g0, g1⟩ := Joins.open_agg2 Try.underlying31 (by kernel_rfl) (by kernel_rfl) (hval 0 31 v0 rfl rfl) h0
    obtain ⟨a, ha, -, -⟩ := DataW.trod_int Try.underlying3 g0
    obtain rfl : c0 = .int .i64 a := by simpa using ha
    rcases open_ints Try.underlying29 Try.underlying3 (by kernel_rfl) g1 with ⟨hcs, -⟩ | ⟨a', len, cap, zs, hcs, -, hl, hm, hz, -, hcell, -⟩
    · obtain rfl : c1 = .slice none 0 0 := by simpa using hcs
      exact ⟨a, _, [], rfl, reads_nil _ _⟩
    · obtain rfl : c1 = .slice (some a') len cap := by simpa using hcs
      simp only [if_true] at hz
      have := reads_of (cap := cap) (cs := ints zs) (len := len) (by simp [ints]; omega) (by simp [ints]; omega) (fun i hi => by
        have hi' : i < zs.length := by simpa [ints] using hi
        rw [hcell i hi', ints_get zs i hi'])
      exact ⟨a, _, zs.take len, rfl, by simpa [ints, List.map_take] using this⟩
  obtain ⟨x1, y1, rfl⟩ : ∃ x y : Int, v1 = .agg #[.int .i64 x, .int .i64 y] := by
    obtain ⟨c0, c1, y0, y1, n, rfl, -, -, g0, g1⟩ := Joins.open_agg2 Try.underlying33 (by kernel_rfl) (by kernel_rfl) (hval 1 33 v1 rfl rfl) h1
    obtain ⟨a, ha, -, -⟩ := DataW.trod_int Try.underlying3 g0
    obtain rfl : c0 = .int .i64 a := by simpa using ha
    obtain ⟨b, hb, -, -⟩ := DataW.trod_int Try.underlying3 g1
    obtain rfl : c1 = .int .i64 b := by simpa using hb
    exact ⟨a, b, rfl⟩
  clear hA0
  refine (walk a0 u0 rs0 x1 y1 W hr0).mono fun e W' ⟨he, hg⟩ => ?_
  subst he
  exact ⟨_, rfl, Law.post_true (tb := 4) (kids_rows (by kernel_rfl) (by kernel_rfl)) (by unfold Law.Full; kernel_rfl) hW' rfl (by rw [Try.params4]; decide +kernel) Try.underlying4 (by kernel_rfl) rfl hg⟩

noncomputable def start (os : Os) : World := World.holding Try.prog os ⟨#[], #[], []⟩
theorem reads (os : Os) {H : Type} (enc : TypeId × Value → H) : ∃ places, DataW.whole enc Try.prog ((start os).forCall (fun _ _ => 0) ⟨#[], #[.agg #[.int .i64 0, .slice none 0 0], .agg #[.int .i64 0, .int .i64 0]], []⟩).memory Try.f4.params.toList Rows.fnExactHoldsInSpec.vars false (#[.agg #[.int .i64 0, .slice none 0 0], .agg #[.int .i64 0, .int .i64 0]] : Array Value).toList 8 = some ([.agg [.lit (.int .i64 0), .nil], .agg [.lit (.int .i64 0), .lit (.int .i64 0)]], [], places) :=
  ⟨[], by kernel_rfl⟩
theorem own : ownKnob Try.prog.godebug = none := by kernel_rfl

set_option maxRecDepth 100000 in
theorem lifted (os : Os) (started : os.Started) (H : Type) (enc : TypeId × Value → H) (F : Stop.Interp) :
    ReturnsInHanded {} Try.checked os 4 .any ((OpenSpec.ofChange Rows.fnExactHoldsInSpec).preRow enc Try.prog Try.f4 Rows.fnExactHoldsInRow.domain false Rows.fnExactHoldsInRow.laid) (((OpenSpec.ofChange Rows.fnExactHoldsInSpec).at F).post enc Try.prog Try.f4 false true false false) := by
  obtain ⟨places, hx⟩ := reads os enc
  refine returnsInHanded_of_row (C := Try.checked) (s := OpenSpec.ofChange Rows.fnExactHoldsInSpec) own started (by kernel_rfl) Try.func4
    (witness_row_at (enc := enc) (C := Try.checked) false (start os) #[.agg #[.int .i64 0, .slice none 0 0], .agg #[.int .i64 0, .int .i64 0]] rfl (by kernel_rfl) (by kernel_rfl) (by kernel_rfl)
      (OpenSpec.preRow_of_cond 8 hx (by kernel_rfl) (fun k hk => by cases hk) (by kernel_rfl) (laidMet_of_run' 8 (by kernel_rfl) (by kernel_rfl)))) ?_
  intro W base args ds gs before hval hW _ _ _ _ _ _
  exact contract H enc W base args ds gs before hval hW

theorem said : Rows.FnExactHoldsInSaid :=
  OpenClaim.holds_of_cond 4 Try.f4 rfl rfl rfl rfl rfl rfl rfl ⟨rfl, rfl, rfl, rfl, rfl⟩ rfl rfl rfl rfl rfl (by kernel_rfl) Try.func4 (by kernel_rfl)
    (of_decide_eq_true (by kernel_rfl)) (by unfold Func.isWrapper; first | (rw [if_pos (by decide +kernel)]; kernel_rfl) | (rw [if_neg (by decide +kernel)]; exact ⟨rfl, rfl⟩))
    (fun os started H enc _ F => by rw [OpenClaim.pre_eq_preRow]; exact lifted os started H enc F)
end Go.Proofs.Ytmdpiikffnfnbaa.FnExactHoldsIn
