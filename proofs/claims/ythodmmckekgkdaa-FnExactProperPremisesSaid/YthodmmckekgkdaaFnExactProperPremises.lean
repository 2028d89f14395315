/-
  For all arguments the law FnExactProperPremises returns true: the function of the program returns what the function of the model returns, in memory of its own, and leaves its arguments as they are. No condition.
-/
import Derived.Test.YthodmmckekgkdaaRows
import Derived.Test.YthodmmckekgkdaaLaw
import Derived.Test.YthodmmckekgkdaaDual
import Derived.Test.YthodmmckekgkdaaMrg9
import Derived.Deep.RegionHeld3
import Derived.Lib.SmallJoins
import Derived.WalkKit
import Derived.ProofKit
import Derived.OpenShut
import Derived.Deep.DeepHandedRow
import Derived.LaidMore
import Derived.Stop.LaidErr
import Derived.ChangeMaps5
import Derived.Outline
import Derived.LoopTactic
import Derived.Lib.Hide
import Derived.Below
namespace Go.Proofs.Ythodmmckekgkdaa.FnExactProperPremises
open Go Go.ChangeShapes Go.WideShapes Go.ChangeAt Go.ChangeMaps Go.RowKit Mem Ctx

theorem asInts {xs : List Int} {w : World} {e : Ending} {w' : World} (h : ∃ u, e = .returned u ∧ Mem.Own 3 w' w.heap.size w'.heap.size u (ints xs) ∧ Below w.heap.size w w') :
    ∃ p c, e = .returned (.slice p xs.length c) ∧ Mem.Own 3 w' w.heap.size w'.heap.size (.slice p xs.length c) (ints xs) ∧ Below w.heap.size w w' := by
  obtain ⟨u, he, o, b⟩ := h
  obtain ⟨p, c, rfl⟩ := own_form o
  exact ⟨p, c, he, o, b⟩
theorem boxApart {w w' : World} {g lo hi : Nat} {t : TypeId} {cs : Array Value} (h : BoxAt w g t cs) (ha : Apart lo hi w w') (hg : g < lo ∨ hi ≤ g) : BoxAt w' g t cs := (ha.block g h.lt hg).trans h
theorem ownBoxed {e : TypeId} {w : World} {lo hi : Nat} {v : Value} {cs : List Value} (h : Mem.Own e w lo hi v cs) (hh : hi ≤ w.heap.size) (o : Obj) : Mem.Own e (w.alloc o) lo hi v cs := h.below (B := w.heap.size) ((Below.refl _ _).alloc (Nat.le_refl _) o) hh
theorem keep4 {w w' : World} {B : Nat} {p q r s : Addr} {x y z t : Value} (hb : Below B w w') (h : w.cell? p = some x ∧ w.cell? q = some y ∧ w.cell? r = some z ∧ w.cell? s = some t) (hp : p.block < B) (hq : q.block < B) (hr : r.block < B) (hs : s.block < B) :
    w'.cell? p = some x ∧ w'.cell? q = some y ∧ w'.cell? r = some z ∧ w'.cell? s = some t :=
  ⟨(hb.cell hp).trans h.1, (hb.cell hq).trans h.2.1, (hb.cell hr).trans h.2.2.1, (hb.cell hs).trans h.2.2.2⟩
theorem asCtx {x : Option (Int × List Int)} {n : Int} {xs : List Int} {ok : Bool} (hn : (x.getD (0, [])).1 = n) (hx : (x.getD (0, [])).2 = xs) (ho : x.isSome = ok) {w : World} {e : Ending} {w' : World} (h : CtxRes x w e w') :
    ∃ p c, e = .returned (.tuple #[ctx n (.slice p xs.length c), .bool ok]) ∧ Mem.Own 3 w' w.heap.size w'.heap.size (.slice p xs.length c) (ints xs) ∧ Below w.heap.size w w' := by
  subst hn hx ho
  obtain ⟨u, he, o, b⟩ := h
  obtain ⟨p, c, rfl⟩ := own_form o
  exact ⟨p, c, he, o, b⟩

set_option maxRecDepth 100000 in
set_option maxHeartbeats 4000000 in
theorem walk (c : Int) (cv : Value) (cr : List Int) (w : World) (hc : Reads w w.heap.size cv (ints cr)) :
    Calls Try.prog 8 #[ctx c cv] w fun e w' => e = .returned (.bool true) ∧ Below w.heap.size w w' := by
  have hlc : cr.length ≤ 9223372036854775807 := by have := hc.1; unfold maxLen at this; simp [ints] at this; omega
  obtain ⟨cp, cc, rfl⟩ := reads_form hc
  have HRc := Lib.hid hc
  clear hc
  by_cases hlen0 : 1048576 < (cr.length : Int)
  · have HZ0 := Lib.hid (fun w => szCtx c (.slice cp cr.length cc) cr.length 1048576 w ⟨_, _, rfl⟩ hlc (by omega) (by omega))
    simp only [if_pos hlen0] at HZ0
    go_enter Try.func8, Try.ntmps8
    go_wp2_with fail
    refine (HZ0.out _).mono ?_
    rintro e w1 ⟨rfl, b1⟩
    have hs1 : w.heap.size + 1 ≤ w1.heap.size := by have := b1.size; simpa using this
    have T1 := Lib.hid (((Below.refl w.heap.size w).alloc (by first | omega | (simp; omega) | simp) (.cells #[.int .i64 c, .slice cp cr.length cc] 49)).trans (b1.mono (by first | omega | (simp; omega) | simp)))
    have Ac1 := Lib.hid ((show BoxAt _ (w.heap.size) _ _ by have := (BoxAt.new w 49 #[.int .i64 c, .slice cp cr.length cc]); simpa using this).below b1 (by first | omega | (simp; omega) | simp))
    have zAc_1 : w.heap.size < w1.heap.size := Ac1.out.lt
    have cAc_0_1 : w1.cell? ⟨w.heap.size, 0, none⟩ = some (.int .i64 c) := Ac1.out.cell 0
    have cAc_1_1 : w1.cell? ⟨w.heap.size, 1, none⟩ = some (.slice cp cr.length cc) := Ac1.out.cell 1
    clear b1
    go_wp2_with fail
    go_ret
    exact ⟨rfl, T1.out⟩
  have HZ0 := Lib.hid (fun w => szCtx c (.slice cp cr.length cc) cr.length 1048576 w ⟨_, _, rfl⟩ hlc (by omega) (by omega))
  simp only [if_neg hlen0] at HZ0
  have hd0 : decide (1048576 - (cr.length : Int) < 0) = false := by simp; omega
  have hxlc : cr.length ≤ 1048576 := by omega
  have hnl : (Direct.properPremises c cr).length ≤ 64 := Direct.prem_len c cr
  obtain ⟨xs, hxs⟩ : ∃ xs, Direct.properPremises c cr = xs := ⟨_, rfl⟩
  have HS := Lib.hid (fun v B w h hB => (Direct.spec_prem c v cr B w h hB).mono (fun _ _ h => asInts (xs := xs) (by rw [hxs] at h; exact h)))
  have HI := Lib.hid (fun v B w h hB => (Direct.impl_prem c v cr B w h hB).mono (fun _ _ h => asInts (xs := xs) (by rw [hxs] at h; exact h)))
  rw [hxs] at hnl
  have hq : (xs == xs) = true := by simp
  clear hxs
  clear hlen0 hlc
  go_enter Try.func8, Try.ntmps8
  go_wp2_with fail
  refine (HZ0.out _).mono ?_
  rintro e w1 ⟨rfl, b1⟩
  have hs1 : w.heap.size + 1 ≤ w1.heap.size := by have := b1.size; simpa using this
  have T1 := Lib.hid (((Below.refl w.heap.size w).alloc (by first | omega | (simp; omega) | simp) (.cells #[.int .i64 c, .slice cp cr.length cc] 49)).trans (b1.mono (by first | omega | (simp; omega) | simp)))
  have Ac1 := Lib.hid ((show BoxAt _ (w.heap.size) _ _ by have := (BoxAt.new w 49 #[.int .i64 c, .slice cp cr.length cc]); simpa using this).below b1 (by first | omega | (simp; omega) | simp))
  have zAc_1 : w.heap.size < w1.heap.size := Ac1.out.lt
  have cAc_0_1 : w1.cell? ⟨w.heap.size, 0, none⟩ = some (.int .i64 c) := Ac1.out.cell 0
  have cAc_1_1 : w1.cell? ⟨w.heap.size, 1, none⟩ = some (.slice cp cr.length cc) := Ac1.out.cell 1
  clear b1
  go_wp2_with fail
  refine (toCtx c _ cr w.heap.size _ (HRc.out.below T1.out (Nat.le_refl _)) (by first | omega | (simp; omega) | simp) hxlc).mono ?_
  rintro e w2 ⟨u2, rfl, o2, b2⟩
  obtain ⟨p2, q2, rfl⟩ := own_form o2
  have P02 := Lib.hid (o2.mono (lo' := w1.heap.size) (by first | omega | (simp; omega) | simp) (Nat.le_refl _))
  have hs2 : w1.heap.size ≤ w2.heap.size := by have := b2.size; simpa using this
  have T2 := Lib.hid (T1.out.trans (b2.mono (by first | omega | (simp; omega) | simp)))
  have Ac2 := Lib.hid (Ac1.out.below b2 (by first | omega | (simp; omega) | simp))
  have zAc_2 : w.heap.size < w2.heap.size := Ac2.out.lt
  have cAc_0_2 : w2.cell? ⟨w.heap.size, 0, none⟩ = some (.int .i64 c) := Ac2.out.cell 0
  have cAc_1_2 : w2.cell? ⟨w.heap.size, 1, none⟩ = some (.slice cp cr.length cc) := Ac2.out.cell 1
  clear o2 b2 T1 Ac1 zAc_1 cAc_0_1 cAc_1_1
  go_wp2_with fail
  refine (HS.out _ w2.heap.size _ P02.out.reads (by first | omega | (simp; omega) | simp)).mono ?_
  rintro e w3 ⟨p3, q3, rfl, o3, b3⟩
  have Wn3 := Lib.hid (o3.mono (lo' := w2.heap.size) (by first | omega | (simp; omega) | simp) (Nat.le_refl _))
  have hs3 : w2.heap.size ≤ w3.heap.size := by have := b3.size; simpa using this
  have T3 := Lib.hid (T2.out.trans (b3.mono (by first | omega | (simp; omega) | simp)))
  have Ac3 := Lib.hid (Ac2.out.below b3 (by first | omega | (simp; omega) | simp))
  have P03 := Lib.hid (P02.out.below b3 (by first | omega | (simp; omega) | simp))
  have zAc_3 : w.heap.size < w3.heap.size := Ac3.out.lt
  have cAc_0_3 : w3.cell? ⟨w.heap.size, 0, none⟩ = some (.int .i64 c) := Ac3.out.cell 0
  have cAc_1_3 : w3.cell? ⟨w.heap.size, 1, none⟩ = some (.slice cp cr.length cc) := Ac3.out.cell 1
  clear o3 b3 T2 Ac2 P02 zAc_2 cAc_0_2 cAc_1_2
  clear P03
  go_wp2_with fail
  refine (toCtx c _ cr w.heap.size _ (HRc.out.below T3.out (Nat.le_refl _)) (by first | omega | (simp; omega) | simp) hxlc).mono ?_
  rintro e w4 ⟨u4, rfl, o4, b4⟩
  obtain ⟨p4, q4, rfl⟩ := own_form o4
  have X04 := Lib.hid (o4.mono (lo' := w3.heap.size) (by first | omega | (simp; omega) | simp) (Nat.le_refl _))
  have hs4 : w3.heap.size ≤ w4.heap.size := by have := b4.size; simpa using this
  have T4 := Lib.hid (T3.out.trans (b4.mono (by first | omega | (simp; omega) | simp)))
  have Ac4 := Lib.hid (Ac3.out.below b4 (by first | omega | (simp; omega) | simp))
  have Wn4 := Lib.hid (Wn3.out.below b4 (by first | omega | (simp; omega) | simp))
  have zAc_4 : w.heap.size < w4.heap.size := Ac4.out.lt
  have cAc_0_4 : w4.cell? ⟨w.heap.size, 0, none⟩ = some (.int .i64 c) := Ac4.out.cell 0
  have cAc_1_4 : w4.cell? ⟨w.heap.size, 1, none⟩ = some (.slice cp cr.length cc) := Ac4.out.cell 1
  clear o4 b4 T3 Ac3 Wn3 zAc_3 cAc_0_3 cAc_1_3
  go_wp2_with fail
  refine (HI.out _ w4.heap.size _ (boxed X04.out.reads (by first | omega | (simp; omega) | simp) (.cells #[.int .i64 c, .slice p4 cr.length q4] 26)) (by first | omega | (simp; omega) | simp)).mono ?_
  rintro e w5 ⟨p5, q5, rfl, o5, b5⟩
  have Gn5 := Lib.hid (o5.mono (lo' := w4.heap.size + 1) (by first | omega | (simp; omega) | simp) (Nat.le_refl _))
  have hs5 : w4.heap.size + 1 ≤ w5.heap.size := by have := b5.size; simpa using this
  have T5 := Lib.hid ((T4.out.alloc (by first | omega | (simp; omega) | simp) (.cells #[.int .i64 c, .slice p4 cr.length q4] 26)).trans (b5.mono (by first | omega | (simp; omega) | simp)))
  have Ac5 := Lib.hid ((Ac4.out.alloc (.cells #[.int .i64 c, .slice p4 cr.length q4] 26)).below b5 (by first | omega | (simp; omega) | simp))
  have Bx05 := Lib.hid ((show BoxAt _ (w4.heap.size) _ _ by have := (BoxAt.new w4 26 #[.int .i64 c, .slice p4 cr.length q4]); simpa using this).below b5 (by first | omega | (simp; omega) | simp))
  have Wn5 := Lib.hid ((ownBoxed Wn4.out (by first | omega | (simp; omega) | simp) (.cells #[.int .i64 c, .slice p4 cr.length q4] 26)).below b5 (by first | omega | (simp; omega) | simp))
  have X05 := Lib.hid ((ownBoxed X04.out (by first | omega | (simp; omega) | simp) (.cells #[.int .i64 c, .slice p4 cr.length q4] 26)).below b5 (by first | omega | (simp; omega) | simp))
  have zAc_5 : w.heap.size < w5.heap.size := Ac5.out.lt
  have cAc_0_5 : w5.cell? ⟨w.heap.size, 0, none⟩ = some (.int .i64 c) := Ac5.out.cell 0
  have cAc_1_5 : w5.cell? ⟨w.heap.size, 1, none⟩ = some (.slice cp cr.length cc) := Ac5.out.cell 1
  have zBx0_5 : w4.heap.size < w5.heap.size := Bx05.out.lt
  have cBx0_0_5 : w5.cell? ⟨w4.heap.size, 0, none⟩ = some (.int .i64 c) := Bx05.out.cell 0
  have cBx0_1_5 : w5.cell? ⟨w4.heap.size, 1, none⟩ = some (.slice p4 cr.length q4) := Bx05.out.cell 1
  clear o5 b5 T4 Ac4 Wn4 X04 zAc_4 cAc_0_4 cAc_1_4
  go_wp2_with fail
  refine (Ints.eqInts _ _ xs xs w5.heap.size w3.heap.size _ Gn5.out.reads Wn5.out.reads (by first | omega | (simp; omega) | simp) (by first | omega | (simp; omega) | simp)).mono ?_
  rintro e w6 ⟨rfl, b6⟩
  have hs6 : w5.heap.size ≤ w6.heap.size := by have := b6.size; simpa using this
  have T6 := Lib.hid (T5.out.trans (b6.mono (by first | omega | (simp; omega) | simp)))
  have Ac6 := Lib.hid (Ac5.out.below b6 (by first | omega | (simp; omega) | simp))
  have Bx06 := Lib.hid (Bx05.out.below b6 (by first | omega | (simp; omega) | simp))
  have Wn6 := Lib.hid (Wn5.out.below b6 (by first | omega | (simp; omega) | simp))
  have X06 := Lib.hid (X05.out.below b6 (by first | omega | (simp; omega) | simp))
  have Gn6 := Lib.hid (Gn5.out.below b6 (by first | omega | (simp; omega) | simp))
  have zAc_6 : w.heap.size < w6.heap.size := Ac6.out.lt
  have cAc_0_6 : w6.cell? ⟨w.heap.size, 0, none⟩ = some (.int .i64 c) := Ac6.out.cell 0
  have cAc_1_6 : w6.cell? ⟨w.heap.size, 1, none⟩ = some (.slice cp cr.length cc) := Ac6.out.cell 1
  have zBx0_6 : w4.heap.size < w6.heap.size := Bx06.out.lt
  have cBx0_0_6 : w6.cell? ⟨w4.heap.size, 0, none⟩ = some (.int .i64 c) := Bx06.out.cell 0
  have cBx0_1_6 : w6.cell? ⟨w4.heap.size, 1, none⟩ = some (.slice p4 cr.length q4) := Bx06.out.cell 1
  clear b6 T5 Ac5 Bx05 Wn5 X05 Gn5 zAc_5 cAc_0_5 cAc_1_5 zBx0_5 cBx0_0_5 cBx0_1_5
  go_wp2_with fail
  have RD := Lib.hid (X06.out.reads.below (Below.refl w6.heap.size w6).drew (by first | omega | (simp; omega) | simp))
  go_region_held3 (fun wx => wx.cell? ⟨w.heap.size, 0, none⟩ = some (.int .i64 c) ∧ wx.cell? ⟨w.heap.size, 1, none⟩ = some (.slice cp cr.length cc) ∧ wx.cell? ⟨w4.heap.size, 0, none⟩ = some (.int .i64 c) ∧ wx.cell? ⟨w4.heap.size, 1, none⟩ = some (.slice p4 cr.length q4))
    (first | exact ⟨cAc_0_6, cAc_1_6, cBx0_0_6, cBx0_1_6⟩ | exact keep4 (w := w6.drew) (B := w6.heap.size) b7 ⟨cAc_0_6, cAc_1_6, cBx0_0_6, cBx0_1_6⟩ (by show w.heap.size < _; omega) (by show w.heap.size < _; omega) (by show w4.heap.size < _; omega) (by show w4.heap.size < _; omega) | exact keep4 (w := w6.drew) (B := w6.heap.size) (b7.trans (b8.mono b7.size)) ⟨cAc_0_6, cAc_1_6, cBx0_0_6, cBx0_1_6⟩ (by show w.heap.size < _; omega) (by show w.heap.size < _; omega) (by show w4.heap.size < _; omega) (by show w4.heap.size < _; omega))
    (first | (go_at_call 42; refine (toCtx c _ cr w.heap.size w6.drew (HRc.out.below T6.out.drew (Nat.le_refl _)) (by show w.heap.size ≤ w6.heap.size; omega) hxlc).mono ?_; rintro e w7 ⟨u7, rfl, o7, b7⟩; obtain ⟨p7, q7, rfl⟩ := own_form o7) | (go_at_call 44; refine (eqCtx c c _ _ cr cr w4.heap.size w7.heap.size w7 (RD.out.below b7 (by show w4.heap.size ≤ w6.heap.size; omega)) o7.reads (by have := b7.size; show w4.heap.size ≤ w7.heap.size; change w6.heap.size ≤ w7.heap.size at this; omega) (Nat.le_refl _)).mono ?_; rintro e w8 ⟨rfl, b8⟩) | fail)
  have bb := (Below.refl w6.heap.size w6).drew.trans (b7.trans (b8.mono b7.size))
  clear b7 o7 RD
  clear b8
  have b8 := bb
  clear bb
  have hs8 : w6.heap.size ≤ w8.heap.size := by have := b8.size; simpa using this
  have T8 := Lib.hid (T6.out.trans (b8.mono (by first | omega | (simp; omega) | simp)))
  have Ac8 := Lib.hid (Ac6.out.below b8 (by first | omega | (simp; omega) | simp))
  have Bx08 := Lib.hid (Bx06.out.below b8 (by first | omega | (simp; omega) | simp))
  have Wn8 := Lib.hid (Wn6.out.below b8 (by first | omega | (simp; omega) | simp))
  have X08 := Lib.hid (X06.out.below b8 (by first | omega | (simp; omega) | simp))
  have Gn8 := Lib.hid (Gn6.out.below b8 (by first | omega | (simp; omega) | simp))
  have zAc_8 : w.heap.size < w8.heap.size := Ac8.out.lt
  have cAc_0_8 : w8.cell? ⟨w.heap.size, 0, none⟩ = some (.int .i64 c) := Ac8.out.cell 0
  have cAc_1_8 : w8.cell? ⟨w.heap.size, 1, none⟩ = some (.slice cp cr.length cc) := Ac8.out.cell 1
  have zBx0_8 : w4.heap.size < w8.heap.size := Bx08.out.lt
  have cBx0_0_8 : w8.cell? ⟨w4.heap.size, 0, none⟩ = some (.int .i64 c) := Bx08.out.cell 0
  have cBx0_1_8 : w8.cell? ⟨w4.heap.size, 1, none⟩ = some (.slice p4 cr.length q4) := Bx08.out.cell 1
  clear b8 T6 Ac6 Bx06 Wn6 X06 Gn6 zAc_6 cAc_0_6 cAc_1_6 zBx0_6 cBx0_0_6 cBx0_1_6
  have hqq0 : (c == c && cr == cr) = true := by simp
  go_wp2_with fail
  refine (markCtx c _ cr 1 (w3.heap.size) w4.heap.size _ X08.out (by first | omega | (simp; omega) | simp) (by first | omega | (simp; omega) | simp)).mono ?_
  rintro e w9 ⟨rfl, m9, b9⟩
  have X09 := Lib.hid m9
  have hs9 : w8.heap.size ≤ w9.heap.size := by have := b9.size; simpa using this
  have T9 := Lib.hid (T8.out.trans (b9.below (B := w.heap.size) (by first | omega | (simp; omega) | simp) (by first | omega | (simp; omega) | simp)))
  have Ac9 := Lib.hid (boxApart Ac8.out b9 (by first | omega | (simp; omega) | simp))
  have Bx09 := Lib.hid (boxApart Bx08.out b9 (by first | omega | (simp; omega) | simp))
  have Wn9 := Lib.hid (Wn8.out.apart b9 (by first | omega | (simp; omega) | simp))
  have Gn9 := Lib.hid (Gn8.out.apart b9 (by first | omega | (simp; omega) | simp))
  have zAc_9 : w.heap.size < w9.heap.size := Ac9.out.lt
  have cAc_0_9 : w9.cell? ⟨w.heap.size, 0, none⟩ = some (.int .i64 c) := Ac9.out.cell 0
  have cAc_1_9 : w9.cell? ⟨w.heap.size, 1, none⟩ = some (.slice cp cr.length cc) := Ac9.out.cell 1
  have zBx0_9 : w4.heap.size < w9.heap.size := Bx09.out.lt
  have cBx0_0_9 : w9.cell? ⟨w4.heap.size, 0, none⟩ = some (.int .i64 c) := Bx09.out.cell 0
  have cBx0_1_9 : w9.cell? ⟨w4.heap.size, 1, none⟩ = some (.slice p4 cr.length q4) := Bx09.out.cell 1
  clear m9 b9 T8 Ac8 Bx08 Wn8 X08 Gn8 zAc_8 cAc_0_8 cAc_1_8 zBx0_8 cBx0_0_8 cBx0_1_8
  go_wp2_with fail
  refine (Ints.eqInts _ _ xs xs w5.heap.size w3.heap.size _ Gn9.out.reads Wn9.out.reads (by first | omega | (simp; omega) | simp) (by first | omega | (simp; omega) | simp)).mono ?_
  rintro e w10 ⟨rfl, b10⟩
  have hs10 : w9.heap.size ≤ w10.heap.size := by have := b10.size; simpa using this
  have T10 := Lib.hid (T9.out.trans (b10.mono (by first | omega | (simp; omega) | simp)))
  have Ac10 := Lib.hid (Ac9.out.below b10 (by first | omega | (simp; omega) | simp))
  have Bx010 := Lib.hid (Bx09.out.below b10 (by first | omega | (simp; omega) | simp))
  have Wn10 := Lib.hid (Wn9.out.below b10 (by first | omega | (simp; omega) | simp))
  have X010 := Lib.hid (X09.out.below b10 (by first | omega | (simp; omega) | simp))
  have Gn10 := Lib.hid (Gn9.out.below b10 (by first | omega | (simp; omega) | simp))
  have zAc_10 : w.heap.size < w10.heap.size := Ac10.out.lt
  have cAc_0_10 : w10.cell? ⟨w.heap.size, 0, none⟩ = some (.int .i64 c) := Ac10.out.cell 0
  have cAc_1_10 : w10.cell? ⟨w.heap.size, 1, none⟩ = some (.slice cp cr.length cc) := Ac10.out.cell 1
  have zBx0_10 : w4.heap.size < w10.heap.size := Bx010.out.lt
  have cBx0_0_10 : w10.cell? ⟨w4.heap.size, 0, none⟩ = some (.int .i64 c) := Bx010.out.cell 0
  have cBx0_1_10 : w10.cell? ⟨w4.heap.size, 1, none⟩ = some (.slice p4 cr.length q4) := Bx010.out.cell 1
  clear b10 T9 Ac9 Bx09 Wn9 X09 Gn9 zAc_9 cAc_0_9 cAc_1_9 zBx0_9 cBx0_0_9 cBx0_1_9
  clear X010
  go_wp2_with fail
  refine (Ints.markInts _ xs 1 (w4.heap.size + 1) w5.heap.size _ Gn10.out (by first | omega | (simp; omega) | simp)).mono ?_
  rintro e w11 ⟨rfl, m11, b11⟩
  have Gn11 := Lib.hid m11
  have hs11 : w10.heap.size ≤ w11.heap.size := by have := b11.size; simpa using this
  have T11 := Lib.hid (T10.out.trans (b11.below (B := w.heap.size) (by first | omega | (simp; omega) | simp) (by first | omega | (simp; omega) | simp)))
  have Ac11 := Lib.hid (boxApart Ac10.out b11 (by first | omega | (simp; omega) | simp))
  have Bx011 := Lib.hid (boxApart Bx010.out b11 (by first | omega | (simp; omega) | simp))
  have Wn11 := Lib.hid (Wn10.out.apart b11 (by first | omega | (simp; omega) | simp))
  have zAc_11 : w.heap.size < w11.heap.size := Ac11.out.lt
  have cAc_0_11 : w11.cell? ⟨w.heap.size, 0, none⟩ = some (.int .i64 c) := Ac11.out.cell 0
  have cAc_1_11 : w11.cell? ⟨w.heap.size, 1, none⟩ = some (.slice cp cr.length cc) := Ac11.out.cell 1
  have zBx0_11 : w4.heap.size < w11.heap.size := Bx011.out.lt
  have cBx0_0_11 : w11.cell? ⟨w4.heap.size, 0, none⟩ = some (.int .i64 c) := Bx011.out.cell 0
  have cBx0_1_11 : w11.cell? ⟨w4.heap.size, 1, none⟩ = some (.slice p4 cr.length q4) := Bx011.out.cell 1
  clear m11 b11 T10 Ac10 Bx010 Wn10 Gn10 zAc_10 cAc_0_10 cAc_1_10 zBx0_10 cBx0_0_10 cBx0_1_10
  go_wp2_with fail
  refine (Ints.heldInts _ (seq 1 xs.length) 1 xs.length w5.heap.size _ Gn11.out.reads rfl (by first | omega | (simp; omega) | simp)).mono ?_
  rintro e w11 ⟨rfl, rfl⟩
  go_wp2_with fail
  refine (toCtx c _ cr w.heap.size _ (HRc.out.below T11.out (Nat.le_refl _)) (by first | omega | (simp; omega) | simp) hxlc).mono ?_
  rintro e w12 ⟨u12, rfl, o12, b12⟩
  obtain ⟨p12, q12, rfl⟩ := own_form o12
  have Y012 := Lib.hid (o12.mono (lo' := w11.heap.size) (by first | omega | (simp; omega) | simp) (Nat.le_refl _))
  have hs12 : w11.heap.size ≤ w12.heap.size := by have := b12.size; simpa using this
  have T12 := Lib.hid (T11.out.trans (b12.mono (by first | omega | (simp; omega) | simp)))
  have Ac12 := Lib.hid (Ac11.out.below b12 (by first | omega | (simp; omega) | simp))
  have Bx012 := Lib.hid (Bx011.out.below b12 (by first | omega | (simp; omega) | simp))
  have Wn12 := Lib.hid (Wn11.out.below b12 (by first | omega | (simp; omega) | simp))
  have Gn12 := Lib.hid (Gn11.out.below b12 (by first | omega | (simp; omega) | simp))
  have zAc_12 : w.heap.size < w12.heap.size := Ac12.out.lt
  have cAc_0_12 : w12.cell? ⟨w.heap.size, 0, none⟩ = some (.int .i64 c) := Ac12.out.cell 0
  have cAc_1_12 : w12.cell? ⟨w.heap.size, 1, none⟩ = some (.slice cp cr.length cc) := Ac12.out.cell 1
  have zBx0_12 : w4.heap.size < w12.heap.size := Bx012.out.lt
  have cBx0_0_12 : w12.cell? ⟨w4.heap.size, 0, none⟩ = some (.int .i64 c) := Bx012.out.cell 0
  have cBx0_1_12 : w12.cell? ⟨w4.heap.size, 1, none⟩ = some (.slice p4 cr.length q4) := Bx012.out.cell 1
  clear o12 b12 T11 Ac11 Bx011 Wn11 Gn11 zAc_11 cAc_0_11 cAc_1_11 zBx0_11 cBx0_0_11 cBx0_1_11
  go_wp2_with fail
  refine (HI.out _ w12.heap.size _ Y012.out.reads (by first | omega | (simp; omega) | simp)).mono ?_
  rintro e w13 ⟨p13, q13, rfl, o13, b13⟩
  have Hn13 := Lib.hid (o13.mono (lo' := w12.heap.size) (by first | omega | (simp; omega) | simp) (Nat.le_refl _))
  have hs13 : w12.heap.size ≤ w13.heap.size := by have := b13.size; simpa using this
  have T13 := Lib.hid (T12.out.trans (b13.mono (by first | omega | (simp; omega) | simp)))
  have Ac13 := Lib.hid (Ac12.out.below b13 (by first | omega | (simp; omega) | simp))
  have Bx013 := Lib.hid (Bx012.out.below b13 (by first | omega | (simp; omega) | simp))
  have Wn13 := Lib.hid (Wn12.out.below b13 (by first | omega | (simp; omega) | simp))
  have Gn13 := Lib.hid (Gn12.out.below b13 (by first | omega | (simp; omega) | simp))
  have Y013 := Lib.hid (Y012.out.below b13 (by first | omega | (simp; omega) | simp))
  have zAc_13 : w.heap.size < w13.heap.size := Ac13.out.lt
  have cAc_0_13 : w13.cell? ⟨w.heap.size, 0, none⟩ = some (.int .i64 c) := Ac13.out.cell 0
  have cAc_1_13 : w13.cell? ⟨w.heap.size, 1, none⟩ = some (.slice cp cr.length cc) := Ac13.out.cell 1
  have zBx0_13 : w4.heap.size < w13.heap.size := Bx013.out.lt
  have cBx0_0_13 : w13.cell? ⟨w4.heap.size, 0, none⟩ = some (.int .i64 c) := Bx013.out.cell 0
  have cBx0_1_13 : w13.cell? ⟨w4.heap.size, 1, none⟩ = some (.slice p4 cr.length q4) := Bx013.out.cell 1
  clear o13 b13 T12 Ac12 Bx012 Wn12 Gn12 Y012 zAc_12 cAc_0_12 cAc_1_12 zBx0_12 cBx0_0_12 cBx0_1_12
  clear Y013
  go_wp2_with fail
  refine (Ints.eqInts _ _ xs xs w13.heap.size w3.heap.size _ Hn13.out.reads Wn13.out.reads (by first | omega | (simp; omega) | simp) (by first | omega | (simp; omega) | simp)).mono ?_
  rintro e w14 ⟨rfl, b14⟩
  have hs14 : w13.heap.size ≤ w14.heap.size := by have := b14.size; simpa using this
  have T14 := Lib.hid (T13.out.trans (b14.mono (by first | omega | (simp; omega) | simp)))
  have Ac14 := Lib.hid (Ac13.out.below b14 (by first | omega | (simp; omega) | simp))
  have Bx014 := Lib.hid (Bx013.out.below b14 (by first | omega | (simp; omega) | simp))
  have Wn14 := Lib.hid (Wn13.out.below b14 (by first | omega | (simp; omega) | simp))
  have Gn14 := Lib.hid (Gn13.out.below b14 (by first | omega | (simp; omega) | simp))
  have Hn14 := Lib.hid (Hn13.out.below b14 (by first | omega | (simp; omega) | simp))
  have zAc_14 : w.heap.size < w14.heap.size := Ac14.out.lt
  have cAc_0_14 : w14.cell? ⟨w.heap.size, 0, none⟩ = some (.int .i64 c) := Ac14.out.cell 0
  have cAc_1_14 : w14.cell? ⟨w.heap.size, 1, none⟩ = some (.slice cp cr.length cc) := Ac14.out.cell 1
  have zBx0_14 : w4.heap.size < w14.heap.size := Bx014.out.lt
  have cBx0_0_14 : w14.cell? ⟨w4.heap.size, 0, none⟩ = some (.int .i64 c) := Bx014.out.cell 0
  have cBx0_1_14 : w14.cell? ⟨w4.heap.size, 1, none⟩ = some (.slice p4 cr.length q4) := Bx014.out.cell 1
  clear b14 T13 Ac13 Bx013 Wn13 Gn13 Hn13 zAc_13 cAc_0_13 cAc_1_13 zBx0_13 cBx0_0_13 cBx0_1_13
  clear Hn14
  go_wp2_with fail
  refine (Ints.heldInts _ (seq 1 xs.length) 1 xs.length w5.heap.size _ Gn14.out.reads rfl (by first | omega | (simp; omega) | simp)).mono ?_
  rintro e w14 ⟨rfl, rfl⟩
  go_wp2_with fail
  go_ret
  exact ⟨rfl, T14.out⟩

set_option maxRecDepth 100000 in
theorem contract (H : Type) (enc : TypeId × Value → H) (W : World) (base : Nat) (args : Array Value) (ds gs : List (DataW H)) (before : List MemPlace)
    (hval : ∀ (j : Nat) t v, Try.f8.params[j]? = some t → args[j]? = some v → Value.okWide Try.prog W .any base t v)
    (hW : DataW.Whole enc Try.prog Try.f8.params.toList Rows.fnExactProperPremisesSpec.vars false W args.toList ds gs before) :
    Calls Try.prog 8 args W fun e W' => ∃ v, e = .returned v ∧ Rows.fnExactProperPremisesSpec.post enc Try.prog Try.f8 false true false false W args v W' := by
  have hW' := hW
  obtain ⟨p, q, hA0, hV, rfl, hfz, hnd⟩ := hW
  have hA : DataW.TrodAll enc Try.prog W 0 (fun _ => true) true Try.f8.params.toList args.toList ds p := hA0
  rw [Try.params8] at hA hval
  obtain ⟨v0, vs0, d0, ds0, p0, q0, hargs, rfl, rfl, h0, r0⟩ := trodAll_cons hA
  obtain ⟨rfl, rfl, rfl⟩ := trodAll_nil r0
  obtain rfl : args = #[v0] := by cases args; simp_all
  obtain ⟨a0, u0, rs0, rfl, hr0⟩ : ∃ (a : Int) (u : Value) (rs : List Int), v0 = Ctx.ctx a u ∧ Reads W W.heap.size u (ints rs) := by
    obtain ⟨c0, c1, y0, y1, n, rfl, -, -, g0, g1⟩ := Joins.open_agg2 Try.underlying49 (by kernel_rfl) (by kernel_rfl) (hval 0 49 v0 rfl rfl) h0
    obtain ⟨a, ha, -, -⟩ := DataW.trod_int Try.underlying3 g0
    obtain rfl : c0 = .int .i64 a := by simpa using ha
    rcases open_ints Try.underlying24 Try.underlying3 (by kernel_rfl) g1 with ⟨hcs, -⟩ | ⟨a', len, cap, zs, hcs, -, hl, hm, hz, -, hcell, -⟩
    · obtain rfl : c1 = .slice none 0 0 := by simpa using hcs
      exact ⟨a, _, [], rfl, reads_nil _ _⟩
    · obtain rfl : c1 = .slice (some a') len cap := by simpa using hcs
      simp only [if_true] at hz
      have := reads_of (cap := cap) (cs := ints zs) (len := len) (by simp [ints]; omega) (by simp [ints]; omega) (fun i hi => by
        have hi' : i < zs.length := by simpa [ints] using hi
        rw [hcell i hi', ints_get zs i hi'])
      exact ⟨a, _, zs.take len, rfl, by simpa [ints, List.map_take] using this⟩
  clear hA0
  refine (walk a0 u0 rs0 W hr0).mono fun e W' ⟨he, hg⟩ => ?_
  subst he
  exact ⟨_, rfl, Law.post_true (tb := 4) (kids_rows (by kernel_rfl) (by kernel_rfl)) (by unfold Law.Full; kernel_rfl) hW' rfl (by rw [Try.params8]; decide +kernel) Try.underlying4 (by kernel_rfl) rfl hg⟩

noncomputable def start (os : Os) : World := World.holding Try.prog os ⟨#[], #[], []⟩
theorem reads (os : Os) {H : Type} (enc : TypeId × Value → H) : ∃ places, DataW.whole enc Try.prog ((start os).forCall (fun _ _ => 0) ⟨#[], #[.agg #[.int .i64 0, .slice none 0 0]], []⟩).memory Try.f8.params.toList Rows.fnExactProperPremisesSpec.vars false (#[.agg #[.int .i64 0, .slice none 0 0]] : Array Value).toList 8 = some ([.agg [.lit (.int .i64 0), .nil]], [], places) :=
  ⟨[], by kernel_rfl⟩
theorem own : ownKnob Try.prog.godebug = none := by kernel_rfl

set_option maxRecDepth 100000 in
theorem lifted (os : Os) (started : os.Started) (H : Type) (enc : TypeId × Value → H) (F : Stop.Interp) :
    ReturnsInHanded {} Try.checked os 8 .any ((OpenSpec.ofChange Rows.fnExactProperPremisesSpec).preRow enc Try.prog Try.f8 Rows.fnExactProperPremisesRow.domain false Rows.fnExactProperPremisesRow.laid) (((OpenSpec.ofChange Rows.fnExactProperPremisesSpec).at F).post enc Try.prog Try.f8 false true false false) := by
  obtain ⟨places, hx⟩ := reads os enc
  refine returnsInHanded_of_row (C := Try.checked) (s := OpenSpec.ofChange Rows.fnExactProperPremisesSpec) own started (by kernel_rfl) Try.func8
    (witness_row_at (enc := enc) (C := Try.checked) false (start os) #[.agg #[.int .i64 0, .slice none 0 0]] rfl (by kernel_rfl) (by kernel_rfl) (by kernel_rfl)
      (OpenSpec.preRow_of_cond 8 hx (by kernel_rfl) (fun k hk => by cases hk) (by kernel_rfl) (laidMet_of_run' 8 (by kernel_rfl) (by kernel_rfl)))) ?_
  intro W base args ds gs before hval hW _ _ _ _ _ _
  exact contract H enc W base args ds gs before hval hW

theorem said : Rows.FnExactProperPremisesSaid :=
  OpenClaim.holds_of_cond 8 Try.f8 rfl rfl rfl rfl rfl rfl rfl ⟨rfl, rfl, rfl, rfl, rfl⟩ rfl rfl rfl rfl rfl (by kernel_rfl) Try.func8 (by kernel_rfl)
    (of_decide_eq_true (by kernel_rfl)) (by unfold Func.isWrapper; first | (rw [if_pos (by decide +kernel)]; kernel_rfl) | (rw [if_neg (by decide +kernel)]; exact ⟨rfl, rfl⟩))
    (fun os started H enc _ F => by rw [OpenClaim.pre_eq_preRow]; exact lifted os started H enc F)
end Go.Proofs.Ythodmmckekgkdaa.FnExactProperPremises
