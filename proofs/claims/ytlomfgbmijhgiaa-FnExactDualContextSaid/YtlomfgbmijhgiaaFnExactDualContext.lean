/-
  For every context c the law FnExactDualContext returns true: the function of the program returns what the function of the model returns, in memory of its own, and leaves the context as it is. No condition.
-/
import Derived.Test.YtlomfgbmijhgiaaRows
import Derived.Test.YtlomfgbmijhgiaaLaw
import Derived.Test.YtlomfgbmijhgiaaDual
import Derived.Deep.RegionHeld3
import Derived.Lib.SmallJoins
import Derived.WalkKit
import Derived.ProofKit
import Derived.OpenShut
import Derived.Deep.DeepHandedRow
import Derived.LaidMore
import Derived.Stop.LaidErr
import Derived.ChangeMaps5
import Derived.Outline
import Derived.LoopTactic
import Derived.Lib.Hide
import Derived.Below
namespace Go.Proofs.Ytlomfgbmijhgiaa.FnExactDualContext
open Go Go.ChangeShapes Go.WideShapes Go.ChangeAt Go.ChangeMaps Go.RowKit Mem Ctx

theorem asInts {xs : List Int} {w : World} {e : Ending} {w' : World} (h : ∃ u, e = .returned u ∧ Mem.Own 3 w' w.heap.size w'.heap.size u (ints xs) ∧ Below w.heap.size w w') :
    ∃ p c, e = .returned (.slice p xs.length c) ∧ Mem.Own 3 w' w.heap.size w'.heap.size (.slice p xs.length c) (ints xs) ∧ Below w.heap.size w w' := by
  obtain ⟨u, he, o, b⟩ := h
  obtain ⟨p, c, rfl⟩ := own_form o
  exact ⟨p, c, he, o, b⟩
theorem boxApart {w w' : World} {g lo hi : Nat} {t : TypeId} {cs : Array Value} (h : BoxAt w g t cs) (ha : Apart lo hi w w') (hg : g < lo ∨ hi ≤ g) : BoxAt w' g t cs := (ha.block g h.lt hg).trans h
theorem ownBoxed {e : TypeId} {w : World} {lo hi : Nat} {v : Value} {cs : List Value} (h : Mem.Own e w lo hi v cs) (hh : hi ≤ w.heap.size) (o : Obj) : Mem.Own e (w.alloc o) lo hi v cs := h.below (B := w.heap.size) ((Below.refl _ _).alloc (Nat.le_refl _) o) hh
theorem keep4 {w w' : World} {B : Nat} {p q r s : Addr} {x y z t : Value} (hb : Below B w w') (h : w.cell? p = some x ∧ w.cell? q = some y ∧ w.cell? r = some z ∧ w.cell? s = some t) (hp : p.block < B) (hq : q.block < B) (hr : r.block < B) (hs : s.block < B) :
    w'.cell? p = some x ∧ w'.cell? q = some y ∧ w'.cell? r = some z ∧ w'.cell? s = some t :=
  ⟨(hb.cell hp).trans h.1, (hb.cell hq).trans h.2.1, (hb.cell hr).trans h.2.2.1, (hb.cell hs).trans h.2.2.2⟩
theorem asCtx {x : Option (Int × List Int)} {n : Int} {xs : List Int} {ok : Bool} (hn : (x.getD (0, [])).1 = n) (hx : (x.getD (0, [])).2 = xs) (ho : x.isSome = ok) {w : World} {e : Ending} {w' : World} (h : CtxRes x w e w') :
    ∃ p c, e = .returned (.tuple #[ctx n (.slice p xs.length c), .bool ok]) ∧ Mem.Own 3 w' w.heap.size w'.heap.size (.slice p xs.length c) (ints xs) ∧ Below w.heap.size w w' := by
  subst hn hx ho
  obtain ⟨u, he, o, b⟩ := h
  obtain ⟨p, c, rfl⟩ := own_form o
  exact ⟨p, c, he, o, b⟩

theorem dual_small (a : Int) (rs : List Int) : ((dual a rs).getD (0, [])).2.length ≤ 8 := by
  unfold dual
  split
  · rename_i h
    obtain ⟨h0, h6, -, -⟩ := isCtx_parts h.1
    simp only [Option.getD_some, dualTo_length]; omega
  · simp
set_option maxRecDepth 100000 in
set_option maxHeartbeats 4000000 in
theorem walk (c : Int) (cv : Value) (cr : List Int) (w : World) (hc : Reads w w.heap.size cv (ints cr)) :
    Calls Try.prog 3 #[ctx c cv] w fun e w' => e = .returned (.bool true) ∧ Below w.heap.size w w' := by
  have hlc : cr.length ≤ 9223372036854775807 := by have := hc.1; unfold maxLen at this; simp [ints] at this; omega
  obtain ⟨cp, cc, rfl⟩ := reads_form hc
  have HRc := Lib.hid hc
  clear hc
  by_cases hlen0 : 1048576 < (cr.length : Int)
  · have HZ0 := Lib.hid (fun w => szCtx c (.slice cp cr.length cc) cr.length 1048576 w ⟨_, _, rfl⟩ hlc (by omega) (by omega))
    simp only [if_pos hlen0] at HZ0
    go_enter Try.func3, Try.ntmps3
    go_wp2_with fail
    refine (HZ0.out _).mono ?_
    rintro e w1 ⟨rfl, b1⟩
    have hs1 : w.heap.size + 1 ≤ w1.heap.size := by have := b1.size; simpa using this
    have T1 := Lib.hid (((Below.refl w.heap.size w).alloc (by first | omega | (simp; omega) | simp) (.cells #[.int .i64 c, .slice cp cr.length cc] 24)).trans (b1.mono (by first | omega | (simp; omega) | simp)))
    have Ac1 := Lib.hid ((show BoxAt _ (w.heap.size) _ _ by have := (BoxAt.new w 24 #[.int .i64 c, .slice cp cr.length cc]); simpa using this).below b1 (by first | omega | (simp; omega) | simp))
    have zAc_1 : w.heap.size < w1.heap.size := Ac1.out.lt
    have cAc_0_1 : w1.cell? ⟨w.heap.size, 0, none⟩ = some (.int .i64 c) := Ac1.out.cell 0
    have cAc_1_1 : w1.cell? ⟨w.heap.size, 1, none⟩ = some (.slice cp cr.length cc) := Ac1.out.cell 1
    clear b1
    go_wp2_with fail
    go_ret
    exact ⟨rfl, T1.out⟩
  have HZ0 := Lib.hid (fun w => szCtx c (.slice cp cr.length cc) cr.length 1048576 w ⟨_, _, rfl⟩ hlc (by omega) (by omega))
  simp only [if_neg hlen0] at HZ0
  have hd0 : decide (1048576 - (cr.length : Int) < 0) = false := by simp; omega
  have hxlc : cr.length ≤ 1048576 := by omega
  obtain ⟨n, hn⟩ : ∃ n, ((dual c cr).getD (0, [])).1 = n := ⟨_, rfl⟩
  obtain ⟨xs, hxs⟩ : ∃ xs, ((dual c cr).getD (0, [])).2 = xs := ⟨_, rfl⟩
  obtain ⟨ok, hok⟩ : ∃ ok, (dual c cr).isSome = ok := ⟨_, rfl⟩
  have hsm : xs.length ≤ 8 := by rw [← hxs]; exact dual_small c cr
  have HS := Lib.hid (fun v B w h hB => (spec_dual c v cr B w h hB).mono fun e w' h => asCtx hn hxs hok h)
  have HI := Lib.hid (fun v B w h hB => (impl_dual c v cr B w h hB).mono fun e w' h => asCtx hn hxs hok h)
  have hqn : (n == n && xs == xs) = true := by simp
  have hqo : (ok != ok) = false := by simp
  clear hn hxs hok
  clear hlen0 hlc
  go_enter Try.func3, Try.ntmps3
  go_wp2_with fail
  refine (HZ0.out _).mono ?_
  rintro e w1 ⟨rfl, b1⟩
  have hs1 : w.heap.size + 1 ≤ w1.heap.size := by have := b1.size; simpa using this
  have T1 := Lib.hid (((Below.refl w.heap.size w).alloc (by first | omega | (simp; omega) | simp) (.cells #[.int .i64 c, .slice cp cr.length cc] 24)).trans (b1.mono (by first | omega | (simp; omega) | simp)))
  have Ac1 := Lib.hid ((show BoxAt _ (w.heap.size) _ _ by have := (BoxAt.new w 24 #[.int .i64 c, .slice cp cr.length cc]); simpa using this).below b1 (by first | omega | (simp; omega) | simp))
  have zAc_1 : w.heap.size < w1.heap.size := Ac1.out.lt
  have cAc_0_1 : w1.cell? ⟨w.heap.size, 0, none⟩ = some (.int .i64 c) := Ac1.out.cell 0
  have cAc_1_1 : w1.cell? ⟨w.heap.size, 1, none⟩ = some (.slice cp cr.length cc) := Ac1.out.cell 1
  clear b1
  go_wp2_with fail
  refine (toCtx c _ cr w.heap.size _ (HRc.out.below T1.out (Nat.le_refl _)) (by first | omega | (simp; omega) | simp) hxlc).mono ?_
  rintro e w2 ⟨u2, rfl, o2, b2⟩
  obtain ⟨p2, q2, rfl⟩ := own_form o2
  have P02 := Lib.hid (o2.mono (lo' := w1.heap.size) (by first | omega | (simp; omega) | simp) (Nat.le_refl _))
  have hs2 : w1.heap.size ≤ w2.heap.size := by have := b2.size; simpa using this
  have T2 := Lib.hid (T1.out.trans (b2.mono (by first | omega | (simp; omega) | simp)))
  have Ac2 := Lib.hid (Ac1.out.below b2 (by first | omega | (simp; omega) | simp))
  have zAc_2 : w.heap.size < w2.heap.size := Ac2.out.lt
  have cAc_0_2 : w2.cell? ⟨w.heap.size, 0, none⟩ = some (.int .i64 c) := Ac2.out.cell 0
  have cAc_1_2 : w2.cell? ⟨w.heap.size, 1, none⟩ = some (.slice cp cr.length cc) := Ac2.out.cell 1
  clear o2 b2 T1 Ac1 zAc_1 cAc_0_1 cAc_1_1
  go_wp2_with fail
  refine (HS.out _ w2.heap.size _ P02.out.reads (by first | omega | (simp; omega) | simp)).mono ?_
  rintro e w3 ⟨p3, q3, rfl, o3, b3⟩
  have Wn3 := Lib.hid (o3.mono (lo' := w2.heap.size) (by first | omega | (simp; omega) | simp) (Nat.le_refl _))
  have hs3 : w2.heap.size ≤ w3.heap.size := by have := b3.size; simpa using this
  have T3 := Lib.hid (T2.out.trans (b3.mono (by first | omega | (simp; omega) | simp)))
  have Ac3 := Lib.hid (Ac2.out.below b3 (by first | omega | (simp; omega) | simp))
  have P03 := Lib.hid (P02.out.below b3 (by first | omega | (simp; omega) | simp))
  have zAc_3 : w.heap.size < w3.heap.size := Ac3.out.lt
  have cAc_0_3 : w3.cell? ⟨w.heap.size, 0, none⟩ = some (.int .i64 c) := Ac3.out.cell 0
  have cAc_1_3 : w3.cell? ⟨w.heap.size, 1, none⟩ = some (.slice cp cr.length cc) := Ac3.out.cell 1
  clear o3 b3 T2 Ac2 P02 zAc_2 cAc_0_2 cAc_1_2
  clear P03
  go_wp2_with fail
  refine (toCtx c _ cr w.heap.size _ (HRc.out.below (T3.out.alloc (by first | omega | (simp; omega) | simp) (.cells #[.int .i64 n, .slice p3 xs.length q3] 26)) (Nat.le_refl _)) (by first | omega | (simp; omega) | simp) hxlc).mono ?_
  rintro e w4 ⟨u4, rfl, o4, b4⟩
  obtain ⟨p4, q4, rfl⟩ := own_form o4
  have X04 := Lib.hid (o4.mono (lo' := w3.heap.size + 1) (by first | omega | (simp; omega) | simp) (Nat.le_refl _))
  have hs4 : w3.heap.size + 1 ≤ w4.heap.size := by have := b4.size; simpa using this
  have T4 := Lib.hid ((T3.out.alloc (by first | omega | (simp; omega) | simp) (.cells #[.int .i64 n, .slice p3 xs.length q3] 26)).trans (b4.mono (by first | omega | (simp; omega) | simp)))
  have Ac4 := Lib.hid ((Ac3.out.alloc (.cells #[.int .i64 n, .slice p3 xs.length q3] 26)).below b4 (by first | omega | (simp; omega) | simp))
  have Bw4 := Lib.hid ((show BoxAt _ (w3.heap.size) _ _ by have := (BoxAt.new w3 26 #[.int .i64 n, .slice p3 xs.length q3]); simpa using this).below b4 (by first | omega | (simp; omega) | simp))
  have Wn4 := Lib.hid ((ownBoxed Wn3.out (by first | omega | (simp; omega) | simp) (.cells #[.int .i64 n, .slice p3 xs.length q3] 26)).below b4 (by first | omega | (simp; omega) | simp))
  have zAc_4 : w.heap.size < w4.heap.size := Ac4.out.lt
  have cAc_0_4 : w4.cell? ⟨w.heap.size, 0, none⟩ = some (.int .i64 c) := Ac4.out.cell 0
  have cAc_1_4 : w4.cell? ⟨w.heap.size, 1, none⟩ = some (.slice cp cr.length cc) := Ac4.out.cell 1
  have zBw_4 : w3.heap.size < w4.heap.size := Bw4.out.lt
  have cBw_0_4 : w4.cell? ⟨w3.heap.size, 0, none⟩ = some (.int .i64 n) := Bw4.out.cell 0
  have cBw_1_4 : w4.cell? ⟨w3.heap.size, 1, none⟩ = some (.slice p3 xs.length q3) := Bw4.out.cell 1
  clear o4 b4 T3 Ac3 Wn3 zAc_3 cAc_0_3 cAc_1_3
  go_wp2_with fail
  refine (HI.out _ w4.heap.size _ (boxed X04.out.reads (by first | omega | (simp; omega) | simp) (.cells #[.int .i64 c, .slice p4 cr.length q4] 26)) (by first | omega | (simp; omega) | simp)).mono ?_
  rintro e w5 ⟨p5, q5, rfl, o5, b5⟩
  have Gn5 := Lib.hid (o5.mono (lo' := w4.heap.size + 1) (by first | omega | (simp; omega) | simp) (Nat.le_refl _))
  have hs5 : w4.heap.size + 1 ≤ w5.heap.size := by have := b5.size; simpa using this
  have T5 := Lib.hid ((T4.out.alloc (by first | omega | (simp; omega) | simp) (.cells #[.int .i64 c, .slice p4 cr.length q4] 26)).trans (b5.mono (by first | omega | (simp; omega) | simp)))
  have Ac5 := Lib.hid ((Ac4.out.alloc (.cells #[.int .i64 c, .slice p4 cr.length q4] 26)).below b5 (by first | omega | (simp; omega) | simp))
  have Bw5 := Lib.hid ((Bw4.out.alloc (.cells #[.int .i64 c, .slice p4 cr.length q4] 26)).below b5 (by first | omega | (simp; omega) | simp))
  have Bx05 := Lib.hid ((show BoxAt _ (w4.heap.size) _ _ by have := (BoxAt.new w4 26 #[.int .i64 c, .slice p4 cr.length q4]); simpa using this).below b5 (by first | omega | (simp; omega) | simp))
  have Wn5 := Lib.hid ((ownBoxed Wn4.out (by first | omega | (simp; omega) | simp) (.cells #[.int .i64 c, .slice p4 cr.length q4] 26)).below b5 (by first | omega | (simp; omega) | simp))
  have X05 := Lib.hid ((ownBoxed X04.out (by first | omega | (simp; omega) | simp) (.cells #[.int .i64 c, .slice p4 cr.length q4] 26)).below b5 (by first | omega | (simp; omega) | simp))
  have zAc_5 : w.heap.size < w5.heap.size := Ac5.out.lt
  have cAc_0_5 : w5.cell? ⟨w.heap.size, 0, none⟩ = some (.int .i64 c) := Ac5.out.cell 0
  have cAc_1_5 : w5.cell? ⟨w.heap.size, 1, none⟩ = some (.slice cp cr.length cc) := Ac5.out.cell 1
  have zBw_5 : w3.heap.size < w5.heap.size := Bw5.out.lt
  have cBw_0_5 : w5.cell? ⟨w3.heap.size, 0, none⟩ = some (.int .i64 n) := Bw5.out.cell 0
  have cBw_1_5 : w5.cell? ⟨w3.heap.size, 1, none⟩ = some (.slice p3 xs.length q3) := Bw5.out.cell 1
  have zBx0_5 : w4.heap.size < w5.heap.size := Bx05.out.lt
  have cBx0_0_5 : w5.cell? ⟨w4.heap.size, 0, none⟩ = some (.int .i64 c) := Bx05.out.cell 0
  have cBx0_1_5 : w5.cell? ⟨w4.heap.size, 1, none⟩ = some (.slice p4 cr.length q4) := Bx05.out.cell 1
  clear o5 b5 T4 Ac4 Bw4 Wn4 X04 zAc_4 cAc_0_4 cAc_1_4 zBw_4 cBw_0_4 cBw_1_4
  go_wp2_with fail
  refine (eqCtx n n _ _ xs xs w5.heap.size w3.heap.size _ (boxed Gn5.out.reads (by first | omega | (simp; omega) | simp) (.cells #[.int .i64 n, .slice p5 xs.length q5] 26)) (boxed Wn5.out.reads (by first | omega | (simp; omega) | simp) (.cells #[.int .i64 n, .slice p5 xs.length q5] 26)) (by first | omega | (simp; omega) | simp) (by first | omega | (simp; omega) | simp)).mono ?_
  rintro e w6 ⟨rfl, b6⟩
  have hs6 : w5.heap.size + 1 ≤ w6.heap.size := by have := b6.size; simpa using this
  have T6 := Lib.hid ((T5.out.alloc (by first | omega | (simp; omega) | simp) (.cells #[.int .i64 n, .slice p5 xs.length q5] 26)).trans (b6.mono (by first | omega | (simp; omega) | simp)))
  have Ac6 := Lib.hid ((Ac5.out.alloc (.cells #[.int .i64 n, .slice p5 xs.length q5] 26)).below b6 (by first | omega | (simp; omega) | simp))
  have Bw6 := Lib.hid ((Bw5.out.alloc (.cells #[.int .i64 n, .slice p5 xs.length q5] 26)).below b6 (by first | omega | (simp; omega) | simp))
  have Bx06 := Lib.hid ((Bx05.out.alloc (.cells #[.int .i64 n, .slice p5 xs.length q5] 26)).below b6 (by first | omega | (simp; omega) | simp))
  have Bg6 := Lib.hid ((show BoxAt _ (w5.heap.size) _ _ by have := (BoxAt.new w5 26 #[.int .i64 n, .slice p5 xs.length q5]); simpa using this).below b6 (by first | omega | (simp; omega) | simp))
  have Wn6 := Lib.hid ((ownBoxed Wn5.out (by first | omega | (simp; omega) | simp) (.cells #[.int .i64 n, .slice p5 xs.length q5] 26)).below b6 (by first | omega | (simp; omega) | simp))
  have X06 := Lib.hid ((ownBoxed X05.out (by first | omega | (simp; omega) | simp) (.cells #[.int .i64 n, .slice p5 xs.length q5] 26)).below b6 (by first | omega | (simp; omega) | simp))
  have Gn6 := Lib.hid ((ownBoxed Gn5.out (by first | omega | (simp; omega) | simp) (.cells #[.int .i64 n, .slice p5 xs.length q5] 26)).below b6 (by first | omega | (simp; omega) | simp))
  have zAc_6 : w.heap.size < w6.heap.size := Ac6.out.lt
  have cAc_0_6 : w6.cell? ⟨w.heap.size, 0, none⟩ = some (.int .i64 c) := Ac6.out.cell 0
  have cAc_1_6 : w6.cell? ⟨w.heap.size, 1, none⟩ = some (.slice cp cr.length cc) := Ac6.out.cell 1
  have zBw_6 : w3.heap.size < w6.heap.size := Bw6.out.lt
  have cBw_0_6 : w6.cell? ⟨w3.heap.size, 0, none⟩ = some (.int .i64 n) := Bw6.out.cell 0
  have cBw_1_6 : w6.cell? ⟨w3.heap.size, 1, none⟩ = some (.slice p3 xs.length q3) := Bw6.out.cell 1
  have zBx0_6 : w4.heap.size < w6.heap.size := Bx06.out.lt
  have cBx0_0_6 : w6.cell? ⟨w4.heap.size, 0, none⟩ = some (.int .i64 c) := Bx06.out.cell 0
  have cBx0_1_6 : w6.cell? ⟨w4.heap.size, 1, none⟩ = some (.slice p4 cr.length q4) := Bx06.out.cell 1
  have zBg_6 : w5.heap.size < w6.heap.size := Bg6.out.lt
  have cBg_0_6 : w6.cell? ⟨w5.heap.size, 0, none⟩ = some (.int .i64 n) := Bg6.out.cell 0
  have cBg_1_6 : w6.cell? ⟨w5.heap.size, 1, none⟩ = some (.slice p5 xs.length q5) := Bg6.out.cell 1
  clear b6 T5 Ac5 Bw5 Bx05 Wn5 X05 Gn5 zAc_5 cAc_0_5 cAc_1_5 zBw_5 cBw_0_5 cBw_1_5 zBx0_5 cBx0_0_5 cBx0_1_5
  go_wp2_with fail
  have RD := Lib.hid (X06.out.reads.below (Below.refl w6.heap.size w6).drew (by first | omega | (simp; omega) | simp))
  go_region_held3 (fun wx => wx.cell? ⟨w.heap.size, 0, none⟩ = some (.int .i64 c) ∧ wx.cell? ⟨w.heap.size, 1, none⟩ = some (.slice cp cr.length cc) ∧ wx.cell? ⟨w4.heap.size, 0, none⟩ = some (.int .i64 c) ∧ wx.cell? ⟨w4.heap.size, 1, none⟩ = some (.slice p4 cr.length q4))
    (first | exact ⟨cAc_0_6, cAc_1_6, cBx0_0_6, cBx0_1_6⟩ | exact keep4 (w := w6.drew) (B := w6.heap.size) b7 ⟨cAc_0_6, cAc_1_6, cBx0_0_6, cBx0_1_6⟩ (by show w.heap.size < _; omega) (by show w.heap.size < _; omega) (by show w4.heap.size < _; omega) (by show w4.heap.size < _; omega) | exact keep4 (w := w6.drew) (B := w6.heap.size) (b7.trans (b8.mono b7.size)) ⟨cAc_0_6, cAc_1_6, cBx0_0_6, cBx0_1_6⟩ (by show w.heap.size < _; omega) (by show w.heap.size < _; omega) (by show w4.heap.size < _; omega) (by show w4.heap.size < _; omega))
    (first | (go_at_call 17; refine (toCtx c _ cr w.heap.size w6.drew (HRc.out.below T6.out.drew (Nat.le_refl _)) (by show w.heap.size ≤ w6.heap.size; omega) hxlc).mono ?_; rintro e w7 ⟨u7, rfl, o7, b7⟩; obtain ⟨p7, q7, rfl⟩ := own_form o7) | (go_at_call 19; refine (eqCtx c c _ _ cr cr w4.heap.size w7.heap.size w7 (RD.out.below b7 (by show w4.heap.size ≤ w6.heap.size; omega)) o7.reads (by have := b7.size; show w4.heap.size ≤ w7.heap.size; change w6.heap.size ≤ w7.heap.size at this; omega) (Nat.le_refl _)).mono ?_; rintro e w8 ⟨rfl, b8⟩) | fail)
  have bb := (Below.refl w6.heap.size w6).drew.trans (b7.trans (b8.mono b7.size))
  clear b7 o7 RD
  clear b8
  have b8 := bb
  clear bb
  have hs8 : w6.heap.size ≤ w8.heap.size := by have := b8.size; simpa using this
  have T8 := Lib.hid (T6.out.trans (b8.mono (by first | omega | (simp; omega) | simp)))
  have Ac8 := Lib.hid (Ac6.out.below b8 (by first | omega | (simp; omega) | simp))
  have Bw8 := Lib.hid (Bw6.out.below b8 (by first | omega | (simp; omega) | simp))
  have Bx08 := Lib.hid (Bx06.out.below b8 (by first | omega | (simp; omega) | simp))
  have Bg8 := Lib.hid (Bg6.out.below b8 (by first | omega | (simp; omega) | simp))
  have Wn8 := Lib.hid (Wn6.out.below b8 (by first | omega | (simp; omega) | simp))
  have X08 := Lib.hid (X06.out.below b8 (by first | omega | (simp; omega) | simp))
  have Gn8 := Lib.hid (Gn6.out.below b8 (by first | omega | (simp; omega) | simp))
  have zAc_8 : w.heap.size < w8.heap.size := Ac8.out.lt
  have cAc_0_8 : w8.cell? ⟨w.heap.size, 0, none⟩ = some (.int .i64 c) := Ac8.out.cell 0
  have cAc_1_8 : w8.cell? ⟨w.heap.size, 1, none⟩ = some (.slice cp cr.length cc) := Ac8.out.cell 1
  have zBw_8 : w3.heap.size < w8.heap.size := Bw8.out.lt
  have cBw_0_8 : w8.cell? ⟨w3.heap.size, 0, none⟩ = some (.int .i64 n) := Bw8.out.cell 0
  have cBw_1_8 : w8.cell? ⟨w3.heap.size, 1, none⟩ = some (.slice p3 xs.length q3) := Bw8.out.cell 1
  have zBx0_8 : w4.heap.size < w8.heap.size := Bx08.out.lt
  have cBx0_0_8 : w8.cell? ⟨w4.heap.size, 0, none⟩ = some (.int .i64 c) := Bx08.out.cell 0
  have cBx0_1_8 : w8.cell? ⟨w4.heap.size, 1, none⟩ = some (.slice p4 cr.length q4) := Bx08.out.cell 1
  have zBg_8 : w5.heap.size < w8.heap.size := Bg8.out.lt
  have cBg_0_8 : w8.cell? ⟨w5.heap.size, 0, none⟩ = some (.int .i64 n) := Bg8.out.cell 0
  have cBg_1_8 : w8.cell? ⟨w5.heap.size, 1, none⟩ = some (.slice p5 xs.length q5) := Bg8.out.cell 1
  clear b8 T6 Ac6 Bw6 Bx06 Bg6 Wn6 X06 Gn6 zAc_6 cAc_0_6 cAc_1_6 zBw_6 cBw_0_6 cBw_1_6 zBx0_6 cBx0_0_6 cBx0_1_6 zBg_6 cBg_0_6 cBg_1_6
  have hqq0 : (c == c && cr == cr) = true := by simp
  go_wp2_with fail
  refine (markCtx c _ cr 1 (w3.heap.size + 1) w4.heap.size _ X08.out (by first | omega | (simp; omega) | simp) (by first | omega | (simp; omega) | simp)).mono ?_
  rintro e w9 ⟨rfl, m9, b9⟩
  have X09 := Lib.hid m9
  have hs9 : w8.heap.size ≤ w9.heap.size := by have := b9.size; simpa using this
  have T9 := Lib.hid (T8.out.trans (b9.below (B := w.heap.size) (by first | omega | (simp; omega) | simp) (by first | omega | (simp; omega) | simp)))
  have Ac9 := Lib.hid (boxApart Ac8.out b9 (by first | omega | (simp; omega) | simp))
  have Bw9 := Lib.hid (boxApart Bw8.out b9 (by first | omega | (simp; omega) | simp))
  have Bx09 := Lib.hid (boxApart Bx08.out b9 (by first | omega | (simp; omega) | simp))
  have Bg9 := Lib.hid (boxApart Bg8.out b9 (by first | omega | (simp; omega) | simp))
  have Wn9 := Lib.hid (Wn8.out.apart b9 (by first | omega | (simp; omega) | simp))
  have Gn9 := Lib.hid (Gn8.out.apart b9 (by first | omega | (simp; omega) | simp))
  have zAc_9 : w.heap.size < w9.heap.size := Ac9.out.lt
  have cAc_0_9 : w9.cell? ⟨w.heap.size, 0, none⟩ = some (.int .i64 c) := Ac9.out.cell 0
  have cAc_1_9 : w9.cell? ⟨w.heap.size, 1, none⟩ = some (.slice cp cr.length cc) := Ac9.out.cell 1
  have zBw_9 : w3.heap.size < w9.heap.size := Bw9.out.lt
  have cBw_0_9 : w9.cell? ⟨w3.heap.size, 0, none⟩ = some (.int .i64 n) := Bw9.out.cell 0
  have cBw_1_9 : w9.cell? ⟨w3.heap.size, 1, none⟩ = some (.slice p3 xs.length q3) := Bw9.out.cell 1
  have zBx0_9 : w4.heap.size < w9.heap.size := Bx09.out.lt
  have cBx0_0_9 : w9.cell? ⟨w4.heap.size, 0, none⟩ = some (.int .i64 c) := Bx09.out.cell 0
  have cBx0_1_9 : w9.cell? ⟨w4.heap.size, 1, none⟩ = some (.slice p4 cr.length q4) := Bx09.out.cell 1
  have zBg_9 : w5.heap.size < w9.heap.size := Bg9.out.lt
  have cBg_0_9 : w9.cell? ⟨w5.heap.size, 0, none⟩ = some (.int .i64 n) := Bg9.out.cell 0
  have cBg_1_9 : w9.cell? ⟨w5.heap.size, 1, none⟩ = some (.slice p5 xs.length q5) := Bg9.out.cell 1
  clear m9 b9 T8 Ac8 Bw8 Bx08 Bg8 Wn8 X08 Gn8 zAc_8 cAc_0_8 cAc_1_8 zBw_8 cBw_0_8 cBw_1_8 zBx0_8 cBx0_0_8 cBx0_1_8 zBg_8 cBg_0_8 cBg_1_8
  go_wp2_with fail
  refine (eqCtx n n _ _ xs xs w5.heap.size w3.heap.size _ Gn9.out.reads Wn9.out.reads (by first | omega | (simp; omega) | simp) (by first | omega | (simp; omega) | simp)).mono ?_
  rintro e w10 ⟨rfl, b10⟩
  have hs10 : w9.heap.size ≤ w10.heap.size := by have := b10.size; simpa using this
  have T10 := Lib.hid (T9.out.trans (b10.mono (by first | omega | (simp; omega) | simp)))
  have Ac10 := Lib.hid (Ac9.out.below b10 (by first | omega | (simp; omega) | simp))
  have Bw10 := Lib.hid (Bw9.out.below b10 (by first | omega | (simp; omega) | simp))
  have Bx010 := Lib.hid (Bx09.out.below b10 (by first | omega | (simp; omega) | simp))
  have Bg10 := Lib.hid (Bg9.out.below b10 (by first | omega | (simp; omega) | simp))
  have Wn10 := Lib.hid (Wn9.out.below b10 (by first | omega | (simp; omega) | simp))
  have X010 := Lib.hid (X09.out.below b10 (by first | omega | (simp; omega) | simp))
  have Gn10 := Lib.hid (Gn9.out.below b10 (by first | omega | (simp; omega) | simp))
  have zAc_10 : w.heap.size < w10.heap.size := Ac10.out.lt
  have cAc_0_10 : w10.cell? ⟨w.heap.size, 0, none⟩ = some (.int .i64 c) := Ac10.out.cell 0
  have cAc_1_10 : w10.cell? ⟨w.heap.size, 1, none⟩ = some (.slice cp cr.length cc) := Ac10.out.cell 1
  have zBw_10 : w3.heap.size < w10.heap.size := Bw10.out.lt
  have cBw_0_10 : w10.cell? ⟨w3.heap.size, 0, none⟩ = some (.int .i64 n) := Bw10.out.cell 0
  have cBw_1_10 : w10.cell? ⟨w3.heap.size, 1, none⟩ = some (.slice p3 xs.length q3) := Bw10.out.cell 1
  have zBx0_10 : w4.heap.size < w10.heap.size := Bx010.out.lt
  have cBx0_0_10 : w10.cell? ⟨w4.heap.size, 0, none⟩ = some (.int .i64 c) := Bx010.out.cell 0
  have cBx0_1_10 : w10.cell? ⟨w4.heap.size, 1, none⟩ = some (.slice p4 cr.length q4) := Bx010.out.cell 1
  have zBg_10 : w5.heap.size < w10.heap.size := Bg10.out.lt
  have cBg_0_10 : w10.cell? ⟨w5.heap.size, 0, none⟩ = some (.int .i64 n) := Bg10.out.cell 0
  have cBg_1_10 : w10.cell? ⟨w5.heap.size, 1, none⟩ = some (.slice p5 xs.length q5) := Bg10.out.cell 1
  clear b10 T9 Ac9 Bw9 Bx09 Bg9 Wn9 X09 Gn9 zAc_9 cAc_0_9 cAc_1_9 zBw_9 cBw_0_9 cBw_1_9 zBx0_9 cBx0_0_9 cBx0_1_9 zBg_9 cBg_0_9 cBg_1_9
  clear X010
  go_wp2_with fail
  refine (markCtx n _ xs 1 (w4.heap.size + 1) w5.heap.size _ Gn10.out (by first | omega | (simp; omega) | simp) (by first | omega | (simp; omega) | simp)).mono ?_
  rintro e w11 ⟨rfl, m11, b11⟩
  have Gn11 := Lib.hid m11
  have hs11 : w10.heap.size ≤ w11.heap.size := by have := b11.size; simpa using this
  have T11 := Lib.hid (T10.out.trans (b11.below (B := w.heap.size) (by first | omega | (simp; omega) | simp) (by first | omega | (simp; omega) | simp)))
  have Ac11 := Lib.hid (boxApart Ac10.out b11 (by first | omega | (simp; omega) | simp))
  have Bw11 := Lib.hid (boxApart Bw10.out b11 (by first | omega | (simp; omega) | simp))
  have Bx011 := Lib.hid (boxApart Bx010.out b11 (by first | omega | (simp; omega) | simp))
  have Bg11 := Lib.hid (boxApart Bg10.out b11 (by first | omega | (simp; omega) | simp))
  have Wn11 := Lib.hid (Wn10.out.apart b11 (by first | omega | (simp; omega) | simp))
  have zAc_11 : w.heap.size < w11.heap.size := Ac11.out.lt
  have cAc_0_11 : w11.cell? ⟨w.heap.size, 0, none⟩ = some (.int .i64 c) := Ac11.out.cell 0
  have cAc_1_11 : w11.cell? ⟨w.heap.size, 1, none⟩ = some (.slice cp cr.length cc) := Ac11.out.cell 1
  have zBw_11 : w3.heap.size < w11.heap.size := Bw11.out.lt
  have cBw_0_11 : w11.cell? ⟨w3.heap.size, 0, none⟩ = some (.int .i64 n) := Bw11.out.cell 0
  have cBw_1_11 : w11.cell? ⟨w3.heap.size, 1, none⟩ = some (.slice p3 xs.length q3) := Bw11.out.cell 1
  have zBx0_11 : w4.heap.size < w11.heap.size := Bx011.out.lt
  have cBx0_0_11 : w11.cell? ⟨w4.heap.size, 0, none⟩ = some (.int .i64 c) := Bx011.out.cell 0
  have cBx0_1_11 : w11.cell? ⟨w4.heap.size, 1, none⟩ = some (.slice p4 cr.length q4) := Bx011.out.cell 1
  have zBg_11 : w5.heap.size < w11.heap.size := Bg11.out.lt
  have cBg_0_11 : w11.cell? ⟨w5.heap.size, 0, none⟩ = some (.int .i64 n) := Bg11.out.cell 0
  have cBg_1_11 : w11.cell? ⟨w5.heap.size, 1, none⟩ = some (.slice p5 xs.length q5) := Bg11.out.cell 1
  clear m11 b11 T10 Ac10 Bw10 Bx010 Bg10 Wn10 Gn10 zAc_10 cAc_0_10 cAc_1_10 zBw_10 cBw_0_10 cBw_1_10 zBx0_10 cBx0_0_10 cBx0_1_10 zBg_10 cBg_0_10 cBg_1_10
  go_wp2_with fail
  refine (heldCtx n _ (seq 1 xs.length) 1 xs.length w5.heap.size _ Gn11.out.reads (by first | omega | (simp; omega) | simp) rfl (by first | omega | (simp; omega) | simp)).mono ?_
  rintro e w12 ⟨rfl, b12⟩
  have hs12 : w11.heap.size ≤ w12.heap.size := by have := b12.size; simpa using this
  have T12 := Lib.hid (T11.out.trans (b12.mono (by first | omega | (simp; omega) | simp)))
  have Ac12 := Lib.hid (Ac11.out.below b12 (by first | omega | (simp; omega) | simp))
  have Bw12 := Lib.hid (Bw11.out.below b12 (by first | omega | (simp; omega) | simp))
  have Bx012 := Lib.hid (Bx011.out.below b12 (by first | omega | (simp; omega) | simp))
  have Bg12 := Lib.hid (Bg11.out.below b12 (by first | omega | (simp; omega) | simp))
  have Wn12 := Lib.hid (Wn11.out.below b12 (by first | omega | (simp; omega) | simp))
  have Gn12 := Lib.hid (Gn11.out.below b12 (by first | omega | (simp; omega) | simp))
  have zAc_12 : w.heap.size < w12.heap.size := Ac12.out.lt
  have cAc_0_12 : w12.cell? ⟨w.heap.size, 0, none⟩ = some (.int .i64 c) := Ac12.out.cell 0
  have cAc_1_12 : w12.cell? ⟨w.heap.size, 1, none⟩ = some (.slice cp cr.length cc) := Ac12.out.cell 1
  have zBw_12 : w3.heap.size < w12.heap.size := Bw12.out.lt
  have cBw_0_12 : w12.cell? ⟨w3.heap.size, 0, none⟩ = some (.int .i64 n) := Bw12.out.cell 0
  have cBw_1_12 : w12.cell? ⟨w3.heap.size, 1, none⟩ = some (.slice p3 xs.length q3) := Bw12.out.cell 1
  have zBx0_12 : w4.heap.size < w12.heap.size := Bx012.out.lt
  have cBx0_0_12 : w12.cell? ⟨w4.heap.size, 0, none⟩ = some (.int .i64 c) := Bx012.out.cell 0
  have cBx0_1_12 : w12.cell? ⟨w4.heap.size, 1, none⟩ = some (.slice p4 cr.length q4) := Bx012.out.cell 1
  have zBg_12 : w5.heap.size < w12.heap.size := Bg12.out.lt
  have cBg_0_12 : w12.cell? ⟨w5.heap.size, 0, none⟩ = some (.int .i64 n) := Bg12.out.cell 0
  have cBg_1_12 : w12.cell? ⟨w5.heap.size, 1, none⟩ = some (.slice p5 xs.length q5) := Bg12.out.cell 1
  clear b12 T11 Ac11 Bw11 Bx011 Bg11 Wn11 Gn11 zAc_11 cAc_0_11 cAc_1_11 zBw_11 cBw_0_11 cBw_1_11 zBx0_11 cBx0_0_11 cBx0_1_11 zBg_11 cBg_0_11 cBg_1_11
  go_wp2_with fail
  refine (toCtx c _ cr w.heap.size _ (HRc.out.below T12.out (Nat.le_refl _)) (by first | omega | (simp; omega) | simp) hxlc).mono ?_
  rintro e w13 ⟨u13, rfl, o13, b13⟩
  obtain ⟨p13, q13, rfl⟩ := own_form o13
  have Y013 := Lib.hid (o13.mono (lo' := w12.heap.size) (by first | omega | (simp; omega) | simp) (Nat.le_refl _))
  have hs13 : w12.heap.size ≤ w13.heap.size := by have := b13.size; simpa using this
  have T13 := Lib.hid (T12.out.trans (b13.mono (by first | omega | (simp; omega) | simp)))
  have Ac13 := Lib.hid (Ac12.out.below b13 (by first | omega | (simp; omega) | simp))
  have Bw13 := Lib.hid (Bw12.out.below b13 (by first | omega | (simp; omega) | simp))
  have Bx013 := Lib.hid (Bx012.out.below b13 (by first | omega | (simp; omega) | simp))
  have Bg13 := Lib.hid (Bg12.out.below b13 (by first | omega | (simp; omega) | simp))
  have Wn13 := Lib.hid (Wn12.out.below b13 (by first | omega | (simp; omega) | simp))
  have Gn13 := Lib.hid (Gn12.out.below b13 (by first | omega | (simp; omega) | simp))
  have zAc_13 : w.heap.size < w13.heap.size := Ac13.out.lt
  have cAc_0_13 : w13.cell? ⟨w.heap.size, 0, none⟩ = some (.int .i64 c) := Ac13.out.cell 0
  have cAc_1_13 : w13.cell? ⟨w.heap.size, 1, none⟩ = some (.slice cp cr.length cc) := Ac13.out.cell 1
  have zBw_13 : w3.heap.size < w13.heap.size := Bw13.out.lt
  have cBw_0_13 : w13.cell? ⟨w3.heap.size, 0, none⟩ = some (.int .i64 n) := Bw13.out.cell 0
  have cBw_1_13 : w13.cell? ⟨w3.heap.size, 1, none⟩ = some (.slice p3 xs.length q3) := Bw13.out.cell 1
  have zBx0_13 : w4.heap.size < w13.heap.size := Bx013.out.lt
  have cBx0_0_13 : w13.cell? ⟨w4.heap.size, 0, none⟩ = some (.int .i64 c) := Bx013.out.cell 0
  have cBx0_1_13 : w13.cell? ⟨w4.heap.size, 1, none⟩ = some (.slice p4 cr.length q4) := Bx013.out.cell 1
  have zBg_13 : w5.heap.size < w13.heap.size := Bg13.out.lt
  have cBg_0_13 : w13.cell? ⟨w5.heap.size, 0, none⟩ = some (.int .i64 n) := Bg13.out.cell 0
  have cBg_1_13 : w13.cell? ⟨w5.heap.size, 1, none⟩ = some (.slice p5 xs.length q5) := Bg13.out.cell 1
  clear o13 b13 T12 Ac12 Bw12 Bx012 Bg12 Wn12 Gn12 zAc_12 cAc_0_12 cAc_1_12 zBw_12 cBw_0_12 cBw_1_12 zBx0_12 cBx0_0_12 cBx0_1_12 zBg_12 cBg_0_12 cBg_1_12
  go_wp2_with fail
  refine (HI.out _ w13.heap.size _ Y013.out.reads (by first | omega | (simp; omega) | simp)).mono ?_
  rintro e w14 ⟨p14, q14, rfl, o14, b14⟩
  have Hn14 := Lib.hid (o14.mono (lo' := w13.heap.size) (by first | omega | (simp; omega) | simp) (Nat.le_refl _))
  have hs14 : w13.heap.size ≤ w14.heap.size := by have := b14.size; simpa using this
  have T14 := Lib.hid (T13.out.trans (b14.mono (by first | omega | (simp; omega) | simp)))
  have Ac14 := Lib.hid (Ac13.out.below b14 (by first | omega | (simp; omega) | simp))
  have Bw14 := Lib.hid (Bw13.out.below b14 (by first | omega | (simp; omega) | simp))
  have Bx014 := Lib.hid (Bx013.out.below b14 (by first | omega | (simp; omega) | simp))
  have Bg14 := Lib.hid (Bg13.out.below b14 (by first | omega | (simp; omega) | simp))
  have Wn14 := Lib.hid (Wn13.out.below b14 (by first | omega | (simp; omega) | simp))
  have Gn14 := Lib.hid (Gn13.out.below b14 (by first | omega | (simp; omega) | simp))
  have Y014 := Lib.hid (Y013.out.below b14 (by first | omega | (simp; omega) | simp))
  have zAc_14 : w.heap.size < w14.heap.size := Ac14.out.lt
  have cAc_0_14 : w14.cell? ⟨w.heap.size, 0, none⟩ = some (.int .i64 c) := Ac14.out.cell 0
  have cAc_1_14 : w14.cell? ⟨w.heap.size, 1, none⟩ = some (.slice cp cr.length cc) := Ac14.out.cell 1
  have zBw_14 : w3.heap.size < w14.heap.size := Bw14.out.lt
  have cBw_0_14 : w14.cell? ⟨w3.heap.size, 0, none⟩ = some (.int .i64 n) := Bw14.out.cell 0
  have cBw_1_14 : w14.cell? ⟨w3.heap.size, 1, none⟩ = some (.slice p3 xs.length q3) := Bw14.out.cell 1
  have zBx0_14 : w4.heap.size < w14.heap.size := Bx014.out.lt
  have cBx0_0_14 : w14.cell? ⟨w4.heap.size, 0, none⟩ = some (.int .i64 c) := Bx014.out.cell 0
  have cBx0_1_14 : w14.cell? ⟨w4.heap.size, 1, none⟩ = some (.slice p4 cr.length q4) := Bx014.out.cell 1
  have zBg_14 : w5.heap.size < w14.heap.size := Bg14.out.lt
  have cBg_0_14 : w14.cell? ⟨w5.heap.size, 0, none⟩ = some (.int .i64 n) := Bg14.out.cell 0
  have cBg_1_14 : w14.cell? ⟨w5.heap.size, 1, none⟩ = some (.slice p5 xs.length q5) := Bg14.out.cell 1
  clear o14 b14 T13 Ac13 Bw13 Bx013 Bg13 Wn13 Gn13 Y013 zAc_13 cAc_0_13 cAc_1_13 zBw_13 cBw_0_13 cBw_1_13 zBx0_13 cBx0_0_13 cBx0_1_13 zBg_13 cBg_0_13 cBg_1_13
  clear Y014
  go_wp2_with fail
  refine (eqCtx n n _ _ xs xs w14.heap.size w3.heap.size _ (boxed Hn14.out.reads (by first | omega | (simp; omega) | simp) (.cells #[.int .i64 n, .slice p14 xs.length q14] 26)) (boxed Wn14.out.reads (by first | omega | (simp; omega) | simp) (.cells #[.int .i64 n, .slice p14 xs.length q14] 26)) (by first | omega | (simp; omega) | simp) (by first | omega | (simp; omega) | simp)).mono ?_
  rintro e w15 ⟨rfl, b15⟩
  have hs15 : w14.heap.size + 1 ≤ w15.heap.size := by have := b15.size; simpa using this
  have T15 := Lib.hid ((T14.out.alloc (by first | omega | (simp; omega) | simp) (.cells #[.int .i64 n, .slice p14 xs.length q14] 26)).trans (b15.mono (by first | omega | (simp; omega) | simp)))
  have Ac15 := Lib.hid ((Ac14.out.alloc (.cells #[.int .i64 n, .slice p14 xs.length q14] 26)).below b15 (by first | omega | (simp; omega) | simp))
  have Bw15 := Lib.hid ((Bw14.out.alloc (.cells #[.int .i64 n, .slice p14 xs.length q14] 26)).below b15 (by first | omega | (simp; omega) | simp))
  have Bx015 := Lib.hid ((Bx014.out.alloc (.cells #[.int .i64 n, .slice p14 xs.length q14] 26)).below b15 (by first | omega | (simp; omega) | simp))
  have Bg15 := Lib.hid ((Bg14.out.alloc (.cells #[.int .i64 n, .slice p14 xs.length q14] 26)).below b15 (by first | omega | (simp; omega) | simp))
  have Bh15 := Lib.hid ((show BoxAt _ (w14.heap.size) _ _ by have := (BoxAt.new w14 26 #[.int .i64 n, .slice p14 xs.length q14]); simpa using this).below b15 (by first | omega | (simp; omega) | simp))
  have Wn15 := Lib.hid ((ownBoxed Wn14.out (by first | omega | (simp; omega) | simp) (.cells #[.int .i64 n, .slice p14 xs.length q14] 26)).below b15 (by first | omega | (simp; omega) | simp))
  have Gn15 := Lib.hid ((ownBoxed Gn14.out (by first | omega | (simp; omega) | simp) (.cells #[.int .i64 n, .slice p14 xs.length q14] 26)).below b15 (by first | omega | (simp; omega) | simp))
  have Hn15 := Lib.hid ((ownBoxed Hn14.out (by first | omega | (simp; omega) | simp) (.cells #[.int .i64 n, .slice p14 xs.length q14] 26)).below b15 (by first | omega | (simp; omega) | simp))
  have zAc_15 : w.heap.size < w15.heap.size := Ac15.out.lt
  have cAc_0_15 : w15.cell? ⟨w.heap.size, 0, none⟩ = some (.int .i64 c) := Ac15.out.cell 0
  have cAc_1_15 : w15.cell? ⟨w.heap.size, 1, none⟩ = some (.slice cp cr.length cc) := Ac15.out.cell 1
  have zBw_15 : w3.heap.size < w15.heap.size := Bw15.out.lt
  have cBw_0_15 : w15.cell? ⟨w3.heap.size, 0, none⟩ = some (.int .i64 n) := Bw15.out.cell 0
  have cBw_1_15 : w15.cell? ⟨w3.heap.size, 1, none⟩ = some (.slice p3 xs.length q3) := Bw15.out.cell 1
  have zBx0_15 : w4.heap.size < w15.heap.size := Bx015.out.lt
  have cBx0_0_15 : w15.cell? ⟨w4.heap.size, 0, none⟩ = some (.int .i64 c) := Bx015.out.cell 0
  have cBx0_1_15 : w15.cell? ⟨w4.heap.size, 1, none⟩ = some (.slice p4 cr.length q4) := Bx015.out.cell 1
  have zBg_15 : w5.heap.size < w15.heap.size := Bg15.out.lt
  have cBg_0_15 : w15.cell? ⟨w5.heap.size, 0, none⟩ = some (.int .i64 n) := Bg15.out.cell 0
  have cBg_1_15 : w15.cell? ⟨w5.heap.size, 1, none⟩ = some (.slice p5 xs.length q5) := Bg15.out.cell 1
  have zBh_15 : w14.heap.size < w15.heap.size := Bh15.out.lt
  have cBh_0_15 : w15.cell? ⟨w14.heap.size, 0, none⟩ = some (.int .i64 n) := Bh15.out.cell 0
  have cBh_1_15 : w15.cell? ⟨w14.heap.size, 1, none⟩ = some (.slice p14 xs.length q14) := Bh15.out.cell 1
  clear b15 T14 Ac14 Bw14 Bx014 Bg14 Wn14 Gn14 Hn14 zAc_14 cAc_0_14 cAc_1_14 zBw_14 cBw_0_14 cBw_1_14 zBx0_14 cBx0_0_14 cBx0_1_14 zBg_14 cBg_0_14 cBg_1_14
  clear Hn15
  go_wp2_with fail
  refine (heldCtx n _ (seq 1 xs.length) 1 xs.length w5.heap.size _ Gn15.out.reads (by first | omega | (simp; omega) | simp) rfl (by first | omega | (simp; omega) | simp)).mono ?_
  rintro e w16 ⟨rfl, b16⟩
  have hs16 : w15.heap.size ≤ w16.heap.size := by have := b16.size; simpa using this
  have T16 := Lib.hid (T15.out.trans (b16.mono (by first | omega | (simp; omega) | simp)))
  have Ac16 := Lib.hid (Ac15.out.below b16 (by first | omega | (simp; omega) | simp))
  have Bw16 := Lib.hid (Bw15.out.below b16 (by first | omega | (simp; omega) | simp))
  have Bx016 := Lib.hid (Bx015.out.below b16 (by first | omega | (simp; omega) | simp))
  have Bg16 := Lib.hid (Bg15.out.below b16 (by first | omega | (simp; omega) | simp))
  have Bh16 := Lib.hid (Bh15.out.below b16 (by first | omega | (simp; omega) | simp))
  have Wn16 := Lib.hid (Wn15.out.below b16 (by first | omega | (simp; omega) | simp))
  have Gn16 := Lib.hid (Gn15.out.below b16 (by first | omega | (simp; omega) | simp))
  have zAc_16 : w.heap.size < w16.heap.size := Ac16.out.lt
  have cAc_0_16 : w16.cell? ⟨w.heap.size, 0, none⟩ = some (.int .i64 c) := Ac16.out.cell 0
  have cAc_1_16 : w16.cell? ⟨w.heap.size, 1, none⟩ = some (.slice cp cr.length cc) := Ac16.out.cell 1
  have zBw_16 : w3.heap.size < w16.heap.size := Bw16.out.lt
  have cBw_0_16 : w16.cell? ⟨w3.heap.size, 0, none⟩ = some (.int .i64 n) := Bw16.out.cell 0
  have cBw_1_16 : w16.cell? ⟨w3.heap.size, 1, none⟩ = some (.slice p3 xs.length q3) := Bw16.out.cell 1
  have zBx0_16 : w4.heap.size < w16.heap.size := Bx016.out.lt
  have cBx0_0_16 : w16.cell? ⟨w4.heap.size, 0, none⟩ = some (.int .i64 c) := Bx016.out.cell 0
  have cBx0_1_16 : w16.cell? ⟨w4.heap.size, 1, none⟩ = some (.slice p4 cr.length q4) := Bx016.out.cell 1
  have zBg_16 : w5.heap.size < w16.heap.size := Bg16.out.lt
  have cBg_0_16 : w16.cell? ⟨w5.heap.size, 0, none⟩ = some (.int .i64 n) := Bg16.out.cell 0
  have cBg_1_16 : w16.cell? ⟨w5.heap.size, 1, none⟩ = some (.slice p5 xs.length q5) := Bg16.out.cell 1
  have zBh_16 : w14.heap.size < w16.heap.size := Bh16.out.lt
  have cBh_0_16 : w16.cell? ⟨w14.heap.size, 0, none⟩ = some (.int .i64 n) := Bh16.out.cell 0
  have cBh_1_16 : w16.cell? ⟨w14.heap.size, 1, none⟩ = some (.slice p14 xs.length q14) := Bh16.out.cell 1
  clear b16 T15 Ac15 Bw15 Bx015 Bg15 Bh15 Wn15 Gn15 zAc_15 cAc_0_15 cAc_1_15 zBw_15 cBw_0_15 cBw_1_15 zBx0_15 cBx0_0_15 cBx0_1_15 zBg_15 cBg_0_15 cBg_1_15 zBh_15 cBh_0_15 cBh_1_15
  go_wp2_with fail
  go_ret
  exact ⟨rfl, T16.out⟩

set_option maxRecDepth 100000 in
theorem contract (H : Type) (enc : TypeId × Value → H) (W : World) (base : Nat) (args : Array Value) (ds gs : List (DataW H)) (before : List MemPlace)
    (hval : ∀ (j : Nat) t v, Try.f3.params[j]? = some t → args[j]? = some v → Value.okWide Try.prog W .any base t v)
    (hW : DataW.Whole enc Try.prog Try.f3.params.toList Rows.fnExactDualContextSpec.vars false W args.toList ds gs before) :
    Calls Try.prog 3 args W fun e W' => ∃ v, e = .returned v ∧ Rows.fnExactDualContextSpec.post enc Try.prog Try.f3 false true false false W args v W' := by
  have hW' := hW
  obtain ⟨p, q, hA0, hV, rfl, hfz, hnd⟩ := hW
  have hA : DataW.TrodAll enc Try.prog W 0 (fun _ => true) true Try.f3.params.toList args.toList ds p := hA0
  rw [Try.params3] at hA hval
  obtain ⟨v0, vs0, d0, ds0, p0, q0, hargs, rfl, rfl, h0, r0⟩ := trodAll_cons hA
  obtain ⟨rfl, rfl, rfl⟩ := trodAll_nil r0
  obtain rfl : args = #[v0] := by cases args; simp_all
  obtain ⟨a0, u0, rs0, rfl, hr0⟩ : ∃ (a : Int) (u : Value) (rs : List Int), v0 = Ctx.ctx a u ∧ Reads W W.heap.size u (ints rs) := by
    obtain ⟨c0, c1, y0, y1, n, rfl, -, -, g0, g1⟩ := Joins.open_agg2 Try.underlying24 (by kernel_rfl) (by kernel_rfl) (hval 0 24 v0 rfl rfl) h0
    obtain ⟨a, ha, -, -⟩ := DataW.trod_int Try.underlying3 g0
    obtain rfl : c0 = .int .i64 a := by simpa using ha
    rcases open_ints Try.underlying22 Try.underlying3 (by kernel_rfl) g1 with ⟨hcs, -⟩ | ⟨a', len, cap, zs, hcs, -, hl, hm, hz, -, hcell, -⟩
    · obtain rfl : c1 = .slice none 0 0 := by simpa using hcs
      exact ⟨a, _, [], rfl, reads_nil _ _⟩
    · obtain rfl : c1 = .slice (some a') len cap := by simpa using hcs
      simp only [if_true] at hz
      have := reads_of (cap := cap) (cs := ints zs) (len := len) (by simp [ints]; omega) (by simp [ints]; omega) (fun i hi => by
        have hi' : i < zs.length := by simpa [ints] using hi
        rw [hcell i hi', ints_get zs i hi'])
      exact ⟨a, _, zs.take len, rfl, by simpa [ints, List.map_take] using this⟩
  clear hA0
  refine (walk a0 u0 rs0 W hr0).mono fun e W' ⟨he, hg⟩ => ?_
  subst he
  exact ⟨_, rfl, Law.post_true (tb := 4) (kids_rows (by kernel_rfl) (by kernel_rfl)) (by unfold Law.Full; kernel_rfl) hW' rfl (by rw [Try.params3]; decide +kernel) Try.underlying4 (by kernel_rfl) rfl hg⟩

noncomputable def start (os : Os) : World := World.holding Try.prog os ⟨#[], #[], []⟩
theorem reads (os : Os) {H : Type} (enc : TypeId × Value → H) : ∃ places, DataW.whole enc Try.prog ((start os).forCall (fun _ _ => 0) ⟨#[], #[.agg #[.int .i64 0, .slice none 0 0]], []⟩).memory Try.f3.params.toList Rows.fnExactDualContextSpec.vars false (#[.agg #[.int .i64 0, .slice none 0 0]] : Array Value).toList 8 = some ([.agg [.lit (.int .i64 0), .nil]], [], places) :=
  ⟨[], by kernel_rfl⟩
theorem own : ownKnob Try.prog.godebug = none := by kernel_rfl

set_option maxRecDepth 100000 in
theorem lifted (os : Os) (started : os.Started) (H : Type) (enc : TypeId × Value → H) (F : Stop.Interp) :
    ReturnsInHanded {} Try.checked os 3 .any ((OpenSpec.ofChange Rows.fnExactDualContextSpec).preRow enc Try.prog Try.f3 Rows.fnExactDualContextRow.domain false Rows.fnExactDualContextRow.laid) (((OpenSpec.ofChange Rows.fnExactDualContextSpec).at F).post enc Try.prog Try.f3 false true false false) := by
  obtain ⟨places, hx⟩ := reads os enc
  refine returnsInHanded_of_row (C := Try.checked) (s := OpenSpec.ofChange Rows.fnExactDualContextSpec) own started (by kernel_rfl) Try.func3
    (witness_row_at (enc := enc) (C := Try.checked) false (start os) #[.agg #[.int .i64 0, .slice none 0 0]] rfl (by kernel_rfl) (by kernel_rfl) (by kernel_rfl)
      (OpenSpec.preRow_of_cond 8 hx (by kernel_rfl) (fun k hk => by cases hk) (by kernel_rfl) (laidMet_of_run' 8 (by kernel_rfl) (by kernel_rfl)))) ?_
  intro W base args ds gs before hval hW _ _ _ _ _ _
  exact contract H enc W base args ds gs before hval hW

theorem said : Rows.FnExactDualContextSaid :=
  OpenClaim.holds_of_cond 3 Try.f3 rfl rfl rfl rfl rfl rfl rfl ⟨rfl, rfl, rfl, rfl, rfl⟩ rfl rfl rfl rfl rfl (by kernel_rfl) Try.func3 (by kernel_rfl)
    (of_decide_eq_true (by kernel_rfl)) (by unfold Func.isWrapper; first | (rw [if_pos (by decide +kernel)]; kernel_rfl) | (rw [if_neg (by decide +kernel)]; exact ⟨rfl, rfl⟩))
    (fun os started H enc _ F => by rw [OpenClaim.pre_eq_preRow]; exact lifted os started H enc F)
end Go.Proofs.Ytlomfgbmijhgiaa.FnExactDualContext
