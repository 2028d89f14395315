/-
  For every text t the law FnExactParseContext returns true: ParseContext of the program returns what ParseContext of the model returns, in memory of its own. Condition: the listed tables, errors and the handle of the standard library are what its text lays.
-/
import Derived.Test.YtoiaomohdnhgcaaGreatDoorCards
import Derived.Test.YtoiaomohdnhgcaaGreatDoorTie
import Derived.Test.YtoiaomohdnhgcaaGreatDoorLaw
import Derived.Test.YtoiaomohdnhgcaaGreatDoorDual
import Derived.Test.YtoiaomohdnhgcaaGreatDoorPctx
import Derived.Test.YtoiaomohdnhgcaaGreatDoorPctxSpec
import Derived.Test.YtoiaomohdnhgcaaGreatDoorStdH
import Derived.Deep.RegionHeld3
import Derived.Lib.SmallJoins
import Derived.WalkKit
import Derived.ProofKit
import Derived.OpenShut
import Derived.Deep.DeepHandedRow
import Derived.LaidMore
import Derived.Stop.LaidErr
import Derived.ChangeMaps5
import Derived.Outline
import Derived.LoopTactic
import Derived.Lib.Hide
import Derived.Below
import Derived.Lay
namespace Go.Proofs.YtoiaomohdnhgcaaGreatDoor.FnExactParseContext
open Go Go.ChangeShapes Go.WideShapes Go.ChangeAt Go.ChangeMaps Go.RowKit Mem Ctx

theorem asInts {xs : List Int} {w : World} {e : Ending} {w' : World} (h : ∃ u, e = .returned u ∧ Own 3 w' w.heap.size w'.heap.size u (ints xs) ∧ Below w.heap.size w w') :
    ∃ p c, e = .returned (.slice p xs.length c) ∧ Own 3 w' w.heap.size w'.heap.size (.slice p xs.length c) (ints xs) ∧ Below w.heap.size w w' := by
  obtain ⟨u, he, o, b⟩ := h
  obtain ⟨p, c, rfl⟩ := own_form o
  exact ⟨p, c, he, o, b⟩
theorem boxApart {w w' : World} {g lo hi : Nat} {t : TypeId} {cs : Array Value} (h : BoxAt w g t cs) (ha : Apart lo hi w w') (hg : g < lo ∨ hi ≤ g) : BoxAt w' g t cs := (ha.block g h.lt hg).trans h
theorem ownBoxed {e : TypeId} {w : World} {lo hi : Nat} {v : Value} {cs : List Value} (h : Own e w lo hi v cs) (hh : hi ≤ w.heap.size) (o : Obj) : Own e (w.alloc o) lo hi v cs := h.below (B := w.heap.size) ((Below.refl _ _).alloc (Nat.le_refl _) o) hh
theorem keep4 {w w' : World} {B : Nat} {p q r s : Addr} {x y z t : Value} (hb : Below B w w') (h : w.cell? p = some x ∧ w.cell? q = some y ∧ w.cell? r = some z ∧ w.cell? s = some t) (hp : p.block < B) (hq : q.block < B) (hr : r.block < B) (hs : s.block < B) :
    w'.cell? p = some x ∧ w'.cell? q = some y ∧ w'.cell? r = some z ∧ w'.cell? s = some t :=
  ⟨(hb.cell hp).trans h.1, (hb.cell hq).trans h.2.1, (hb.cell hr).trans h.2.2.1, (hb.cell hs).trans h.2.2.2⟩
theorem asCtx {x : Option (Int × List Int)} {n : Int} {xs : List Int} {ok : Bool} (hn : (x.getD (0, [])).1 = n) (hx : (x.getD (0, [])).2 = xs) (ho : x.isSome = ok) {w : World} {e : Ending} {w' : World} (h : CtxRes x w e w') :
    ∃ p c, e = .returned (.tuple #[ctx n (.slice p xs.length c), .bool ok]) ∧ Own 3 w' w.heap.size w'.heap.size (.slice p xs.length c) (ints xs) ∧ Below w.heap.size w w' := by
  subst hn hx ho
  obtain ⟨u, he, o, b⟩ := h
  obtain ⟨p, c, rfl⟩ := own_form o
  exact ⟨p, c, he, o, b⟩

theorem small (l : List UInt8) : ((Pctx.prog l).getD (0, [])).2.length ≤ 8 := by
  cases h : Pctx.prog l with
  | none => simp
  | some x =>
    obtain ⟨n, rs⟩ := x
    simp only [Option.getD_some]
    unfold Pctx.prog at h
    split at h
    · unfold Pctx.progOf at h
      obtain ⟨m, h1, h2⟩ := Option.bind_eq_some_iff.1 h
      obtain ⟨r2, h3, h4⟩ := Option.bind_eq_some_iff.1 h2
      split at h4
      · rename_i hc
        cases h4
        exact (isCtx_parts hc).2.2.1
      · cases h4
    · cases h
set_option maxRecDepth 100000 in
set_option maxHeartbeats 4000000 in
theorem walk (t : ByteArray) (hzt : t.size ≤ maxLen) (w : World) (hs : NumParse.Std w) (hS : w.ShapedOpen Tryz.prog) (hg : w.cell? ⟨0, 0, none⟩ = some (.iface 78 (.agg #[As.hd 38]))) :
    Calls Tryz.prog 3 #[.string t] w fun e w' => e = .returned (.bool true) ∧ Below w.heap.size w w' := by
  obtain ⟨⟨t⟩⟩ := t
  unfold maxLen at hzt
  have hszt : (⟨⟨t⟩⟩ : ByteArray).size = t.length := by simp [ByteArray.size]
  rw [hszt] at hzt
  have HSTD := Lib.hid hs
  have HSH := Lib.hid hS
  have HG := Lib.hid hg
  clear hs hS hg
  by_cases hlen0 : (1048576 : Int) < (t.length : Int)
  · have hd0 : decide ((1048576 : Int) < (t.length : Int)) = true := by simp; omega
    go_enter Tryz.func3, Tryz.ntmps3
    go_wp2_with fail
    go_ret
    exact ⟨rfl, Below.refl _ _⟩
  have hd0 : decide ((1048576 : Int) < (t.length : Int)) = false := by simp; omega
  have hxlt : t.length ≤ 1048576 := by omega
  obtain ⟨n, hn⟩ : ∃ n, ((Pctx.prog t).getD (0, [])).1 = n := ⟨_, rfl⟩
  obtain ⟨xs, hxs⟩ : ∃ xs, ((Pctx.prog t).getD (0, [])).2 = xs := ⟨_, rfl⟩
  obtain ⟨ok, hok⟩ : ∃ ok, (Pctx.prog t).isSome = ok := ⟨_, rfl⟩
  have hsm : xs.length ≤ 8 := by rw [← hxs]; exact small t
  have HS := Lib.hid (fun w => (Pctx.spec_pctx t hxlt w).mono fun e w' h => by have h2 : CtxRes (Pctx.prog t) w e w' := (by rw [Pctx.same]; exact h); exact asCtx hn hxs hok h2)
  have HI := Lib.hid (fun w hs hS hg => (Pctx.impl_pctx t hxlt w hs hS hg).mono fun e w' h => asCtx hn hxs hok h)
  have hqn : (n == n && xs == xs) = true := by simp
  have hqo : (ok != ok) = false := by simp
  clear hn hxs hok
  clear hlen0
  go_enter Tryz.func3, Tryz.ntmps3
  go_wp2_with fail
  refine (HS.out _).mono ?_
  rintro e w1 ⟨p1, q1, rfl, o1, b1⟩
  have Wn1 := Lib.hid (o1.mono (lo' := w.heap.size) (by first | omega | (simp; omega) | simp) (Nat.le_refl _))
  have hs1 : w.heap.size ≤ w1.heap.size := by have := b1.size; simpa using this
  have T1 := Lib.hid ((Below.refl w.heap.size w).trans (b1.mono (by first | omega | (simp; omega) | simp)))
  clear o1 b1
  go_wp2_with fail
  refine (HI.out _ (HSTD.out.below (T1.out.alloc (by first | omega | (simp; omega) | simp) (.cells #[.int .i64 n, .slice p1 xs.length q1] 24))) (Split.shaped_below HSH.out (T1.out.alloc (by first | omega | (simp; omega) | simp) (.cells #[.int .i64 n, .slice p1 xs.length q1] 24))) (((T1.out.alloc (by first | omega | (simp; omega) | simp) (.cells #[.int .i64 n, .slice p1 xs.length q1] 24)).cell (p := ⟨0, 0, none⟩) (Pctx.gErr_lt HG.out)).trans HG.out)).mono ?_
  rintro e w2 ⟨p2, q2, rfl, o2, b2⟩
  have Gn2 := Lib.hid (o2.mono (lo' := w1.heap.size + 1) (by first | omega | (simp; omega) | simp) (Nat.le_refl _))
  have hs2 : w1.heap.size + 1 ≤ w2.heap.size := by have := b2.size; simpa using this
  have T2 := Lib.hid ((T1.out.alloc (by first | omega | (simp; omega) | simp) (.cells #[.int .i64 n, .slice p1 xs.length q1] 24)).trans (b2.mono (by first | omega | (simp; omega) | simp)))
  have Bw2 := Lib.hid ((show BoxAt _ (w1.heap.size) _ _ by have := (BoxAt.new w1 24 #[.int .i64 n, .slice p1 xs.length q1]); simpa using this).below b2 (by first | omega | (simp; omega) | simp))
  have Wn2 := Lib.hid ((ownBoxed Wn1.out (by first | omega | (simp; omega) | simp) (.cells #[.int .i64 n, .slice p1 xs.length q1] 24)).below b2 (by first | omega | (simp; omega) | simp))
  have zBw_2 : w1.heap.size < w2.heap.size := Bw2.out.lt
  have cBw_0_2 : w2.cell? ⟨w1.heap.size, 0, none⟩ = some (.int .i64 n) := Bw2.out.cell 0
  have cBw_1_2 : w2.cell? ⟨w1.heap.size, 1, none⟩ = some (.slice p1 xs.length q1) := Bw2.out.cell 1
  clear o2 b2 T1 Wn1
  go_wp2_with fail
  refine (eqCtx n n _ _ xs xs w2.heap.size w1.heap.size _ (boxed Gn2.out.reads (by first | omega | (simp; omega) | simp) (.cells #[.int .i64 n, .slice p2 xs.length q2] 24)) (boxed Wn2.out.reads (by first | omega | (simp; omega) | simp) (.cells #[.int .i64 n, .slice p2 xs.length q2] 24)) (by first | omega | (simp; omega) | simp) (by first | omega | (simp; omega) | simp)).mono ?_
  rintro e w3 ⟨rfl, b3⟩
  have hs3 : w2.heap.size + 1 ≤ w3.heap.size := by have := b3.size; simpa using this
  have T3 := Lib.hid ((T2.out.alloc (by first | omega | (simp; omega) | simp) (.cells #[.int .i64 n, .slice p2 xs.length q2] 24)).trans (b3.mono (by first | omega | (simp; omega) | simp)))
  have Bw3 := Lib.hid ((Bw2.out.alloc (.cells #[.int .i64 n, .slice p2 xs.length q2] 24)).below b3 (by first | omega | (simp; omega) | simp))
  have Bg3 := Lib.hid ((show BoxAt _ (w2.heap.size) _ _ by have := (BoxAt.new w2 24 #[.int .i64 n, .slice p2 xs.length q2]); simpa using this).below b3 (by first | omega | (simp; omega) | simp))
  have Wn3 := Lib.hid ((ownBoxed Wn2.out (by first | omega | (simp; omega) | simp) (.cells #[.int .i64 n, .slice p2 xs.length q2] 24)).below b3 (by first | omega | (simp; omega) | simp))
  have Gn3 := Lib.hid ((ownBoxed Gn2.out (by first | omega | (simp; omega) | simp) (.cells #[.int .i64 n, .slice p2 xs.length q2] 24)).below b3 (by first | omega | (simp; omega) | simp))
  have zBw_3 : w1.heap.size < w3.heap.size := Bw3.out.lt
  have cBw_0_3 : w3.cell? ⟨w1.heap.size, 0, none⟩ = some (.int .i64 n) := Bw3.out.cell 0
  have cBw_1_3 : w3.cell? ⟨w1.heap.size, 1, none⟩ = some (.slice p1 xs.length q1) := Bw3.out.cell 1
  have zBg_3 : w2.heap.size < w3.heap.size := Bg3.out.lt
  have cBg_0_3 : w3.cell? ⟨w2.heap.size, 0, none⟩ = some (.int .i64 n) := Bg3.out.cell 0
  have cBg_1_3 : w3.cell? ⟨w2.heap.size, 1, none⟩ = some (.slice p2 xs.length q2) := Bg3.out.cell 1
  clear b3 T2 Bw2 Wn2 Gn2 zBw_2 cBw_0_2 cBw_1_2
  go_wp2_with fail
  refine (markCtx n _ xs 1 (w1.heap.size + 1) w2.heap.size _ Gn3.out (by first | omega | (simp; omega) | simp) (by first | omega | (simp; omega) | simp)).mono ?_
  rintro e w4 ⟨rfl, m4, b4⟩
  have Gn4 := Lib.hid m4
  have hs4 : w3.heap.size ≤ w4.heap.size := by have := b4.size; simpa using this
  have T4 := Lib.hid (T3.out.trans (b4.below (B := w.heap.size) (by first | omega | (simp; omega) | simp) (by first | omega | (simp; omega) | simp)))
  have Bw4 := Lib.hid (boxApart Bw3.out b4 (by first | omega | (simp; omega) | simp))
  have Bg4 := Lib.hid (boxApart Bg3.out b4 (by first | omega | (simp; omega) | simp))
  have Wn4 := Lib.hid (Wn3.out.apart b4 (by first | omega | (simp; omega) | simp))
  have zBw_4 : w1.heap.size < w4.heap.size := Bw4.out.lt
  have cBw_0_4 : w4.cell? ⟨w1.heap.size, 0, none⟩ = some (.int .i64 n) := Bw4.out.cell 0
  have cBw_1_4 : w4.cell? ⟨w1.heap.size, 1, none⟩ = some (.slice p1 xs.length q1) := Bw4.out.cell 1
  have zBg_4 : w2.heap.size < w4.heap.size := Bg4.out.lt
  have cBg_0_4 : w4.cell? ⟨w2.heap.size, 0, none⟩ = some (.int .i64 n) := Bg4.out.cell 0
  have cBg_1_4 : w4.cell? ⟨w2.heap.size, 1, none⟩ = some (.slice p2 xs.length q2) := Bg4.out.cell 1
  clear m4 b4 T3 Bw3 Bg3 Wn3 Gn3 zBw_3 cBw_0_3 cBw_1_3 zBg_3 cBg_0_3 cBg_1_3
  go_wp2_with fail
  refine (heldCtx n _ (seq 1 xs.length) 1 xs.length w2.heap.size _ Gn4.out.reads (by first | omega | (simp; omega) | simp) rfl (by first | omega | (simp; omega) | simp)).mono ?_
  rintro e w5 ⟨rfl, b5⟩
  have hs5 : w4.heap.size ≤ w5.heap.size := by have := b5.size; simpa using this
  have T5 := Lib.hid (T4.out.trans (b5.mono (by first | omega | (simp; omega) | simp)))
  have Bw5 := Lib.hid (Bw4.out.below b5 (by first | omega | (simp; omega) | simp))
  have Bg5 := Lib.hid (Bg4.out.below b5 (by first | omega | (simp; omega) | simp))
  have Wn5 := Lib.hid (Wn4.out.below b5 (by first | omega | (simp; omega) | simp))
  have Gn5 := Lib.hid (Gn4.out.below b5 (by first | omega | (simp; omega) | simp))
  have zBw_5 : w1.heap.size < w5.heap.size := Bw5.out.lt
  have cBw_0_5 : w5.cell? ⟨w1.heap.size, 0, none⟩ = some (.int .i64 n) := Bw5.out.cell 0
  have cBw_1_5 : w5.cell? ⟨w1.heap.size, 1, none⟩ = some (.slice p1 xs.length q1) := Bw5.out.cell 1
  have zBg_5 : w2.heap.size < w5.heap.size := Bg5.out.lt
  have cBg_0_5 : w5.cell? ⟨w2.heap.size, 0, none⟩ = some (.int .i64 n) := Bg5.out.cell 0
  have cBg_1_5 : w5.cell? ⟨w2.heap.size, 1, none⟩ = some (.slice p2 xs.length q2) := Bg5.out.cell 1
  clear b5 T4 Bw4 Bg4 Wn4 Gn4 zBw_4 cBw_0_4 cBw_1_4 zBg_4 cBg_0_4 cBg_1_4
  go_wp2_with fail
  refine (HI.out _ (HSTD.out.below T5.out) (Split.shaped_below HSH.out T5.out) ((T5.out.cell (p := ⟨0, 0, none⟩) (Pctx.gErr_lt HG.out)).trans HG.out)).mono ?_
  rintro e w6 ⟨p6, q6, rfl, o6, b6⟩
  have Hn6 := Lib.hid (o6.mono (lo' := w5.heap.size) (by first | omega | (simp; omega) | simp) (Nat.le_refl _))
  have hs6 : w5.heap.size ≤ w6.heap.size := by have := b6.size; simpa using this
  have T6 := Lib.hid (T5.out.trans (b6.mono (by first | omega | (simp; omega) | simp)))
  have Bw6 := Lib.hid (Bw5.out.below b6 (by first | omega | (simp; omega) | simp))
  have Bg6 := Lib.hid (Bg5.out.below b6 (by first | omega | (simp; omega) | simp))
  have Wn6 := Lib.hid (Wn5.out.below b6 (by first | omega | (simp; omega) | simp))
  have Gn6 := Lib.hid (Gn5.out.below b6 (by first | omega | (simp; omega) | simp))
  have zBw_6 : w1.heap.size < w6.heap.size := Bw6.out.lt
  have cBw_0_6 : w6.cell? ⟨w1.heap.size, 0, none⟩ = some (.int .i64 n) := Bw6.out.cell 0
  have cBw_1_6 : w6.cell? ⟨w1.heap.size, 1, none⟩ = some (.slice p1 xs.length q1) := Bw6.out.cell 1
  have zBg_6 : w2.heap.size < w6.heap.size := Bg6.out.lt
  have cBg_0_6 : w6.cell? ⟨w2.heap.size, 0, none⟩ = some (.int .i64 n) := Bg6.out.cell 0
  have cBg_1_6 : w6.cell? ⟨w2.heap.size, 1, none⟩ = some (.slice p2 xs.length q2) := Bg6.out.cell 1
  clear o6 b6 T5 Bw5 Bg5 Wn5 Gn5 zBw_5 cBw_0_5 cBw_1_5 zBg_5 cBg_0_5 cBg_1_5
  go_wp2_with fail
  refine (eqCtx n n _ _ xs xs w6.heap.size w1.heap.size _ (boxed Hn6.out.reads (by first | omega | (simp; omega) | simp) (.cells #[.int .i64 n, .slice p6 xs.length q6] 24)) (boxed Wn6.out.reads (by first | omega | (simp; omega) | simp) (.cells #[.int .i64 n, .slice p6 xs.length q6] 24)) (by first | omega | (simp; omega) | simp) (by first | omega | (simp; omega) | simp)).mono ?_
  rintro e w7 ⟨rfl, b7⟩
  have hs7 : w6.heap.size + 1 ≤ w7.heap.size := by have := b7.size; simpa using this
  have T7 := Lib.hid ((T6.out.alloc (by first | omega | (simp; omega) | simp) (.cells #[.int .i64 n, .slice p6 xs.length q6] 24)).trans (b7.mono (by first | omega | (simp; omega) | simp)))
  have Bw7 := Lib.hid ((Bw6.out.alloc (.cells #[.int .i64 n, .slice p6 xs.length q6] 24)).below b7 (by first | omega | (simp; omega) | simp))
  have Bg7 := Lib.hid ((Bg6.out.alloc (.cells #[.int .i64 n, .slice p6 xs.length q6] 24)).below b7 (by first | omega | (simp; omega) | simp))
  have Bh7 := Lib.hid ((show BoxAt _ (w6.heap.size) _ _ by have := (BoxAt.new w6 24 #[.int .i64 n, .slice p6 xs.length q6]); simpa using this).below b7 (by first | omega | (simp; omega) | simp))
  have Wn7 := Lib.hid ((ownBoxed Wn6.out (by first | omega | (simp; omega) | simp) (.cells #[.int .i64 n, .slice p6 xs.length q6] 24)).below b7 (by first | omega | (simp; omega) | simp))
  have Gn7 := Lib.hid ((ownBoxed Gn6.out (by first | omega | (simp; omega) | simp) (.cells #[.int .i64 n, .slice p6 xs.length q6] 24)).below b7 (by first | omega | (simp; omega) | simp))
  have Hn7 := Lib.hid ((ownBoxed Hn6.out (by first | omega | (simp; omega) | simp) (.cells #[.int .i64 n, .slice p6 xs.length q6] 24)).below b7 (by first | omega | (simp; omega) | simp))
  have zBw_7 : w1.heap.size < w7.heap.size := Bw7.out.lt
  have cBw_0_7 : w7.cell? ⟨w1.heap.size, 0, none⟩ = some (.int .i64 n) := Bw7.out.cell 0
  have cBw_1_7 : w7.cell? ⟨w1.heap.size, 1, none⟩ = some (.slice p1 xs.length q1) := Bw7.out.cell 1
  have zBg_7 : w2.heap.size < w7.heap.size := Bg7.out.lt
  have cBg_0_7 : w7.cell? ⟨w2.heap.size, 0, none⟩ = some (.int .i64 n) := Bg7.out.cell 0
  have cBg_1_7 : w7.cell? ⟨w2.heap.size, 1, none⟩ = some (.slice p2 xs.length q2) := Bg7.out.cell 1
  have zBh_7 : w6.heap.size < w7.heap.size := Bh7.out.lt
  have cBh_0_7 : w7.cell? ⟨w6.heap.size, 0, none⟩ = some (.int .i64 n) := Bh7.out.cell 0
  have cBh_1_7 : w7.cell? ⟨w6.heap.size, 1, none⟩ = some (.slice p6 xs.length q6) := Bh7.out.cell 1
  clear b7 T6 Bw6 Bg6 Wn6 Gn6 Hn6 zBw_6 cBw_0_6 cBw_1_6 zBg_6 cBg_0_6 cBg_1_6
  clear Hn7
  go_wp2_with fail
  refine (heldCtx n _ (seq 1 xs.length) 1 xs.length w2.heap.size _ Gn7.out.reads (by first | omega | (simp; omega) | simp) rfl (by first | omega | (simp; omega) | simp)).mono ?_
  rintro e w8 ⟨rfl, b8⟩
  have hs8 : w7.heap.size ≤ w8.heap.size := by have := b8.size; simpa using this
  have T8 := Lib.hid (T7.out.trans (b8.mono (by first | omega | (simp; omega) | simp)))
  have Bw8 := Lib.hid (Bw7.out.below b8 (by first | omega | (simp; omega) | simp))
  have Bg8 := Lib.hid (Bg7.out.below b8 (by first | omega | (simp; omega) | simp))
  have Bh8 := Lib.hid (Bh7.out.below b8 (by first | omega | (simp; omega) | simp))
  have Wn8 := Lib.hid (Wn7.out.below b8 (by first | omega | (simp; omega) | simp))
  have Gn8 := Lib.hid (Gn7.out.below b8 (by first | omega | (simp; omega) | simp))
  have zBw_8 : w1.heap.size < w8.heap.size := Bw8.out.lt
  have cBw_0_8 : w8.cell? ⟨w1.heap.size, 0, none⟩ = some (.int .i64 n) := Bw8.out.cell 0
  have cBw_1_8 : w8.cell? ⟨w1.heap.size, 1, none⟩ = some (.slice p1 xs.length q1) := Bw8.out.cell 1
  have zBg_8 : w2.heap.size < w8.heap.size := Bg8.out.lt
  have cBg_0_8 : w8.cell? ⟨w2.heap.size, 0, none⟩ = some (.int .i64 n) := Bg8.out.cell 0
  have cBg_1_8 : w8.cell? ⟨w2.heap.size, 1, none⟩ = some (.slice p2 xs.length q2) := Bg8.out.cell 1
  have zBh_8 : w6.heap.size < w8.heap.size := Bh8.out.lt
  have cBh_0_8 : w8.cell? ⟨w6.heap.size, 0, none⟩ = some (.int .i64 n) := Bh8.out.cell 0
  have cBh_1_8 : w8.cell? ⟨w6.heap.size, 1, none⟩ = some (.slice p6 xs.length q6) := Bh8.out.cell 1
  clear b8 T7 Bw7 Bg7 Bh7 Wn7 Gn7 zBw_7 cBw_0_7 cBw_1_7 zBg_7 cBg_0_7 cBg_1_7 zBh_7 cBh_0_7 cBh_1_7
  go_wp2_with fail
  go_ret
  exact ⟨rfl, T8.out⟩

set_option maxRecDepth 100000 in
theorem contract (H : Type) (enc : TypeId × Value → H) (W : World) (base : Nat) (args : Array Value) (ds gs : List (DataW H)) (before : List MemPlace)
    (hval : ∀ (j : Nat) t v, Tryz.f3.params[j]? = some t → args[j]? = some v → Value.okWide Tryz.prog W .any base t v)
    (hW : DataW.Whole enc Tryz.prog Tryz.f3.params.toList Rows.fnExactParseContextSpec.vars false W args.toList ds gs before) (hL : laidMetH Tryz.prog Rows.fnExactParseContextRow.laid W) (hS : W.ShapedOpen Tryz.prog) :
    Calls Tryz.prog 3 args W fun e W' => ∃ v, e = .returned v ∧ Rows.fnExactParseContextSpec.post enc Tryz.prog Tryz.f3 false true false false W args v W' := by
  have hW' := hW
  obtain ⟨p, q, hA0, hV, rfl, hfz, hnd⟩ := hW
  have hA : DataW.TrodAll enc Tryz.prog W 0 (fun _ => true) true Tryz.f3.params.toList args.toList ds p := hA0
  rw [Tryz.params3] at hA hval
  obtain ⟨v0, vs0, d0, ds0, p0, q0, hargs, rfl, rfl, h0, r0⟩ := trodAll_cons hA
  obtain ⟨rfl, rfl, rfl⟩ := trodAll_nil r0
  obtain rfl : args = #[v0] := by cases args; simp_all
  obtain ⟨t, rfl, rfl, rfl, hw0⟩ := open_string Tryz.underlying9 (hval 0 9 v0 rfl rfl) h0
  clear hA0
  refine (walk t hw0 W (StdH.std hL) hS (StdH.handle hL)).mono fun e W' ⟨he, hg⟩ => ?_
  subst he
  exact ⟨_, rfl, Law.post_true (tb := 4) (kids_rows (by kernel_rfl) (by kernel_rfl)) (by unfold Law.Full; kernel_rfl) hW' rfl (by rw [Tryz.params3]; decide +kernel) Tryz.underlying4 (by kernel_rfl) rfl hg⟩

/-- A start for the witness: the heap that the door's own run leaves. -/
noncomputable def start (os : Os) : World := StdH.start os
theorem laid_met (os : Os) : laidMetH Tryz.prog Rows.fnExactParseContextRow.laid ((start os).forCall (fun _ _ => 0) ⟨#[], #[.string ⟨#[]⟩], []⟩).memory :=
  StdH.met os _
theorem reads (os : Os) {H : Type} (enc : TypeId × Value → H) : ∃ places, DataW.whole enc Tryz.prog ((start os).forCall (fun _ _ => 0) ⟨#[], #[.string ⟨#[]⟩], []⟩).memory Tryz.f3.params.toList Rows.fnExactParseContextSpec.vars false (#[.string ⟨#[]⟩] : Array Value).toList 8 = some ([.lit (.string [])], [], places) :=
  ⟨[], by kernel_rfl⟩
theorem own : ownKnob Tryz.prog.godebug = none := by kernel_rfl

set_option maxRecDepth 100000 in
theorem lifted (os : Os) (started : os.Started) (H : Type) (enc : TypeId × Value → H) (F : Stop.Interp) :
    ReturnsInHanded {} Tryz.checked os 3 .any ((OpenSpec.ofChange Rows.fnExactParseContextSpec).preRow enc Tryz.prog Tryz.f3 Rows.fnExactParseContextRow.domain false Rows.fnExactParseContextRow.laid) (((OpenSpec.ofChange Rows.fnExactParseContextSpec).at F).post enc Tryz.prog Tryz.f3 false true false false) := by
  obtain ⟨places, hx⟩ := reads os enc
  refine returnsInHanded_of_row (C := Tryz.checked) (s := OpenSpec.ofChange Rows.fnExactParseContextSpec) own started (by kernel_rfl) Tryz.func3
    (witness_row_at (enc := enc) (C := Tryz.checked) false (start os) #[.string ⟨#[]⟩] (StdH.start_os os) (by kernel_rfl) (by kernel_rfl) (by kernel_rfl)
      (OpenSpec.preRow_of_cond 8 hx (by kernel_rfl) (fun k hk => by cases hk) (by kernel_rfl) (laid_met os))) ?_
  intro W base args ds gs before hval hW _ _ _ hL hS _
  exact contract H enc W base args ds gs before hval hW hL hS

theorem said : Rows.FnExactParseContextSaid :=
  OpenClaim.holds_of_cond 3 Tryz.f3 rfl rfl rfl rfl rfl rfl rfl ⟨rfl, rfl, rfl, rfl, rfl⟩ rfl rfl rfl rfl rfl (by kernel_rfl) Tryz.func3 (by kernel_rfl)
    (of_decide_eq_true (by kernel_rfl)) (by unfold Func.isWrapper; first | (rw [if_pos (by decide +kernel)]; kernel_rfl) | (rw [if_neg (by decide +kernel)]; exact ⟨rfl, rfl⟩))
    (fun os started H enc _ F => by rw [OpenClaim.pre_eq_preRow]; exact lifted os started H enc F)

theorem plain (f : FuncId) (fn : Func) (hf : Tryz.pinned.checked.prog.funcNamed "loop.example/g00596/laws.FnExactParseContext" = some f) (hfn : Tryz.pinned.checked.prog.funcs[f]? = some fn) :
    true = Tryz.pinned.checked.prog.looks [] ∧ ∀ (j : Nat) t, fn.params[j]? = some t → Tryz.pinned.checked.prog.wantsStandIn t = false := by
  obtain rfl : f = 3 := Option.some.inj ((show Tryz.prog.funcNamed "loop.example/g00596/laws.FnExactParseContext" = some 3 by kernel_rfl).symm.trans hf) |>.symm
  obtain rfl : fn = Tryz.f3 := (Option.some.inj (Tryz.func3.symm.trans hfn)).symm
  refine ⟨by kernel_rfl, fun j t ht => ?_⟩
  rw [Tryz.params3] at ht
  have hm := Array.mem_of_getElem? ht
  have hall : (#[9].all fun u => !Tryz.prog.wantsStandIn u) = true := by kernel_rfl
  exact (show Tryz.prog.wantsStandIn t = false by simpa using Array.all_eq_true'.1 hall t hm)

theorem card : Rows.FnExactParseContextCardSaid :=
  Claim7.holds_tied_plain_at .later [] _ _ _ _ said (fun _ h => by cases h) (by kernel_rfl) (fun _ h => by cases h) fnExactParseContext_row_tie rfl ⟨rfl, rfl⟩ (by kernel_rfl) rfl plain (by kernel_rfl)
end Go.Proofs.YtoiaomohdnhgcaaGreatDoor.FnExactParseContext
