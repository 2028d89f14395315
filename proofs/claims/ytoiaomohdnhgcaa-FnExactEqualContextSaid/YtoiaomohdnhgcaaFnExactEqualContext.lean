/-
  For all contexts a and b the law FnExactEqualContext returns true: EqualContext of the program returns what EqualContext of the model returns, and leaves both contexts as they are. No condition.
-/
import Derived.Test.YtoiaomohdnhgcaaRows
import Derived.Test.YtoiaomohdnhgcaaLaw
import Derived.Test.YtoiaomohdnhgcaaDual
import Derived.Test.YtoiaomohdnhgcaaEqual
import Derived.Deep.RegionHeld3
import Derived.Lib.SmallJoins
import Derived.WalkKit
import Derived.ProofKit
import Derived.OpenShut
import Derived.Deep.DeepHandedRow
import Derived.LaidMore
import Derived.Stop.LaidErr
import Derived.ChangeMaps5
import Derived.Outline
import Derived.LoopTactic
import Derived.Lib.Hide
import Derived.Below
namespace Go.Proofs.Ytoiaomohdnhgcaa.FnExactEqualContext
open Go Go.ChangeShapes Go.WideShapes Go.ChangeAt Go.ChangeMaps Go.RowKit Mem Ctx

theorem boxApart {w w' : World} {g lo hi : Nat} {t : TypeId} {cs : Array Value} (h : BoxAt w g t cs) (ha : Apart lo hi w w') (hg : g < lo ∨ hi ≤ g) : BoxAt w' g t cs := (ha.block g h.lt hg).trans h
theorem ownBoxed {e : TypeId} {w : World} {lo hi : Nat} {v : Value} {cs : List Value} (h : Own e w lo hi v cs) (hh : hi ≤ w.heap.size) (o : Obj) : Own e (w.alloc o) lo hi v cs := h.below (B := w.heap.size) ((Below.refl _ _).alloc (Nat.le_refl _) o) hh
theorem keep4 {w w' : World} {B : Nat} {p q r s : Addr} {x y z t : Value} (hb : Below B w w') (h : w.cell? p = some x ∧ w.cell? q = some y ∧ w.cell? r = some z ∧ w.cell? s = some t) (hp : p.block < B) (hq : q.block < B) (hr : r.block < B) (hs : s.block < B) :
    w'.cell? p = some x ∧ w'.cell? q = some y ∧ w'.cell? r = some z ∧ w'.cell? s = some t :=
  ⟨(hb.cell hp).trans h.1, (hb.cell hq).trans h.2.1, (hb.cell hr).trans h.2.2.1, (hb.cell hs).trans h.2.2.2⟩
theorem asCtx {x : Option (Int × List Int)} {n : Int} {xs : List Int} {ok : Bool} (hn : (x.getD (0, [])).1 = n) (hx : (x.getD (0, [])).2 = xs) (ho : x.isSome = ok) {w : World} {e : Ending} {w' : World} (h : CtxRes x w e w') :
    ∃ p c, e = .returned (.tuple #[ctx n (.slice p xs.length c), .bool ok]) ∧ Own 3 w' w.heap.size w'.heap.size (.slice p xs.length c) (ints xs) ∧ Below w.heap.size w w' := by
  subst hn hx ho
  obtain ⟨u, he, o, b⟩ := h
  obtain ⟨p, c, rfl⟩ := own_form o
  exact ⟨p, c, he, o, b⟩

set_option maxRecDepth 100000 in
set_option maxHeartbeats 4000000 in
theorem walk (a : Int) (av : Value) (ar : List Int) (b : Int) (bv : Value) (br : List Int) (w : World) (ha : Reads w w.heap.size av (ints ar)) (hb : Reads w w.heap.size bv (ints br)) :
    Calls Try.prog 9 #[ctx a av, ctx b bv] w fun e w' => e = .returned (.bool true) ∧ Below w.heap.size w w' := by
  have hla : ar.length ≤ 9223372036854775807 := by have := ha.1; unfold maxLen at this; simp [ints] at this; omega
  obtain ⟨ap, ac, rfl⟩ := reads_form ha
  have HRa := Lib.hid ha
  clear ha
  have hlb : br.length ≤ 9223372036854775807 := by have := hb.1; unfold maxLen at this; simp [ints] at this; omega
  obtain ⟨bp, bc, rfl⟩ := reads_form hb
  have HRb := Lib.hid hb
  clear hb
  by_cases hlen0 : 1048576 < (ar.length : Int)
  · have HZ0 := Lib.hid (fun w => szCtx a (.slice ap ar.length ac) ar.length 1048576 w ⟨_, _, rfl⟩ hla (by omega) (by omega))
    simp only [if_pos hlen0] at HZ0
    go_enter Try.func9, Try.ntmps9
    go_wp2_with fail
    refine (HZ0.out _).mono ?_
    rintro e w1 ⟨rfl, b1⟩
    have hs1 : w.heap.size + 2 ≤ w1.heap.size := by have := b1.size; simpa using this
    have T1 := Lib.hid ((((Below.refl w.heap.size w).alloc (by first | omega | (simp; omega) | simp) (.cells #[.int .i64 a, .slice ap ar.length ac] 28)).alloc (by first | omega | (simp; omega) | simp) (.cells #[.int .i64 b, .slice bp br.length bc] 28)).trans (b1.mono (by first | omega | (simp; omega) | simp)))
    have Aa1 := Lib.hid (((show BoxAt _ (w.heap.size) _ _ by have := (BoxAt.new w 28 #[.int .i64 a, .slice ap ar.length ac]); simpa using this).alloc (.cells #[.int .i64 b, .slice bp br.length bc] 28)).below b1 (by first | omega | (simp; omega) | simp))
    have Ab1 := Lib.hid ((show BoxAt _ (w.heap.size + 1) _ _ by have := (BoxAt.new (w.alloc (.cells #[.int .i64 a, .slice ap ar.length ac] 28)) 28 #[.int .i64 b, .slice bp br.length bc]); simpa using this).below b1 (by first | omega | (simp; omega) | simp))
    have zAa_1 : w.heap.size < w1.heap.size := Aa1.out.lt
    have cAa_0_1 : w1.cell? ⟨w.heap.size, 0, none⟩ = some (.int .i64 a) := Aa1.out.cell 0
    have cAa_1_1 : w1.cell? ⟨w.heap.size, 1, none⟩ = some (.slice ap ar.length ac) := Aa1.out.cell 1
    have zAb_1 : w.heap.size + 1 < w1.heap.size := Ab1.out.lt
    have cAb_0_1 : w1.cell? ⟨w.heap.size + 1, 0, none⟩ = some (.int .i64 b) := Ab1.out.cell 0
    have cAb_1_1 : w1.cell? ⟨w.heap.size + 1, 1, none⟩ = some (.slice bp br.length bc) := Ab1.out.cell 1
    clear b1
    go_wp2_with fail
    go_ret
    exact ⟨rfl, T1.out⟩
  have HZ0 := Lib.hid (fun w => szCtx a (.slice ap ar.length ac) ar.length 1048576 w ⟨_, _, rfl⟩ hla (by omega) (by omega))
  simp only [if_neg hlen0] at HZ0
  have hd0 : decide (1048576 - (ar.length : Int) < 0) = false := by simp; omega
  have hxla : ar.length ≤ 1048576 := by omega
  by_cases hlen1 : (1048576 - (ar.length : Int)) < (br.length : Int)
  · have HZ1 := Lib.hid (fun w => szCtx b (.slice bp br.length bc) br.length (1048576 - (ar.length : Int)) w ⟨_, _, rfl⟩ hlb (by omega) (by omega))
    simp only [if_pos hlen1] at HZ1
    go_enter Try.func9, Try.ntmps9
    go_wp2_with fail
    refine (HZ0.out _).mono ?_
    rintro e w1 ⟨rfl, b1⟩
    have hs1 : w.heap.size + 2 ≤ w1.heap.size := by have := b1.size; simpa using this
    have T1 := Lib.hid ((((Below.refl w.heap.size w).alloc (by first | omega | (simp; omega) | simp) (.cells #[.int .i64 a, .slice ap ar.length ac] 28)).alloc (by first | omega | (simp; omega) | simp) (.cells #[.int .i64 b, .slice bp br.length bc] 28)).trans (b1.mono (by first | omega | (simp; omega) | simp)))
    have Aa1 := Lib.hid (((show BoxAt _ (w.heap.size) _ _ by have := (BoxAt.new w 28 #[.int .i64 a, .slice ap ar.length ac]); simpa using this).alloc (.cells #[.int .i64 b, .slice bp br.length bc] 28)).below b1 (by first | omega | (simp; omega) | simp))
    have Ab1 := Lib.hid ((show BoxAt _ (w.heap.size + 1) _ _ by have := (BoxAt.new (w.alloc (.cells #[.int .i64 a, .slice ap ar.length ac] 28)) 28 #[.int .i64 b, .slice bp br.length bc]); simpa using this).below b1 (by first | omega | (simp; omega) | simp))
    have zAa_1 : w.heap.size < w1.heap.size := Aa1.out.lt
    have cAa_0_1 : w1.cell? ⟨w.heap.size, 0, none⟩ = some (.int .i64 a) := Aa1.out.cell 0
    have cAa_1_1 : w1.cell? ⟨w.heap.size, 1, none⟩ = some (.slice ap ar.length ac) := Aa1.out.cell 1
    have zAb_1 : w.heap.size + 1 < w1.heap.size := Ab1.out.lt
    have cAb_0_1 : w1.cell? ⟨w.heap.size + 1, 0, none⟩ = some (.int .i64 b) := Ab1.out.cell 0
    have cAb_1_1 : w1.cell? ⟨w.heap.size + 1, 1, none⟩ = some (.slice bp br.length bc) := Ab1.out.cell 1
    clear b1
    go_wp2_with fail
    refine (HZ1.out _).mono ?_
    rintro e w2 ⟨rfl, b2⟩
    have hs2 : w1.heap.size ≤ w2.heap.size := by have := b2.size; simpa using this
    have T2 := Lib.hid (T1.out.trans (b2.mono (by first | omega | (simp; omega) | simp)))
    have Aa2 := Lib.hid (Aa1.out.below b2 (by first | omega | (simp; omega) | simp))
    have Ab2 := Lib.hid (Ab1.out.below b2 (by first | omega | (simp; omega) | simp))
    have zAa_2 : w.heap.size < w2.heap.size := Aa2.out.lt
    have cAa_0_2 : w2.cell? ⟨w.heap.size, 0, none⟩ = some (.int .i64 a) := Aa2.out.cell 0
    have cAa_1_2 : w2.cell? ⟨w.heap.size, 1, none⟩ = some (.slice ap ar.length ac) := Aa2.out.cell 1
    have zAb_2 : w.heap.size + 1 < w2.heap.size := Ab2.out.lt
    have cAb_0_2 : w2.cell? ⟨w.heap.size + 1, 0, none⟩ = some (.int .i64 b) := Ab2.out.cell 0
    have cAb_1_2 : w2.cell? ⟨w.heap.size + 1, 1, none⟩ = some (.slice bp br.length bc) := Ab2.out.cell 1
    clear b2 T1 Aa1 Ab1 zAa_1 cAa_0_1 cAa_1_1 zAb_1 cAb_0_1 cAb_1_1
    go_wp2_with fail
    go_ret
    exact ⟨rfl, T2.out⟩
  have HZ1 := Lib.hid (fun w => szCtx b (.slice bp br.length bc) br.length (1048576 - (ar.length : Int)) w ⟨_, _, rfl⟩ hlb (by omega) (by omega))
  simp only [if_neg hlen1] at HZ1
  have hd1 : decide ((1048576 - (ar.length : Int)) - (br.length : Int) < 0) = false := by simp; omega
  have hxlb : br.length ≤ 1048576 := by omega
  obtain ⟨R, hR⟩ : ∃ R : Bool, (a == b && ar == br) = R := ⟨_, rfl⟩
  have HS := Lib.hid (fun va vb Ba Bb w ha hb hBa hBb => by have := spec_eqc a b va vb ar br Ba Bb w ha hb hBa hBb; rw [hR] at this; exact this)
  have HI := Lib.hid (fun va vb Ba Bb w ha hb hBa hBb => by have := impl_eqc a b va vb ar br Ba Bb w ha hb hBa hBb; rw [hR] at this; exact this)
  have hq : (R != R) = false := by simp
  clear hR
  clear hlen0 hlen1 hla hlb
  go_enter Try.func9, Try.ntmps9
  go_wp2_with fail
  refine (HZ0.out _).mono ?_
  rintro e w1 ⟨rfl, b1⟩
  have hs1 : w.heap.size + 2 ≤ w1.heap.size := by have := b1.size; simpa using this
  have T1 := Lib.hid ((((Below.refl w.heap.size w).alloc (by first | omega | (simp; omega) | simp) (.cells #[.int .i64 a, .slice ap ar.length ac] 28)).alloc (by first | omega | (simp; omega) | simp) (.cells #[.int .i64 b, .slice bp br.length bc] 28)).trans (b1.mono (by first | omega | (simp; omega) | simp)))
  have Aa1 := Lib.hid (((show BoxAt _ (w.heap.size) _ _ by have := (BoxAt.new w 28 #[.int .i64 a, .slice ap ar.length ac]); simpa using this).alloc (.cells #[.int .i64 b, .slice bp br.length bc] 28)).below b1 (by first | omega | (simp; omega) | simp))
  have Ab1 := Lib.hid ((show BoxAt _ (w.heap.size + 1) _ _ by have := (BoxAt.new (w.alloc (.cells #[.int .i64 a, .slice ap ar.length ac] 28)) 28 #[.int .i64 b, .slice bp br.length bc]); simpa using this).below b1 (by first | omega | (simp; omega) | simp))
  have zAa_1 : w.heap.size < w1.heap.size := Aa1.out.lt
  have cAa_0_1 : w1.cell? ⟨w.heap.size, 0, none⟩ = some (.int .i64 a) := Aa1.out.cell 0
  have cAa_1_1 : w1.cell? ⟨w.heap.size, 1, none⟩ = some (.slice ap ar.length ac) := Aa1.out.cell 1
  have zAb_1 : w.heap.size + 1 < w1.heap.size := Ab1.out.lt
  have cAb_0_1 : w1.cell? ⟨w.heap.size + 1, 0, none⟩ = some (.int .i64 b) := Ab1.out.cell 0
  have cAb_1_1 : w1.cell? ⟨w.heap.size + 1, 1, none⟩ = some (.slice bp br.length bc) := Ab1.out.cell 1
  clear b1
  go_wp2_with fail
  refine (HZ1.out _).mono ?_
  rintro e w2 ⟨rfl, b2⟩
  have hs2 : w1.heap.size ≤ w2.heap.size := by have := b2.size; simpa using this
  have T2 := Lib.hid (T1.out.trans (b2.mono (by first | omega | (simp; omega) | simp)))
  have Aa2 := Lib.hid (Aa1.out.below b2 (by first | omega | (simp; omega) | simp))
  have Ab2 := Lib.hid (Ab1.out.below b2 (by first | omega | (simp; omega) | simp))
  have zAa_2 : w.heap.size < w2.heap.size := Aa2.out.lt
  have cAa_0_2 : w2.cell? ⟨w.heap.size, 0, none⟩ = some (.int .i64 a) := Aa2.out.cell 0
  have cAa_1_2 : w2.cell? ⟨w.heap.size, 1, none⟩ = some (.slice ap ar.length ac) := Aa2.out.cell 1
  have zAb_2 : w.heap.size + 1 < w2.heap.size := Ab2.out.lt
  have cAb_0_2 : w2.cell? ⟨w.heap.size + 1, 0, none⟩ = some (.int .i64 b) := Ab2.out.cell 0
  have cAb_1_2 : w2.cell? ⟨w.heap.size + 1, 1, none⟩ = some (.slice bp br.length bc) := Ab2.out.cell 1
  clear b2 T1 Aa1 Ab1 zAa_1 cAa_0_1 cAa_1_1 zAb_1 cAb_0_1 cAb_1_1
  go_wp2_with fail
  go_region_held3 (fun wx => wx.cell? ⟨w.heap.size, 0, none⟩ = some (.int .i64 a) ∧ wx.cell? ⟨w.heap.size, 1, none⟩ = some (.slice ap ar.length ac) ∧ wx.cell? ⟨w.heap.size + 1, 0, none⟩ = some (.int .i64 b) ∧ wx.cell? ⟨w.heap.size + 1, 1, none⟩ = some (.slice bp br.length bc))
    (first | exact ⟨cAa_0_2, cAa_1_2, cAb_0_2, cAb_1_2⟩ | exact keep4 (w := w2.drew) (B := w2.heap.size) b3 ⟨cAa_0_2, cAa_1_2, cAb_0_2, cAb_1_2⟩ (by show w.heap.size < _; omega) (by show w.heap.size < _; omega) (by show w.heap.size + 1 < _; omega) (by show w.heap.size + 1 < _; omega) | exact keep4 (w := w2.drew) (B := w2.heap.size) (b3.trans (b4.mono (b3).size)) ⟨cAa_0_2, cAa_1_2, cAb_0_2, cAb_1_2⟩ (by show w.heap.size < _; omega) (by show w.heap.size < _; omega) (by show w.heap.size + 1 < _; omega) (by show w.heap.size + 1 < _; omega) | exact keep4 (w := w2.drew) (B := w2.heap.size) ((b3.trans (b4.mono (b3).size)).trans (b5.mono ((b3.trans (b4.mono (b3).size))).size)) ⟨cAa_0_2, cAa_1_2, cAb_0_2, cAb_1_2⟩ (by show w.heap.size < _; omega) (by show w.heap.size < _; omega) (by show w.heap.size + 1 < _; omega) (by show w.heap.size + 1 < _; omega))
    (first | (go_at_call 18; (with_reducible refine (toCtx a _ ar w.heap.size w2.drew (HRa.out.below T2.out.drew (Nat.le_refl _)) (T2.out.drew).size hxla).mono ?_); rintro e w3 ⟨u3, rfl, o3, b3⟩; obtain ⟨p3, q3, rfl⟩ := own_form o3) | (go_at_call 18; (with_reducible refine (toCtx b _ br w.heap.size w3 (HRb.out.below (T2.out.drew.trans (b3.mono T2.out.drew.size)) (Nat.le_refl _)) ((T2.out.drew.trans (b3.mono T2.out.drew.size))).size hxlb).mono ?_); rintro e w4 ⟨u4, rfl, o4, b4⟩; obtain ⟨p4, q4, rfl⟩ := own_form o4) | (go_at_call 31; (with_reducible refine (HS.out _ _ w3.heap.size w4.heap.size _ (o3.reads.below b4 (by first | exact Nat.le_refl _ | (have := b4.size; omega))) o4.reads (by have := b4.size; omega) (Nat.le_refl _)).mono ?_); rintro e w5 ⟨rfl, b5⟩) | fail)
  have bb := (Below.refl w2.heap.size w2).drew.trans ((b3.trans (b4.mono (b3).size)).trans (b5.mono ((b3.trans (b4.mono (b3).size))).size))
  clear b4 o4 b3 o3
  clear b5
  have b5 := bb
  clear bb
  have hs5 : w2.heap.size ≤ w5.heap.size := by have := b5.size; simpa using this
  have T5 := Lib.hid (T2.out.trans (b5.mono (by first | omega | (simp; omega) | simp)))
  have Aa5 := Lib.hid (Aa2.out.below b5 (by first | omega | (simp; omega) | simp))
  have Ab5 := Lib.hid (Ab2.out.below b5 (by first | omega | (simp; omega) | simp))
  have zAa_5 : w.heap.size < w5.heap.size := Aa5.out.lt
  have cAa_0_5 : w5.cell? ⟨w.heap.size, 0, none⟩ = some (.int .i64 a) := Aa5.out.cell 0
  have cAa_1_5 : w5.cell? ⟨w.heap.size, 1, none⟩ = some (.slice ap ar.length ac) := Aa5.out.cell 1
  have zAb_5 : w.heap.size + 1 < w5.heap.size := Ab5.out.lt
  have cAb_0_5 : w5.cell? ⟨w.heap.size + 1, 0, none⟩ = some (.int .i64 b) := Ab5.out.cell 0
  have cAb_1_5 : w5.cell? ⟨w.heap.size + 1, 1, none⟩ = some (.slice bp br.length bc) := Ab5.out.cell 1
  clear b5 T2 Aa2 Ab2 zAa_2 cAa_0_2 cAa_1_2 zAb_2 cAb_0_2 cAb_1_2
  go_wp2_with fail
  refine (toCtx a _ ar w.heap.size _ (HRa.out.below T5.out (Nat.le_refl _)) (by first | omega | (simp; omega) | simp) hxla).mono ?_
  rintro e w6 ⟨u6, rfl, o6, b6⟩
  obtain ⟨p6, q6, rfl⟩ := own_form o6
  have X06 := Lib.hid (o6.mono (lo' := w5.heap.size) (by first | omega | (simp; omega) | simp) (Nat.le_refl _))
  have hs6 : w5.heap.size ≤ w6.heap.size := by have := b6.size; simpa using this
  have T6 := Lib.hid (T5.out.trans (b6.mono (by first | omega | (simp; omega) | simp)))
  have Aa6 := Lib.hid (Aa5.out.below b6 (by first | omega | (simp; omega) | simp))
  have Ab6 := Lib.hid (Ab5.out.below b6 (by first | omega | (simp; omega) | simp))
  have zAa_6 : w.heap.size < w6.heap.size := Aa6.out.lt
  have cAa_0_6 : w6.cell? ⟨w.heap.size, 0, none⟩ = some (.int .i64 a) := Aa6.out.cell 0
  have cAa_1_6 : w6.cell? ⟨w.heap.size, 1, none⟩ = some (.slice ap ar.length ac) := Aa6.out.cell 1
  have zAb_6 : w.heap.size + 1 < w6.heap.size := Ab6.out.lt
  have cAb_0_6 : w6.cell? ⟨w.heap.size + 1, 0, none⟩ = some (.int .i64 b) := Ab6.out.cell 0
  have cAb_1_6 : w6.cell? ⟨w.heap.size + 1, 1, none⟩ = some (.slice bp br.length bc) := Ab6.out.cell 1
  clear o6 b6 T5 Aa5 Ab5 zAa_5 cAa_0_5 cAa_1_5 zAb_5 cAb_0_5 cAb_1_5
  go_wp2_with fail
  refine (toCtx b _ br w.heap.size _ (HRb.out.below (T6.out.alloc (by first | omega | (simp; omega) | simp) (.cells #[.int .i64 a, .slice p6 ar.length q6] 31)) (Nat.le_refl _)) (by first | omega | (simp; omega) | simp) hxlb).mono ?_
  rintro e w7 ⟨u7, rfl, o7, b7⟩
  obtain ⟨p7, q7, rfl⟩ := own_form o7
  have X17 := Lib.hid (o7.mono (lo' := w6.heap.size + 1) (by first | omega | (simp; omega) | simp) (Nat.le_refl _))
  have hs7 : w6.heap.size + 1 ≤ w7.heap.size := by have := b7.size; simpa using this
  have T7 := Lib.hid ((T6.out.alloc (by first | omega | (simp; omega) | simp) (.cells #[.int .i64 a, .slice p6 ar.length q6] 31)).trans (b7.mono (by first | omega | (simp; omega) | simp)))
  have Aa7 := Lib.hid ((Aa6.out.alloc (.cells #[.int .i64 a, .slice p6 ar.length q6] 31)).below b7 (by first | omega | (simp; omega) | simp))
  have Ab7 := Lib.hid ((Ab6.out.alloc (.cells #[.int .i64 a, .slice p6 ar.length q6] 31)).below b7 (by first | omega | (simp; omega) | simp))
  have Bx07 := Lib.hid ((show BoxAt _ (w6.heap.size) _ _ by have := (BoxAt.new w6 31 #[.int .i64 a, .slice p6 ar.length q6]); simpa using this).below b7 (by first | omega | (simp; omega) | simp))
  have X07 := Lib.hid ((ownBoxed X06.out (by first | omega | (simp; omega) | simp) (.cells #[.int .i64 a, .slice p6 ar.length q6] 31)).below b7 (by first | omega | (simp; omega) | simp))
  have zAa_7 : w.heap.size < w7.heap.size := Aa7.out.lt
  have cAa_0_7 : w7.cell? ⟨w.heap.size, 0, none⟩ = some (.int .i64 a) := Aa7.out.cell 0
  have cAa_1_7 : w7.cell? ⟨w.heap.size, 1, none⟩ = some (.slice ap ar.length ac) := Aa7.out.cell 1
  have zAb_7 : w.heap.size + 1 < w7.heap.size := Ab7.out.lt
  have cAb_0_7 : w7.cell? ⟨w.heap.size + 1, 0, none⟩ = some (.int .i64 b) := Ab7.out.cell 0
  have cAb_1_7 : w7.cell? ⟨w.heap.size + 1, 1, none⟩ = some (.slice bp br.length bc) := Ab7.out.cell 1
  have zBx0_7 : w6.heap.size < w7.heap.size := Bx07.out.lt
  have cBx0_0_7 : w7.cell? ⟨w6.heap.size, 0, none⟩ = some (.int .i64 a) := Bx07.out.cell 0
  have cBx0_1_7 : w7.cell? ⟨w6.heap.size, 1, none⟩ = some (.slice p6 ar.length q6) := Bx07.out.cell 1
  clear o7 b7 T6 Aa6 Ab6 X06 zAa_6 cAa_0_6 cAa_1_6 zAb_6 cAb_0_6 cAb_1_6
  go_wp2_with fail
  refine (HI.out _ _ w6.heap.size w7.heap.size _ (boxed X07.out.reads (by first | omega | (simp; omega) | simp) (.cells #[.int .i64 b, .slice p7 br.length q7] 31)) (boxed X17.out.reads (by first | omega | (simp; omega) | simp) (.cells #[.int .i64 b, .slice p7 br.length q7] 31)) (by first | omega | (simp; omega) | simp) (by first | omega | (simp; omega) | simp)).mono ?_
  rintro e w8 ⟨rfl, b8⟩
  have hs8 : w7.heap.size + 1 ≤ w8.heap.size := by have := b8.size; simpa using this
  have T8 := Lib.hid ((T7.out.alloc (by first | omega | (simp; omega) | simp) (.cells #[.int .i64 b, .slice p7 br.length q7] 31)).trans (b8.mono (by first | omega | (simp; omega) | simp)))
  have Aa8 := Lib.hid ((Aa7.out.alloc (.cells #[.int .i64 b, .slice p7 br.length q7] 31)).below b8 (by first | omega | (simp; omega) | simp))
  have Ab8 := Lib.hid ((Ab7.out.alloc (.cells #[.int .i64 b, .slice p7 br.length q7] 31)).below b8 (by first | omega | (simp; omega) | simp))
  have Bx08 := Lib.hid ((Bx07.out.alloc (.cells #[.int .i64 b, .slice p7 br.length q7] 31)).below b8 (by first | omega | (simp; omega) | simp))
  have Bx18 := Lib.hid ((show BoxAt _ (w7.heap.size) _ _ by have := (BoxAt.new w7 31 #[.int .i64 b, .slice p7 br.length q7]); simpa using this).below b8 (by first | omega | (simp; omega) | simp))
  have X08 := Lib.hid ((ownBoxed X07.out (by first | omega | (simp; omega) | simp) (.cells #[.int .i64 b, .slice p7 br.length q7] 31)).below b8 (by first | omega | (simp; omega) | simp))
  have X18 := Lib.hid ((ownBoxed X17.out (by first | omega | (simp; omega) | simp) (.cells #[.int .i64 b, .slice p7 br.length q7] 31)).below b8 (by first | omega | (simp; omega) | simp))
  have zAa_8 : w.heap.size < w8.heap.size := Aa8.out.lt
  have cAa_0_8 : w8.cell? ⟨w.heap.size, 0, none⟩ = some (.int .i64 a) := Aa8.out.cell 0
  have cAa_1_8 : w8.cell? ⟨w.heap.size, 1, none⟩ = some (.slice ap ar.length ac) := Aa8.out.cell 1
  have zAb_8 : w.heap.size + 1 < w8.heap.size := Ab8.out.lt
  have cAb_0_8 : w8.cell? ⟨w.heap.size + 1, 0, none⟩ = some (.int .i64 b) := Ab8.out.cell 0
  have cAb_1_8 : w8.cell? ⟨w.heap.size + 1, 1, none⟩ = some (.slice bp br.length bc) := Ab8.out.cell 1
  have zBx0_8 : w6.heap.size < w8.heap.size := Bx08.out.lt
  have cBx0_0_8 : w8.cell? ⟨w6.heap.size, 0, none⟩ = some (.int .i64 a) := Bx08.out.cell 0
  have cBx0_1_8 : w8.cell? ⟨w6.heap.size, 1, none⟩ = some (.slice p6 ar.length q6) := Bx08.out.cell 1
  have zBx1_8 : w7.heap.size < w8.heap.size := Bx18.out.lt
  have cBx1_0_8 : w8.cell? ⟨w7.heap.size, 0, none⟩ = some (.int .i64 b) := Bx18.out.cell 0
  have cBx1_1_8 : w8.cell? ⟨w7.heap.size, 1, none⟩ = some (.slice p7 br.length q7) := Bx18.out.cell 1
  clear b8 T7 Aa7 Ab7 Bx07 X07 X17 zAa_7 cAa_0_7 cAa_1_7 zAb_7 cAb_0_7 cAb_1_7 zBx0_7 cBx0_0_7 cBx0_1_7
  go_wp2_with fail
  have RD := Lib.hid (X08.out.reads.below (Below.refl w8.heap.size w8).drew (by first | omega | (simp; omega) | simp))
  go_region_held3 (fun wx => wx.cell? ⟨w.heap.size, 0, none⟩ = some (.int .i64 a) ∧ wx.cell? ⟨w.heap.size, 1, none⟩ = some (.slice ap ar.length ac) ∧ wx.cell? ⟨w6.heap.size, 0, none⟩ = some (.int .i64 a) ∧ wx.cell? ⟨w6.heap.size, 1, none⟩ = some (.slice p6 ar.length q6))
    (first | exact ⟨cAa_0_8, cAa_1_8, cBx0_0_8, cBx0_1_8⟩ | exact keep4 (w := w8.drew) (B := w8.heap.size) b9 ⟨cAa_0_8, cAa_1_8, cBx0_0_8, cBx0_1_8⟩ (by show w.heap.size < _; omega) (by show w.heap.size < _; omega) (by show w6.heap.size < _; omega) (by show w6.heap.size < _; omega) | exact keep4 (w := w8.drew) (B := w8.heap.size) (b9.trans (b10.mono b9.size)) ⟨cAa_0_8, cAa_1_8, cBx0_0_8, cBx0_1_8⟩ (by show w.heap.size < _; omega) (by show w.heap.size < _; omega) (by show w6.heap.size < _; omega) (by show w6.heap.size < _; omega))
    (first | (go_at_call 18; refine (toCtx a _ ar w.heap.size w8.drew (HRa.out.below T8.out.drew (Nat.le_refl _)) (by show w.heap.size ≤ w8.heap.size; omega) hxla).mono ?_; rintro e w9 ⟨u9, rfl, o9, b9⟩; obtain ⟨p9, q9, rfl⟩ := own_form o9) | (go_at_call 20; refine (eqCtx a a _ _ ar ar w6.heap.size w9.heap.size w9 (RD.out.below b9 (by show w6.heap.size ≤ w8.heap.size; omega)) o9.reads (by have := b9.size; show w6.heap.size ≤ w9.heap.size; change w8.heap.size ≤ w9.heap.size at this; omega) (Nat.le_refl _)).mono ?_; rintro e w10 ⟨rfl, b10⟩) | fail)
  have bb := (Below.refl w8.heap.size w8).drew.trans (b9.trans (b10.mono b9.size))
  clear b9 o9 RD
  clear b10
  have b10 := bb
  clear bb
  have hs10 : w8.heap.size ≤ w10.heap.size := by have := b10.size; simpa using this
  have T10 := Lib.hid (T8.out.trans (b10.mono (by first | omega | (simp; omega) | simp)))
  have Aa10 := Lib.hid (Aa8.out.below b10 (by first | omega | (simp; omega) | simp))
  have Ab10 := Lib.hid (Ab8.out.below b10 (by first | omega | (simp; omega) | simp))
  have Bx010 := Lib.hid (Bx08.out.below b10 (by first | omega | (simp; omega) | simp))
  have Bx110 := Lib.hid (Bx18.out.below b10 (by first | omega | (simp; omega) | simp))
  have X010 := Lib.hid (X08.out.below b10 (by first | omega | (simp; omega) | simp))
  have X110 := Lib.hid (X18.out.below b10 (by first | omega | (simp; omega) | simp))
  have zAa_10 : w.heap.size < w10.heap.size := Aa10.out.lt
  have cAa_0_10 : w10.cell? ⟨w.heap.size, 0, none⟩ = some (.int .i64 a) := Aa10.out.cell 0
  have cAa_1_10 : w10.cell? ⟨w.heap.size, 1, none⟩ = some (.slice ap ar.length ac) := Aa10.out.cell 1
  have zAb_10 : w.heap.size + 1 < w10.heap.size := Ab10.out.lt
  have cAb_0_10 : w10.cell? ⟨w.heap.size + 1, 0, none⟩ = some (.int .i64 b) := Ab10.out.cell 0
  have cAb_1_10 : w10.cell? ⟨w.heap.size + 1, 1, none⟩ = some (.slice bp br.length bc) := Ab10.out.cell 1
  have zBx0_10 : w6.heap.size < w10.heap.size := Bx010.out.lt
  have cBx0_0_10 : w10.cell? ⟨w6.heap.size, 0, none⟩ = some (.int .i64 a) := Bx010.out.cell 0
  have cBx0_1_10 : w10.cell? ⟨w6.heap.size, 1, none⟩ = some (.slice p6 ar.length q6) := Bx010.out.cell 1
  have zBx1_10 : w7.heap.size < w10.heap.size := Bx110.out.lt
  have cBx1_0_10 : w10.cell? ⟨w7.heap.size, 0, none⟩ = some (.int .i64 b) := Bx110.out.cell 0
  have cBx1_1_10 : w10.cell? ⟨w7.heap.size, 1, none⟩ = some (.slice p7 br.length q7) := Bx110.out.cell 1
  clear b10 T8 Aa8 Ab8 Bx08 Bx18 X08 X18 zAa_8 cAa_0_8 cAa_1_8 zAb_8 cAb_0_8 cAb_1_8 zBx0_8 cBx0_0_8 cBx0_1_8 zBx1_8 cBx1_0_8 cBx1_1_8
  have hqq0 : (a == a && ar == ar) = true := by simp
  go_wp2_with fail
  have RD := Lib.hid (X110.out.reads.below (Below.refl w10.heap.size w10).drew (by first | omega | (simp; omega) | simp))
  go_region_held3 (fun wx => wx.cell? ⟨w.heap.size + 1, 0, none⟩ = some (.int .i64 b) ∧ wx.cell? ⟨w.heap.size + 1, 1, none⟩ = some (.slice bp br.length bc) ∧ wx.cell? ⟨w7.heap.size, 0, none⟩ = some (.int .i64 b) ∧ wx.cell? ⟨w7.heap.size, 1, none⟩ = some (.slice p7 br.length q7))
    (first | exact ⟨cAb_0_10, cAb_1_10, cBx1_0_10, cBx1_1_10⟩ | exact keep4 (w := w10.drew) (B := w10.heap.size) b11 ⟨cAb_0_10, cAb_1_10, cBx1_0_10, cBx1_1_10⟩ (by show w.heap.size + 1 < _; omega) (by show w.heap.size + 1 < _; omega) (by show w7.heap.size < _; omega) (by show w7.heap.size < _; omega) | exact keep4 (w := w10.drew) (B := w10.heap.size) (b11.trans (b12.mono b11.size)) ⟨cAb_0_10, cAb_1_10, cBx1_0_10, cBx1_1_10⟩ (by show w.heap.size + 1 < _; omega) (by show w.heap.size + 1 < _; omega) (by show w7.heap.size < _; omega) (by show w7.heap.size < _; omega))
    (first | (go_at_call 18; refine (toCtx b _ br w.heap.size w10.drew (HRb.out.below T10.out.drew (Nat.le_refl _)) (by show w.heap.size ≤ w10.heap.size; omega) hxlb).mono ?_; rintro e w11 ⟨u11, rfl, o11, b11⟩; obtain ⟨p11, q11, rfl⟩ := own_form o11) | (go_at_call 20; refine (eqCtx b b _ _ br br w7.heap.size w11.heap.size w11 (RD.out.below b11 (by show w7.heap.size ≤ w10.heap.size; omega)) o11.reads (by have := b11.size; show w7.heap.size ≤ w11.heap.size; change w10.heap.size ≤ w11.heap.size at this; omega) (Nat.le_refl _)).mono ?_; rintro e w12 ⟨rfl, b12⟩) | fail)
  have bb := (Below.refl w10.heap.size w10).drew.trans (b11.trans (b12.mono b11.size))
  clear b11 o11 RD
  clear b12
  have b12 := bb
  clear bb
  have hs12 : w10.heap.size ≤ w12.heap.size := by have := b12.size; simpa using this
  have T12 := Lib.hid (T10.out.trans (b12.mono (by first | omega | (simp; omega) | simp)))
  have Aa12 := Lib.hid (Aa10.out.below b12 (by first | omega | (simp; omega) | simp))
  have Ab12 := Lib.hid (Ab10.out.below b12 (by first | omega | (simp; omega) | simp))
  have Bx012 := Lib.hid (Bx010.out.below b12 (by first | omega | (simp; omega) | simp))
  have Bx112 := Lib.hid (Bx110.out.below b12 (by first | omega | (simp; omega) | simp))
  have X012 := Lib.hid (X010.out.below b12 (by first | omega | (simp; omega) | simp))
  have X112 := Lib.hid (X110.out.below b12 (by first | omega | (simp; omega) | simp))
  have zAa_12 : w.heap.size < w12.heap.size := Aa12.out.lt
  have cAa_0_12 : w12.cell? ⟨w.heap.size, 0, none⟩ = some (.int .i64 a) := Aa12.out.cell 0
  have cAa_1_12 : w12.cell? ⟨w.heap.size, 1, none⟩ = some (.slice ap ar.length ac) := Aa12.out.cell 1
  have zAb_12 : w.heap.size + 1 < w12.heap.size := Ab12.out.lt
  have cAb_0_12 : w12.cell? ⟨w.heap.size + 1, 0, none⟩ = some (.int .i64 b) := Ab12.out.cell 0
  have cAb_1_12 : w12.cell? ⟨w.heap.size + 1, 1, none⟩ = some (.slice bp br.length bc) := Ab12.out.cell 1
  have zBx0_12 : w6.heap.size < w12.heap.size := Bx012.out.lt
  have cBx0_0_12 : w12.cell? ⟨w6.heap.size, 0, none⟩ = some (.int .i64 a) := Bx012.out.cell 0
  have cBx0_1_12 : w12.cell? ⟨w6.heap.size, 1, none⟩ = some (.slice p6 ar.length q6) := Bx012.out.cell 1
  have zBx1_12 : w7.heap.size < w12.heap.size := Bx112.out.lt
  have cBx1_0_12 : w12.cell? ⟨w7.heap.size, 0, none⟩ = some (.int .i64 b) := Bx112.out.cell 0
  have cBx1_1_12 : w12.cell? ⟨w7.heap.size, 1, none⟩ = some (.slice p7 br.length q7) := Bx112.out.cell 1
  clear b12 T10 Aa10 Ab10 Bx010 Bx110 X010 X110 zAa_10 cAa_0_10 cAa_1_10 zAb_10 cAb_0_10 cAb_1_10 zBx0_10 cBx0_0_10 cBx0_1_10 zBx1_10 cBx1_0_10 cBx1_1_10
  have hqq1 : (b == b && br == br) = true := by simp
  go_wp2_with fail
  go_ret
  exact ⟨rfl, T12.out⟩

set_option maxRecDepth 100000 in
theorem contract (H : Type) (enc : TypeId × Value → H) (W : World) (base : Nat) (args : Array Value) (ds gs : List (DataW H)) (before : List MemPlace)
    (hval : ∀ (j : Nat) t v, Try.f9.params[j]? = some t → args[j]? = some v → Value.okWide Try.prog W .any base t v)
    (hW : DataW.Whole enc Try.prog Try.f9.params.toList Rows.fnExactEqualContextSpec.vars false W args.toList ds gs before) :
    Calls Try.prog 9 args W fun e W' => ∃ v, e = .returned v ∧ Rows.fnExactEqualContextSpec.post enc Try.prog Try.f9 false true false false W args v W' := by
  have hW' := hW
  obtain ⟨p, q, hA0, hV, rfl, hfz, hnd⟩ := hW
  have hA : DataW.TrodAll enc Try.prog W 0 (fun _ => true) true Try.f9.params.toList args.toList ds p := hA0
  rw [Try.params9] at hA hval
  obtain ⟨v0, vs0, d0, ds0, p0, q0, hargs, rfl, rfl, h0, r0⟩ := trodAll_cons hA
  obtain ⟨v1, vs1, d1, ds1, p1, q1, rfl, rfl, rfl, h1, r1⟩ := trodAll_cons r0
  obtain ⟨rfl, rfl, rfl⟩ := trodAll_nil r1
  obtain rfl : args = #[v0, v1] := by cases args; simp_all
  obtain ⟨a0, u0, rs0, rfl, hr0⟩ : ∃ (a : Int) (u : Value) (rs : List Int), v0 = Ctx.ctx a u ∧ Reads W W.heap.size u (ints rs) := by
    obtain ⟨c0, c1, y0, y1, n, rfl, -, -, g0, g1⟩ := Joins.open_agg2 Try.underlying28 (by kernel_rfl) (by kernel_rfl) (hval 0 28 v0 rfl rfl) h0
    obtain ⟨a, ha, -, -⟩ := DataW.trod_int Try.underlying3 g0
    obtain rfl : c0 = .int .i64 a := by simpa using ha
    rcases open_ints Try.underlying22 Try.underlying3 (by kernel_rfl) g1 with ⟨hcs, -⟩ | ⟨a', len, cap, zs, hcs, -, hl, hm, hz, -, hcell, -⟩
    · obtain rfl : c1 = .slice none 0 0 := by simpa using hcs
      exact ⟨a, _, [], rfl, reads_nil _ _⟩
    · obtain rfl : c1 = .slice (some a') len cap := by simpa using hcs
      simp only [if_true] at hz
      have := reads_of (cap := cap) (cs := ints zs) (len := len) (by simp [ints]; omega) (by simp [ints]; omega) (fun i hi => by
        have hi' : i < zs.length := by simpa [ints] using hi
        rw [hcell i hi', ints_get zs i hi'])
      exact ⟨a, _, zs.take len, rfl, by simpa [ints, List.map_take] using this⟩
  obtain ⟨a1, u1, rs1, rfl, hr1⟩ : ∃ (a : Int) (u : Value) (rs : List Int), v1 = Ctx.ctx a u ∧ Reads W W.heap.size u (ints rs) := by
    obtain ⟨c0, c1, y0, y1, n, rfl, -, -, g0, g1⟩ := Joins.open_agg2 Try.underlying28 (by kernel_rfl) (by kernel_rfl) (hval 1 28 v1 rfl rfl) h1
    obtain ⟨a, ha, -, -⟩ := DataW.trod_int Try.underlying3 g0
    obtain rfl : c0 = .int .i64 a := by simpa using ha
    rcases open_ints Try.underlying22 Try.underlying3 (by kernel_rfl) g1 with ⟨hcs, -⟩ | ⟨a', len, cap, zs, hcs, -, hl, hm, hz, -, hcell, -⟩
    · obtain rfl : c1 = .slice none 0 0 := by simpa using hcs
      exact ⟨a, _, [], rfl, reads_nil _ _⟩
    · obtain rfl : c1 = .slice (some a') len cap := by simpa using hcs
      simp only [if_true] at hz
      have := reads_of (cap := cap) (cs := ints zs) (len := len) (by simp [ints]; omega) (by simp [ints]; omega) (fun i hi => by
        have hi' : i < zs.length := by simpa [ints] using hi
        rw [hcell i hi', ints_get zs i hi'])
      exact ⟨a, _, zs.take len, rfl, by simpa [ints, List.map_take] using this⟩
  clear hA0
  refine (walk a0 u0 rs0 a1 u1 rs1 W hr0 hr1).mono fun e W' ⟨he, hg⟩ => ?_
  subst he
  exact ⟨_, rfl, Law.post_true (tb := 4) (kids_rows (by kernel_rfl) (by kernel_rfl)) (by unfold Law.Full; kernel_rfl) hW' rfl (by rw [Try.params9]; decide +kernel) Try.underlying4 (by kernel_rfl) rfl hg⟩

noncomputable def start (os : Os) : World := World.holding Try.prog os ⟨#[], #[], []⟩
theorem reads (os : Os) {H : Type} (enc : TypeId × Value → H) : ∃ places, DataW.whole enc Try.prog ((start os).forCall (fun _ _ => 0) ⟨#[], #[.agg #[.int .i64 0, .slice none 0 0], .agg #[.int .i64 0, .slice none 0 0]], []⟩).memory Try.f9.params.toList Rows.fnExactEqualContextSpec.vars false (#[.agg #[.int .i64 0, .slice none 0 0], .agg #[.int .i64 0, .slice none 0 0]] : Array Value).toList 8 = some ([.agg [.lit (.int .i64 0), .nil], .agg [.lit (.int .i64 0), .nil]], [], places) :=
  ⟨[], by kernel_rfl⟩
theorem own : ownKnob Try.prog.godebug = none := by kernel_rfl

set_option maxRecDepth 100000 in
theorem lifted (os : Os) (started : os.Started) (H : Type) (enc : TypeId × Value → H) (F : Stop.Interp) :
    ReturnsInHanded {} Try.checked os 9 .any ((OpenSpec.ofChange Rows.fnExactEqualContextSpec).preRow enc Try.prog Try.f9 Rows.fnExactEqualContextRow.domain false Rows.fnExactEqualContextRow.laid) (((OpenSpec.ofChange Rows.fnExactEqualContextSpec).at F).post enc Try.prog Try.f9 false true false false) := by
  obtain ⟨places, hx⟩ := reads os enc
  refine returnsInHanded_of_row (C := Try.checked) (s := OpenSpec.ofChange Rows.fnExactEqualContextSpec) own started (by kernel_rfl) Try.func9
    (witness_row_at (enc := enc) (C := Try.checked) false (start os) #[.agg #[.int .i64 0, .slice none 0 0], .agg #[.int .i64 0, .slice none 0 0]] rfl (by kernel_rfl) (by kernel_rfl) (by kernel_rfl)
      (OpenSpec.preRow_of_cond 8 hx (by kernel_rfl) (fun k hk => by cases hk) (by kernel_rfl) (laidMet_of_run' 8 (by kernel_rfl) (by kernel_rfl)))) ?_
  intro W base args ds gs before hval hW _ _ _ _ _ _
  exact contract H enc W base args ds gs before hval hW

theorem said : Rows.FnExactEqualContextSaid :=
  OpenClaim.holds_of_cond 9 Try.f9 rfl rfl rfl rfl rfl rfl rfl ⟨rfl, rfl, rfl, rfl, rfl⟩ rfl rfl rfl rfl rfl (by kernel_rfl) Try.func9 (by kernel_rfl)
    (of_decide_eq_true (by kernel_rfl)) (by unfold Func.isWrapper; first | (rw [if_pos (by decide +kernel)]; kernel_rfl) | (rw [if_neg (by decide +kernel)]; exact ⟨rfl, rfl⟩))
    (fun os started H enc _ F => by rw [OpenClaim.pre_eq_preRow]; exact lifted os started H enc F)
end Go.Proofs.Ytoiaomohdnhgcaa.FnExactEqualContext
