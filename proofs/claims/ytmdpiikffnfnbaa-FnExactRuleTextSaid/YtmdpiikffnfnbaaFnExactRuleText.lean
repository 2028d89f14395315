/-
  For all arguments the law FnExactRuleText returns true: the function of the program returns what the function of the model returns, and leaves its arguments as they are. No condition.
-/
import Derived.Test.YtmdpiikffnfnbaaRows
import Derived.Test.YtmdpiikffnfnbaaLaw
import Derived.Test.YtmdpiikffnfnbaaDual
import Derived.Test.YtmdpiikffnfnbaaRuleI
import Derived.Test.YtmdpiikffnfnbaaRuleI2
import Derived.Test.YtmdpiikffnfnbaaRuleI3
import Derived.Test.YtmdpiikffnfnbaaRuleJ
import Derived.Deep.RegionHeld3
import Derived.Lib.SmallJoins
import Derived.WalkKit
import Derived.ProofKit
import Derived.OpenShut
import Derived.Deep.DeepHandedRow
import Derived.LaidMore
import Derived.Stop.LaidErr
import Derived.ChangeMaps5
import Derived.Outline
import Derived.LoopTactic
import Derived.Lib.Hide
import Derived.Below
namespace Go.Proofs.Ytmdpiikffnfnbaa.FnExactRuleText
open Go Go.ChangeShapes Go.WideShapes Go.ChangeAt Go.ChangeMaps Go.RowKit Mem Ctx

theorem asInts {xs : List Int} {w : World} {e : Ending} {w' : World} (h : ∃ u, e = .returned u ∧ Mem.Own 3 w' w.heap.size w'.heap.size u (ints xs) ∧ Below w.heap.size w w') :
    ∃ p c, e = .returned (.slice p xs.length c) ∧ Mem.Own 3 w' w.heap.size w'.heap.size (.slice p xs.length c) (ints xs) ∧ Below w.heap.size w w' := by
  obtain ⟨u, he, o, b⟩ := h
  obtain ⟨p, c, rfl⟩ := own_form o
  exact ⟨p, c, he, o, b⟩
theorem boxApart {w w' : World} {g lo hi : Nat} {t : TypeId} {cs : Array Value} (h : BoxAt w g t cs) (ha : Apart lo hi w w') (hg : g < lo ∨ hi ≤ g) : BoxAt w' g t cs := (ha.block g h.lt hg).trans h
theorem ownBoxed {e : TypeId} {w : World} {lo hi : Nat} {v : Value} {cs : List Value} (h : Mem.Own e w lo hi v cs) (hh : hi ≤ w.heap.size) (o : Obj) : Mem.Own e (w.alloc o) lo hi v cs := h.below (B := w.heap.size) ((Below.refl _ _).alloc (Nat.le_refl _) o) hh
theorem keep4 {w w' : World} {B : Nat} {p q r s : Addr} {x y z t : Value} (hb : Below B w w') (h : w.cell? p = some x ∧ w.cell? q = some y ∧ w.cell? r = some z ∧ w.cell? s = some t) (hp : p.block < B) (hq : q.block < B) (hr : r.block < B) (hs : s.block < B) :
    w'.cell? p = some x ∧ w'.cell? q = some y ∧ w'.cell? r = some z ∧ w'.cell? s = some t :=
  ⟨(hb.cell hp).trans h.1, (hb.cell hq).trans h.2.1, (hb.cell hr).trans h.2.2.1, (hb.cell hs).trans h.2.2.2⟩
theorem asCtx {x : Option (Int × List Int)} {n : Int} {xs : List Int} {ok : Bool} (hn : (x.getD (0, [])).1 = n) (hx : (x.getD (0, [])).2 = xs) (ho : x.isSome = ok) {w : World} {e : Ending} {w' : World} (h : CtxRes x w e w') :
    ∃ p c, e = .returned (.tuple #[ctx n (.slice p xs.length c), .bool ok]) ∧ Mem.Own 3 w' w.heap.size w'.heap.size (.slice p xs.length c) (ints xs) ∧ Below w.heap.size w w' := by
  subst hn hx ho
  obtain ⟨u, he, o, b⟩ := h
  obtain ⟨p, c, rfl⟩ := own_form o
  exact ⟨p, c, he, o, b⟩

set_option maxRecDepth 100000 in
set_option maxHeartbeats 4000000 in
theorem walk (x1 x2 : Int) (w : World) :
    Calls Try.prog 8 #[.agg #[.int .i64 x1, .int .i64 x2]] w fun e w' => e = .returned (.bool true) ∧ Below w.heap.size w w' := by
  obtain ⟨R, hR⟩ : ∃ R : List UInt8, Rule.ruleText (x1, x2) = R := ⟨_, rfl⟩
  have HS := Lib.hid (fun w => by have := Rule.spec_ruleText (x1, x2) w; rw [hR] at this; exact this)
  have HI := Lib.hid (fun w => by have := Rule.impl_ruleText (x1, x2) w; rw [hR] at this; exact this)
  have hq : (R == R) = true := by simp
  clear hR
  go_enter Try.func8, Try.ntmps8
  go_wp2_with fail
  refine (PRule.to1 (x1, x2) _).mono ?_
  rintro e w1 ⟨rfl, b1⟩
  have hs1 : w.heap.size + 1 ≤ w1.heap.size := by have := b1.size; simpa using this
  have T1 := Lib.hid (((Below.refl w.heap.size w).alloc (by first | omega | (simp; omega) | simp) (.cells #[.int .i64 x1, .int .i64 x2] 33)).trans (b1.mono (by first | omega | (simp; omega) | simp)))
  have Ax1 := Lib.hid ((show BoxAt _ (w.heap.size) _ _ by have := (BoxAt.new w 33 #[.int .i64 x1, .int .i64 x2]); simpa using this).below b1 (by first | omega | (simp; omega) | simp))
  have zAx_1 : w.heap.size < w1.heap.size := Ax1.out.lt
  have cAx_0_1 : w1.cell? ⟨w.heap.size, 0, none⟩ = some (.int .i64 x1) := Ax1.out.cell 0
  have cAx_1_1 : w1.cell? ⟨w.heap.size, 1, none⟩ = some (.int .i64 x2) := Ax1.out.cell 1
  clear b1
  go_wp2_with fail
  refine (HS.out _).mono ?_
  rintro e w2 ⟨rfl, b2⟩
  have hs2 : w1.heap.size ≤ w2.heap.size := by have := b2.size; simpa using this
  have T2 := Lib.hid (T1.out.trans (b2.mono (by first | omega | (simp; omega) | simp)))
  have Ax2 := Lib.hid (Ax1.out.below b2 (by first | omega | (simp; omega) | simp))
  have zAx_2 : w.heap.size < w2.heap.size := Ax2.out.lt
  have cAx_0_2 : w2.cell? ⟨w.heap.size, 0, none⟩ = some (.int .i64 x1) := Ax2.out.cell 0
  have cAx_1_2 : w2.cell? ⟨w.heap.size, 1, none⟩ = some (.int .i64 x2) := Ax2.out.cell 1
  clear b2 T1 Ax1 zAx_1 cAx_0_1 cAx_1_1
  go_wp2_with fail
  refine (PRule.to1 (x1, x2) _).mono ?_
  rintro e w3 ⟨rfl, b3⟩
  have hs3 : w2.heap.size ≤ w3.heap.size := by have := b3.size; simpa using this
  have T3 := Lib.hid (T2.out.trans (b3.mono (by first | omega | (simp; omega) | simp)))
  have Ax3 := Lib.hid (Ax2.out.below b3 (by first | omega | (simp; omega) | simp))
  have zAx_3 : w.heap.size < w3.heap.size := Ax3.out.lt
  have cAx_0_3 : w3.cell? ⟨w.heap.size, 0, none⟩ = some (.int .i64 x1) := Ax3.out.cell 0
  have cAx_1_3 : w3.cell? ⟨w.heap.size, 1, none⟩ = some (.int .i64 x2) := Ax3.out.cell 1
  clear b3 T2 Ax2 zAx_2 cAx_0_2 cAx_1_2
  go_wp2_with fail
  refine (HI.out _).mono ?_
  rintro e w4 ⟨rfl, b4⟩
  have hs4 : w3.heap.size ≤ w4.heap.size := by have := b4.size; simpa using this
  have T4 := Lib.hid (T3.out.trans (b4.mono (by first | omega | (simp; omega) | simp)))
  have Ax4 := Lib.hid (Ax3.out.below b4 (by first | omega | (simp; omega) | simp))
  have zAx_4 : w.heap.size < w4.heap.size := Ax4.out.lt
  have cAx_0_4 : w4.cell? ⟨w.heap.size, 0, none⟩ = some (.int .i64 x1) := Ax4.out.cell 0
  have cAx_1_4 : w4.cell? ⟨w.heap.size, 1, none⟩ = some (.int .i64 x2) := Ax4.out.cell 1
  clear b4 T3 Ax3 zAx_3 cAx_0_3 cAx_1_3
  go_wp2_with fail
  go_ret
  exact ⟨rfl, T4.out⟩

set_option maxRecDepth 100000 in
theorem contract (H : Type) (enc : TypeId × Value → H) (W : World) (base : Nat) (args : Array Value) (ds gs : List (DataW H)) (before : List MemPlace)
    (hval : ∀ (j : Nat) t v, Try.f8.params[j]? = some t → args[j]? = some v → Value.okWide Try.prog W .any base t v)
    (hW : DataW.Whole enc Try.prog Try.f8.params.toList Rows.fnExactRuleTextSpec.vars false W args.toList ds gs before) :
    Calls Try.prog 8 args W fun e W' => ∃ v, e = .returned v ∧ Rows.fnExactRuleTextSpec.post enc Try.prog Try.f8 false true false false W args v W' := by
  have hW' := hW
  obtain ⟨p, q, hA0, hV, rfl, hfz, hnd⟩ := hW
  have hA : DataW.TrodAll enc Try.prog W 0 (fun _ => true) true Try.f8.params.toList args.toList ds p := hA0
  rw [Try.params8] at hA hval
  obtain ⟨v0, vs0, d0, ds0, p0, q0, hargs, rfl, rfl, h0, r0⟩ := trodAll_cons hA
  obtain ⟨rfl, rfl, rfl⟩ := trodAll_nil r0
  obtain rfl : args = #[v0] := by cases args; simp_all
  obtain ⟨x0, y0, rfl⟩ : ∃ x y : Int, v0 = .agg #[.int .i64 x, .int .i64 y] := by
    obtain ⟨c0, c1, y0, y1, n, rfl, -, -, g0, g1⟩ := Joins.open_agg2 Try.underlying33 (by kernel_rfl) (by kernel_rfl) (hval 0 33 v0 rfl rfl) h0
    obtain ⟨a, ha, -, -⟩ := DataW.trod_int Try.underlying3 g0
    obtain rfl : c0 = .int .i64 a := by simpa using ha
    obtain ⟨b, hb, -, -⟩ := DataW.trod_int Try.underlying3 g1
    obtain rfl : c1 = .int .i64 b := by simpa using hb
    exact ⟨a, b, rfl⟩
  clear hA0
  refine (walk x0 y0 W).mono fun e W' ⟨he, hg⟩ => ?_
  subst he
  exact ⟨_, rfl, Law.post_true (tb := 4) (kids_rows (by kernel_rfl) (by kernel_rfl)) (by unfold Law.Full; kernel_rfl) hW' rfl (by rw [Try.params8]; decide +kernel) Try.underlying4 (by kernel_rfl) rfl hg⟩

noncomputable def start (os : Os) : World := World.holding Try.prog os ⟨#[], #[], []⟩
theorem reads (os : Os) {H : Type} (enc : TypeId × Value → H) : ∃ places, DataW.whole enc Try.prog ((start os).forCall (fun _ _ => 0) ⟨#[], #[.agg #[.int .i64 0, .int .i64 0]], []⟩).memory Try.f8.params.toList Rows.fnExactRuleTextSpec.vars false (#[.agg #[.int .i64 0, .int .i64 0]] : Array Value).toList 8 = some ([.agg [.lit (.int .i64 0), .lit (.int .i64 0)]], [], places) :=
  ⟨[], by kernel_rfl⟩
theorem own : ownKnob Try.prog.godebug = none := by kernel_rfl

set_option maxRecDepth 100000 in
theorem lifted (os : Os) (started : os.Started) (H : Type) (enc : TypeId × Value → H) (F : Stop.Interp) :
    ReturnsInHanded {} Try.checked os 8 .any ((OpenSpec.ofChange Rows.fnExactRuleTextSpec).preRow enc Try.prog Try.f8 Rows.fnExactRuleTextRow.domain false Rows.fnExactRuleTextRow.laid) (((OpenSpec.ofChange Rows.fnExactRuleTextSpec).at F).post enc Try.prog Try.f8 false true false false) := by
  obtain ⟨places, hx⟩ := reads os enc
  refine returnsInHanded_of_row (C := Try.checked) (s := OpenSpec.ofChange Rows.fnExactRuleTextSpec) own started (by kernel_rfl) Try.func8
    (witness_row_at (enc := enc) (C := Try.checked) false (start os) #[.agg #[.int .i64 0, .int .i64 0]] rfl (by kernel_rfl) (by kernel_rfl) (by kernel_rfl)
      (OpenSpec.preRow_of_cond 8 hx (by kernel_rfl) (fun k hk => by cases hk) (by kernel_rfl) (laidMet_of_run' 8 (by kernel_rfl) (by kernel_rfl)))) ?_
  intro W base args ds gs before hval hW _ _ _ _ _ _
  exact contract H enc W base args ds gs before hval hW

theorem said : Rows.FnExactRuleTextSaid :=
  OpenClaim.holds_of_cond 8 Try.f8 rfl rfl rfl rfl rfl rfl rfl ⟨rfl, rfl, rfl, rfl, rfl⟩ rfl rfl rfl rfl rfl (by kernel_rfl) Try.func8 (by kernel_rfl)
    (of_decide_eq_true (by kernel_rfl)) (by unfold Func.isWrapper; first | (rw [if_pos (by decide +kernel)]; kernel_rfl) | (rw [if_neg (by decide +kernel)]; exact ⟨rfl, rfl⟩))
    (fun os started H enc _ F => by rw [OpenClaim.pre_eq_preRow]; exact lifted os started H enc F)
end Go.Proofs.Ytmdpiikffnfnbaa.FnExactRuleText
