/-
  For every text t the law FnExactParseRule returns true: the function of the program returns what the function of the model returns. No condition.
-/
import Derived.Test.YtmdpiikffnfnbaaRows
import Derived.Test.YtmdpiikffnfnbaaLaw
import Derived.Test.YtmdpiikffnfnbaaDual
import Derived.Test.YtmdpiikffnfnbaaRuleI
import Derived.Test.YtmdpiikffnfnbaaRuleI2
import Derived.Test.YtmdpiikffnfnbaaRuleI3
import Derived.Test.YtmdpiikffnfnbaaRuleK
import Derived.Deep.RegionHeld3
import Derived.Lib.SmallJoins
import Derived.WalkKit
import Derived.ProofKit
import Derived.OpenShut
import Derived.Deep.DeepHandedRow
import Derived.LaidMore
import Derived.Stop.LaidErr
import Derived.ChangeMaps5
import Derived.Outline
import Derived.LoopTactic
import Derived.Lib.Hide
import Derived.Below
namespace Go.Proofs.Ytmdpiikffnfnbaa.FnExactParseRule
open Go Go.ChangeShapes Go.WideShapes Go.ChangeAt Go.ChangeMaps Go.RowKit Mem Ctx

theorem asInts {xs : List Int} {w : World} {e : Ending} {w' : World} (h : ∃ u, e = .returned u ∧ Mem.Own 3 w' w.heap.size w'.heap.size u (ints xs) ∧ Below w.heap.size w w') :
    ∃ p c, e = .returned (.slice p xs.length c) ∧ Mem.Own 3 w' w.heap.size w'.heap.size (.slice p xs.length c) (ints xs) ∧ Below w.heap.size w w' := by
  obtain ⟨u, he, o, b⟩ := h
  obtain ⟨p, c, rfl⟩ := own_form o
  exact ⟨p, c, he, o, b⟩
theorem boxApart {w w' : World} {g lo hi : Nat} {t : TypeId} {cs : Array Value} (h : BoxAt w g t cs) (ha : Apart lo hi w w') (hg : g < lo ∨ hi ≤ g) : BoxAt w' g t cs := (ha.block g h.lt hg).trans h
theorem ownBoxed {e : TypeId} {w : World} {lo hi : Nat} {v : Value} {cs : List Value} (h : Mem.Own e w lo hi v cs) (hh : hi ≤ w.heap.size) (o : Obj) : Mem.Own e (w.alloc o) lo hi v cs := h.below (B := w.heap.size) ((Below.refl _ _).alloc (Nat.le_refl _) o) hh
theorem keep4 {w w' : World} {B : Nat} {p q r s : Addr} {x y z t : Value} (hb : Below B w w') (h : w.cell? p = some x ∧ w.cell? q = some y ∧ w.cell? r = some z ∧ w.cell? s = some t) (hp : p.block < B) (hq : q.block < B) (hr : r.block < B) (hs : s.block < B) :
    w'.cell? p = some x ∧ w'.cell? q = some y ∧ w'.cell? r = some z ∧ w'.cell? s = some t :=
  ⟨(hb.cell hp).trans h.1, (hb.cell hq).trans h.2.1, (hb.cell hr).trans h.2.2.1, (hb.cell hs).trans h.2.2.2⟩
theorem asCtx {x : Option (Int × List Int)} {n : Int} {xs : List Int} {ok : Bool} (hn : (x.getD (0, [])).1 = n) (hx : (x.getD (0, [])).2 = xs) (ho : x.isSome = ok) {w : World} {e : Ending} {w' : World} (h : CtxRes x w e w') :
    ∃ p c, e = .returned (.tuple #[ctx n (.slice p xs.length c), .bool ok]) ∧ Mem.Own 3 w' w.heap.size w'.heap.size (.slice p xs.length c) (ints xs) ∧ Below w.heap.size w w' := by
  subst hn hx ho
  obtain ⟨u, he, o, b⟩ := h
  obtain ⟨p, c, rfl⟩ := own_form o
  exact ⟨p, c, he, o, b⟩

set_option maxRecDepth 100000 in
set_option maxHeartbeats 4000000 in
theorem walk (t : ByteArray) (hzt : t.size ≤ maxLen) (w : World) (hS : w.ShapedOpen Try.prog) :
    Calls Try.prog 9 #[.string t] w fun e w' => e = .returned (.bool true) ∧ Below w.heap.size w w' := by
  obtain ⟨⟨t⟩⟩ := t
  unfold maxLen at hzt
  have hszt : (⟨⟨t⟩⟩ : ByteArray).size = t.length := by simp [ByteArray.size]
  rw [hszt] at hzt
  have HSH := Lib.hid hS
  clear hS
  by_cases hlen0 : (1048576 : Int) < (t.length : Int)
  · have hd0 : decide ((1048576 : Int) < (t.length : Int)) = true := by simp; omega
    go_enter Try.func9, Try.ntmps9
    go_wp2_with fail
    go_ret
    exact ⟨rfl, Below.refl _ _⟩
  have hd0 : decide ((1048576 : Int) < (t.length : Int)) = false := by simp; omega
  have hxlt : t.length ≤ 1048576 := by omega
  obtain ⟨p, hp⟩ : ∃ p, (Rule.parseRule t).getD (0, 0) = p := ⟨_, rfl⟩
  obtain ⟨ok, hok⟩ : ∃ ok, (Rule.parseRule t).isSome = ok := ⟨_, rfl⟩
  have HS := Lib.hid (fun w => Rule.spec_parseRule t hxlt w)
  have HI := Lib.hid (fun w hS => Rule.impl_parseRule t hxlt w hS)
  rw [show Rule.optR (Rule.parseRule t) = .tuple #[Rule.mk p, .bool ok] from by rw [Rule.optR, hp, hok]] at HS HI
  clear hp hok
  have hqp : (p == p) = true := by simp
  have hqo : (ok != ok) = false := by simp
  clear hlen0
  go_enter Try.func9, Try.ntmps9
  go_wp2_with fail
  refine (HS.out _).mono ?_
  rintro e w1 ⟨rfl, b1⟩
  have hs1 : w.heap.size ≤ w1.heap.size := by have := b1.size; simpa using this
  have T1 := Lib.hid ((Below.refl w.heap.size w).trans (b1.mono (by first | omega | (simp; omega) | simp)))
  clear b1
  go_wp2_with fail
  refine (HI.out _ (Rule.shapedBelow HSH.out (T1.out.alloc (by first | omega | (simp; omega) | simp) (.cells #[.int .i64 p.1, .int .i64 p.2] 38)))).mono ?_
  rintro e w2 ⟨rfl, b2⟩
  have hs2 : w1.heap.size + 1 ≤ w2.heap.size := by have := b2.size; simpa using this
  have T2 := Lib.hid ((T1.out.alloc (by first | omega | (simp; omega) | simp) (.cells #[.int .i64 p.1, .int .i64 p.2] 38)).trans (b2.mono (by first | omega | (simp; omega) | simp)))
  have Bw2 := Lib.hid ((show BoxAt _ (w1.heap.size) _ _ by have := (BoxAt.new w1 38 #[.int .i64 p.1, .int .i64 p.2]); simpa using this).below b2 (by first | omega | (simp; omega) | simp))
  have zBw_2 : w1.heap.size < w2.heap.size := Bw2.out.lt
  have cBw_0_2 : w2.cell? ⟨w1.heap.size, 0, none⟩ = some (.int .i64 p.1) := Bw2.out.cell 0
  have cBw_1_2 : w2.cell? ⟨w1.heap.size, 1, none⟩ = some (.int .i64 p.2) := Bw2.out.cell 1
  clear b2 T1
  go_wp2_with fail
  refine (PRule.eq1 p p _).mono ?_
  rintro e w3 ⟨rfl, b3⟩
  have hs3 : w2.heap.size + 1 ≤ w3.heap.size := by have := b3.size; simpa using this
  have T3 := Lib.hid ((T2.out.alloc (by first | omega | (simp; omega) | simp) (.cells #[.int .i64 p.1, .int .i64 p.2] 38)).trans (b3.mono (by first | omega | (simp; omega) | simp)))
  have Bw3 := Lib.hid ((Bw2.out.alloc (.cells #[.int .i64 p.1, .int .i64 p.2] 38)).below b3 (by first | omega | (simp; omega) | simp))
  have Bg3 := Lib.hid ((show BoxAt _ (w2.heap.size) _ _ by have := (BoxAt.new w2 38 #[.int .i64 p.1, .int .i64 p.2]); simpa using this).below b3 (by first | omega | (simp; omega) | simp))
  have zBw_3 : w1.heap.size < w3.heap.size := Bw3.out.lt
  have cBw_0_3 : w3.cell? ⟨w1.heap.size, 0, none⟩ = some (.int .i64 p.1) := Bw3.out.cell 0
  have cBw_1_3 : w3.cell? ⟨w1.heap.size, 1, none⟩ = some (.int .i64 p.2) := Bw3.out.cell 1
  have zBg_3 : w2.heap.size < w3.heap.size := Bg3.out.lt
  have cBg_0_3 : w3.cell? ⟨w2.heap.size, 0, none⟩ = some (.int .i64 p.1) := Bg3.out.cell 0
  have cBg_1_3 : w3.cell? ⟨w2.heap.size, 1, none⟩ = some (.int .i64 p.2) := Bg3.out.cell 1
  clear b3 T2 Bw2 zBw_2 cBw_0_2 cBw_1_2
  go_wp2_with fail
  go_ret
  exact ⟨rfl, T3.out⟩

set_option maxRecDepth 100000 in
theorem contract (H : Type) (enc : TypeId × Value → H) (W : World) (base : Nat) (args : Array Value) (ds gs : List (DataW H)) (before : List MemPlace)
    (hval : ∀ (j : Nat) t v, Try.f9.params[j]? = some t → args[j]? = some v → Value.okWide Try.prog W .any base t v)
    (hW : DataW.Whole enc Try.prog Try.f9.params.toList Rows.fnExactParseRuleSpec.vars false W args.toList ds gs before) (hS : W.ShapedOpen Try.prog) :
    Calls Try.prog 9 args W fun e W' => ∃ v, e = .returned v ∧ Rows.fnExactParseRuleSpec.post enc Try.prog Try.f9 false true false false W args v W' := by
  have hW' := hW
  obtain ⟨p, q, hA0, hV, rfl, hfz, hnd⟩ := hW
  have hA : DataW.TrodAll enc Try.prog W 0 (fun _ => true) true Try.f9.params.toList args.toList ds p := hA0
  rw [Try.params9] at hA hval
  obtain ⟨v0, vs0, d0, ds0, p0, q0, hargs, rfl, rfl, h0, r0⟩ := trodAll_cons hA
  obtain ⟨rfl, rfl, rfl⟩ := trodAll_nil r0
  obtain rfl : args = #[v0] := by cases args; simp_all
  obtain ⟨t, rfl, rfl, rfl, hw0⟩ := open_string Try.underlying9 (hval 0 9 v0 rfl rfl) h0
  clear hA0
  refine (walk t hw0 W hS).mono fun e W' ⟨he, hg⟩ => ?_
  subst he
  exact ⟨_, rfl, Law.post_true (tb := 4) (kids_rows (by kernel_rfl) (by kernel_rfl)) (by unfold Law.Full; kernel_rfl) hW' rfl (by rw [Try.params9]; decide +kernel) Try.underlying4 (by kernel_rfl) rfl hg⟩

noncomputable def start (os : Os) : World := World.holding Try.prog os ⟨#[], #[], []⟩
theorem reads (os : Os) {H : Type} (enc : TypeId × Value → H) : ∃ places, DataW.whole enc Try.prog ((start os).forCall (fun _ _ => 0) ⟨#[], #[.string ⟨#[]⟩], []⟩).memory Try.f9.params.toList Rows.fnExactParseRuleSpec.vars false (#[.string ⟨#[]⟩] : Array Value).toList 8 = some ([.lit (.string [])], [], places) :=
  ⟨[], by kernel_rfl⟩
theorem own : ownKnob Try.prog.godebug = none := by kernel_rfl

set_option maxRecDepth 100000 in
theorem lifted (os : Os) (started : os.Started) (H : Type) (enc : TypeId × Value → H) (F : Stop.Interp) :
    ReturnsInHanded {} Try.checked os 9 .any ((OpenSpec.ofChange Rows.fnExactParseRuleSpec).preRow enc Try.prog Try.f9 Rows.fnExactParseRuleRow.domain false Rows.fnExactParseRuleRow.laid) (((OpenSpec.ofChange Rows.fnExactParseRuleSpec).at F).post enc Try.prog Try.f9 false true false false) := by
  obtain ⟨places, hx⟩ := reads os enc
  refine returnsInHanded_of_row (C := Try.checked) (s := OpenSpec.ofChange Rows.fnExactParseRuleSpec) own started (by kernel_rfl) Try.func9
    (witness_row_at (enc := enc) (C := Try.checked) false (start os) #[.string ⟨#[]⟩] rfl (by kernel_rfl) (by kernel_rfl) (by kernel_rfl)
      (OpenSpec.preRow_of_cond 8 hx (by kernel_rfl) (fun k hk => by cases hk) (by kernel_rfl) (laidMet_of_run' 8 (by kernel_rfl) (by kernel_rfl)))) ?_
  intro W base args ds gs before hval hW _ _ _ _ hS _
  exact contract H enc W base args ds gs before hval hW hS

theorem said : Rows.FnExactParseRuleSaid :=
  OpenClaim.holds_of_cond 9 Try.f9 rfl rfl rfl rfl rfl rfl rfl ⟨rfl, rfl, rfl, rfl, rfl⟩ rfl rfl rfl rfl rfl (by kernel_rfl) Try.func9 (by kernel_rfl)
    (of_decide_eq_true (by kernel_rfl)) (by unfold Func.isWrapper; first | (rw [if_pos (by decide +kernel)]; kernel_rfl) | (rw [if_neg (by decide +kernel)]; exact ⟨rfl, rfl⟩))
    (fun os started H enc _ F => by rw [OpenClaim.pre_eq_preRow]; exact lifted os started H enc F)
end Go.Proofs.Ytmdpiikffnfnbaa.FnExactParseRule
