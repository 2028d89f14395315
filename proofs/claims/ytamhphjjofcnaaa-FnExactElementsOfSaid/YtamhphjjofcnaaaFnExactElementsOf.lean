/-
  For every number s the law FnExactElementsOf returns true: ElementsOf of the program returns what ElementsOf of the model returns, in memory of its own. No condition.
-/
import Derived.Test.YtamhphjjofcnaaaRows
import Derived.Test.YtamhphjjofcnaaaLaw
import Derived.Test.YtamhphjjofcnaaaElems
import Derived.WalkKit
import Derived.ProofKit
import Derived.OpenShut
import Derived.Deep.DeepHandedRow
import Derived.LaidMore
import Derived.Stop.LaidErr
import Derived.ChangeMaps5
import Derived.Outline
import Derived.LoopTactic
import Derived.Lib.Hide
import Derived.Below
namespace Go.Proofs.Ytamhphjjofcnaaa.FnExactElementsOf
open Go Go.ChangeShapes Go.WideShapes Go.ChangeAt Go.ChangeMaps Go.RowKit Mem Elems

set_option maxHeartbeats 400000 in
theorem walk (s : Int) (w : World) :
    Calls Try.prog 6 #[.int .i64 s] w fun e w' => e = .returned (.bool true) ∧ Below w.heap.size w w' := by
  have hq : (elems s == elems s) = true := by simp
  have hl : (elems s).length ≤ 8 := elemsTo_le s 8
  generalize hx : elems s = xs at hq hl
  have Hx := Lib.hid hx
  clear hx
  go_enter Try.func6, Try.ntmps6
  go_wp2_with fail
  refine (spec_elems s _).mono ?_
  rintro e w1 ⟨v0, rfl, o0, b1⟩
  rw [Hx.out] at o0
  go_wp2_with fail
  refine (impl_elems s _).mono ?_
  rintro e w2 ⟨v1, rfl, o1, b2⟩
  rw [Hx.out] at o1
  have o0 := o0.below b2 (Nat.le_refl _)
  go_wp2_with fail
  refine (Ints.eqInts v1 v0 xs xs _ _ w2 o1.reads o0.reads (Nat.le_refl _) b2.size).mono ?_
  rintro e w3 ⟨rfl, b3⟩
  have o0 := o0.below b3 b2.size
  have o1 := o1.below b3 (Nat.le_refl _)
  go_wp2_with fail
  refine (Ints.markInts v1 xs 1 _ _ w3 o1 (by omega)).mono ?_
  rintro e w4 ⟨rfl, m1, a4⟩
  have o0 := o0.apart a4 (.inl (Nat.le_refl _))
  go_wp2_with fail
  refine (Ints.heldInts v1 (seq 1 xs.length) 1 xs.length _ w4 m1.reads rfl (by omega)).mono ?_
  rintro e w' ⟨rfl, rfl⟩
  go_wp2_with fail
  refine (impl_elems s _).mono ?_
  rintro e w5 ⟨v2, rfl, o2, b5⟩
  rw [Hx.out] at o2
  have h4 := a4.size
  have h3 := b3.size
  have h2 := b2.size
  have h1 := b1.size
  have h5 := b5.size
  have o0 := o0.below b5 (by omega)
  have m1 := m1.below b5 (by omega)
  go_wp2_with fail
  refine (Ints.eqInts v2 v0 xs xs _ _ w5 o2.reads o0.reads (by omega) (by omega)).mono ?_
  rintro e w6 ⟨rfl, b6⟩
  have m1 := m1.below b6 (by omega)
  go_wp2_with fail
  refine (Ints.heldInts v1 (seq 1 xs.length) 1 xs.length _ w6 m1.reads rfl (by omega)).mono ?_
  rintro e w7 ⟨rfl, rfl⟩
  go_wp2_with fail
  go_ret
  exact ⟨rfl, ((((b1.trans (b2.mono (by omega))).trans (b3.mono (by omega))).trans (a4.below (by omega) (by omega))).trans (b5.mono (by omega))).trans (b6.mono (by omega))⟩

set_option maxRecDepth 100000 in
theorem contract (H : Type) (enc : TypeId × Value → H) (W : World) (base : Nat) (args : Array Value) (ds gs : List (DataW H)) (before : List MemPlace)
    (hval : ∀ (j : Nat) t v, Try.f6.params[j]? = some t → args[j]? = some v → Value.okWide Try.prog W .any base t v)
    (hW : DataW.Whole enc Try.prog Try.f6.params.toList Rows.fnExactElementsOfSpec.vars false W args.toList ds gs before) :
    Calls Try.prog 6 args W fun e W' => ∃ v, e = .returned v ∧ Rows.fnExactElementsOfSpec.post enc Try.prog Try.f6 false true false false W args v W' := by
  have hW' := hW
  obtain ⟨p, q, hA0, hV, rfl, hfz, hnd⟩ := hW
  have hA : DataW.TrodAll enc Try.prog W 0 (fun _ => true) true Try.f6.params.toList args.toList ds p := hA0
  rw [Try.params6] at hA hval
  obtain ⟨v0, vs0, d0, ds0, p0, q0, hargs, rfl, rfl, h0, r0⟩ := trodAll_cons hA
  obtain ⟨rfl, rfl, rfl⟩ := trodAll_nil r0
  obtain rfl : args = #[v0] := by cases args; simp_all
  obtain ⟨s, rfl, rfl, rfl, hw0⟩ := open_int Try.underlying3 (hval 0 3 v0 rfl rfl) h0
  clear hA0
  refine (walk s W).mono fun e W' ⟨he, hg⟩ => ?_
  subst he
  exact ⟨_, rfl, Law.post_true (tb := 4) (kids_rows (by kernel_rfl) (by kernel_rfl)) (by unfold Law.Full; kernel_rfl) hW' rfl (by rw [Try.params6]; decide +kernel) Try.underlying4 (by kernel_rfl) rfl hg⟩

noncomputable def start (os : Os) : World := World.holding Try.prog os ⟨#[], #[], []⟩
theorem reads (os : Os) {H : Type} (enc : TypeId × Value → H) : ∃ places, DataW.whole enc Try.prog ((start os).forCall (fun _ _ => 0) ⟨#[], #[.int .i64 0], []⟩).memory Try.f6.params.toList Rows.fnExactElementsOfSpec.vars false (#[.int .i64 0] : Array Value).toList 8 = some ([.lit (.int .i64 0)], [], places) :=
  ⟨[], by kernel_rfl⟩
theorem own : ownKnob Try.prog.godebug = none := by kernel_rfl

set_option maxRecDepth 100000 in
theorem lifted (os : Os) (started : os.Started) (H : Type) (enc : TypeId × Value → H) (F : Stop.Interp) :
    ReturnsInHanded {} Try.checked os 6 .any ((OpenSpec.ofChange Rows.fnExactElementsOfSpec).preRow enc Try.prog Try.f6 Rows.fnExactElementsOfRow.domain false Rows.fnExactElementsOfRow.laid) (((OpenSpec.ofChange Rows.fnExactElementsOfSpec).at F).post enc Try.prog Try.f6 false true false false) := by
  obtain ⟨places, hx⟩ := reads os enc
  refine returnsInHanded_of_row (C := Try.checked) (s := OpenSpec.ofChange Rows.fnExactElementsOfSpec) own started (by kernel_rfl) Try.func6
    (witness_row_at (enc := enc) (C := Try.checked) false (start os) #[.int .i64 0] rfl (by kernel_rfl) (by kernel_rfl) (by kernel_rfl)
      (OpenSpec.preRow_of_cond 8 hx (by kernel_rfl) (fun k hk => by cases hk) (by kernel_rfl) (laidMet_of_run' 8 (by kernel_rfl) (by kernel_rfl)))) ?_
  intro W base args ds gs before hval hW _ _ _ _ _ _
  exact contract H enc W base args ds gs before hval hW

theorem said : Rows.FnExactElementsOfSaid :=
  OpenClaim.holds_of_cond 6 Try.f6 rfl rfl rfl rfl rfl rfl rfl ⟨rfl, rfl, rfl, rfl, rfl⟩ rfl rfl rfl rfl rfl (by kernel_rfl) Try.func6 (by kernel_rfl)
    (of_decide_eq_true (by kernel_rfl)) (by unfold Func.isWrapper; first | (rw [if_pos (by decide +kernel)]; kernel_rfl) | (rw [if_neg (by decide +kernel)]; exact ⟨rfl, rfl⟩))
    (fun os started H enc _ F => by rw [OpenClaim.pre_eq_preRow]; exact lifted os started H enc F)
end Go.Proofs.Ytamhphjjofcnaaa.FnExactElementsOf
