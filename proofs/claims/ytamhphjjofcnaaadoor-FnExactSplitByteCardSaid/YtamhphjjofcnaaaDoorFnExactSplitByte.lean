/-
  For every string s and byte b the law FnExactSplitByte returns true: SplitByte of the program returns what SplitByte of the model returns, in memory of its own. Condition: the listed tables of the standard library are what its text lays.
-/
import Derived.Test.YtamhphjjofcnaaaDoorCards
import Derived.Test.YtamhphjjofcnaaaDoorTie
import Derived.Test.YtamhphjjofcnaaaDoorLaw
import Derived.Test.YtamhphjjofcnaaaDoorSplit
import Derived.WalkKit
import Derived.ProofKit
import Derived.OpenShut
import Derived.Deep.DeepHandedRow
import Derived.LaidMore
import Derived.Stop.LaidErr
import Derived.ChangeMaps5
import Derived.Outline
import Derived.LoopTactic
import Derived.Lib.Hide
import Derived.Below
import Derived.Lay
namespace Go.Proofs.YtamhphjjofcnaaaDoor.FnExactSplitByte
open Go Go.ChangeShapes Go.WideShapes Go.ChangeAt Go.ChangeMaps Go.RowKit Mem Strs Cuts Split

set_option maxRecDepth 100000 in
set_option maxHeartbeats 800000 in
theorem walk (s : ByteArray) (b : Int) (hs : s.size ≤ maxLen) (hb : 0 ≤ b ∧ b ≤ 255) (w : World) (hS : w.ShapedOpen Tryd.prog) :
    Calls Tryd.prog 3 #[.string s, .int .u8 b] w fun e w' => e = .returned (.bool true) ∧ Below w.heap.size w w' := by
  obtain ⟨⟨l⟩⟩ := s
  unfold maxLen at hs
  have hsz : (⟨⟨l⟩⟩ : ByteArray).size = l.length := by simp [ByteArray.size]
  rw [hsz] at hs
  by_cases hlen : 1048576 < l.length
  · have hd : decide ((1048576 : Int) < (l.length : Int)) = true := by simp; omega
    go_enter Tryd.func3, Tryd.ntmps3
    go_wp2_with fail
    go_ret
    exact ⟨rfl, Below.refl _ _⟩
  · have hd : decide ((1048576 : Int) < (l.length : Int)) = false := by simp; omega
    have HS := Lib.hid hS
    clear hS
    obtain ⟨c, rfl⟩ : ∃ c : UInt8, b = (c.toNat : Int) := ⟨UInt8.ofNat b.toNat, by rw [UInt8.toNat_ofNat']; omega⟩
    clear hb
    have hxl := cuts_length c l
    have H1 := Lib.hid (spec_split l c (by omega))
    have H2 := Lib.hid (impl_split l c (by omega))
    generalize cuts c l = xs at hxl H1 H2
    have hq : (xs == xs) = true := by simp
    have hxm : 1 + xs.length ≤ 4000000 := by omega
    go_enter Tryd.func3, Tryd.ntmps3
    go_wp2_with fail
    refine (H1.out _).mono ?_
    rintro e w1 ⟨v0, rfl, o0, b1⟩
    go_wp2_with fail
    refine (H2.out _ (shaped_below HS.out b1)).mono ?_
    rintro e w2 ⟨v1, rfl, o1, b2⟩
    have h1 := b1.size
    have h2 := b2.size
    have o0 := o0.below b2 (Nat.le_refl _)
    have T2 := Lib.hid (b1.trans (b2.mono h1))
    clear b1 b2
    go_wp2_with fail
    refine (Strs.eqStrs v1 v0 xs xs _ _ w2 o1.reads o0.reads (Nat.le_refl _) h2).mono ?_
    rintro e w3 ⟨rfl, b3⟩
    have h3 := b3.size
    have o0 := o0.below b3 h2
    have o1 := o1.below b3 (Nat.le_refl _)
    have T3 := Lib.hid (T2.out.trans (b3.mono (by omega)))
    clear b3 T2
    go_wp2_with fail
    refine (Strs.markStrs v1 xs 1 _ _ w3 o1 (by omega) hxm h3).mono ?_
    rintro e w4 ⟨rfl, m1, a4⟩
    have h4 := a4.size
    have o0 := o0.apart a4 (.inl (Nat.le_refl _))
    have T4 := Lib.hid (T3.out.trans (a4.below (by omega) (by omega)))
    clear a4 T3 o1
    go_wp2_with fail
    refine (Strs.heldStrs v1 (seqS 1 xs.length) 1 xs.length _ w4 m1.reads (by omega) rfl (by omega) hxm).mono ?_
    rintro e w5 ⟨rfl, b5⟩
    have h5 := b5.size
    have o0 := o0.below b5 (by omega)
    have m1 := m1.below b5 (by omega)
    have T5 := Lib.hid (T4.out.trans (b5.mono (by omega)))
    clear b5 T4
    go_wp2_with fail
    refine (H2.out _ (shaped_below HS.out T5.out)).mono ?_
    rintro e w6 ⟨v2, rfl, o2, b6⟩
    have h6 := b6.size
    have o0 := o0.below b6 (by omega)
    have m1 := m1.below b6 (by omega)
    have T6 := Lib.hid (T5.out.trans (b6.mono (by omega)))
    clear b6 T5
    go_wp2_with fail
    refine (Strs.eqStrs v2 v0 xs xs _ _ w6 o2.reads o0.reads (by omega) (by omega)).mono ?_
    rintro e w7 ⟨rfl, b7⟩
    have h7 := b7.size
    have m1 := m1.below b7 (by omega)
    have T7 := Lib.hid (T6.out.trans (b7.mono (by omega)))
    clear b7 T6
    go_wp2_with fail
    refine (Strs.heldStrs v1 (seqS 1 xs.length) 1 xs.length _ w7 m1.reads (by omega) rfl (by omega) hxm).mono ?_
    rintro e w8 ⟨rfl, b8⟩
    have T8 := Lib.hid (T7.out.trans (b8.mono (by omega)))
    clear b8 T7
    go_wp2_with fail
    go_ret
    exact ⟨rfl, T8.out⟩

set_option maxRecDepth 100000 in
theorem contract (H : Type) (enc : TypeId × Value → H) (W : World) (base : Nat) (args : Array Value) (ds gs : List (DataW H)) (before : List MemPlace)
    (hval : ∀ (j : Nat) t v, Tryd.f3.params[j]? = some t → args[j]? = some v → Value.okWide Tryd.prog W .any base t v)
    (hW : DataW.Whole enc Tryd.prog Tryd.f3.params.toList Rows.fnExactSplitByteSpec.vars false W args.toList ds gs before) (_hL : laidMetH Tryd.prog Rows.fnExactSplitByteRow.laid W) (hS : W.ShapedOpen Tryd.prog) :
    Calls Tryd.prog 3 args W fun e W' => ∃ v, e = .returned v ∧ Rows.fnExactSplitByteSpec.post enc Tryd.prog Tryd.f3 false true false false W args v W' := by
  have hW' := hW
  obtain ⟨p, q, hA0, hV, rfl, hfz, hnd⟩ := hW
  have hA : DataW.TrodAll enc Tryd.prog W 0 (fun _ => true) true Tryd.f3.params.toList args.toList ds p := hA0
  rw [Tryd.params3] at hA hval
  obtain ⟨v0, vs0, d0, ds0, p0, q0, hargs, rfl, rfl, h0, r0⟩ := trodAll_cons hA
  obtain ⟨v1, vs1, d1, ds1, p1, q1, rfl, rfl, rfl, h1, r1⟩ := trodAll_cons r0
  obtain ⟨rfl, rfl, rfl⟩ := trodAll_nil r1
  obtain rfl : args = #[v0, v1] := by cases args; simp_all
  obtain ⟨s, rfl, rfl, rfl, hw0⟩ := open_string Tryd.underlying9 (hval 0 9 v0 rfl rfl) h0
  obtain ⟨b, rfl, rfl, rfl, hw1⟩ := open_int Tryd.underlying5 (hval 1 5 v1 rfl rfl) h1
  clear hA0
  refine (walk s b hw0 (by simp [Lit.wf, IntKind.min, IntKind.max, IntKind.signed, IntKind.bits] at hw1; omega) W hS).mono fun e W' ⟨he, hg⟩ => ?_
  subst he
  exact ⟨_, rfl, Law.post_true (tb := 4) (kids_rows (by kernel_rfl) (by kernel_rfl)) (by unfold Law.Full; kernel_rfl) hW' rfl (by rw [Tryd.params3]; decide +kernel) Tryd.underlying4 (by kernel_rfl) rfl hg⟩

/-- A start for the witness: the heap that the door's own run leaves. -/
noncomputable def start (os : Os) : World := World.laidAll Tryd.prog os Rows.fnExactSplitByteRow.laid
theorem laid_met (os : Os) : laidMet Tryd.prog Rows.fnExactSplitByteRow.laid ((start os).forCall (fun _ _ => 0) ⟨#[], #[.string ⟨#[]⟩, .int .u8 0], []⟩).memory :=
  laidMet_laidAll _ (by kernel_rfl) (by kernel_rfl)
theorem reads (os : Os) {H : Type} (enc : TypeId × Value → H) : ∃ places, DataW.whole enc Tryd.prog ((start os).forCall (fun _ _ => 0) ⟨#[], #[.string ⟨#[]⟩, .int .u8 0], []⟩).memory Tryd.f3.params.toList Rows.fnExactSplitByteSpec.vars false (#[.string ⟨#[]⟩, .int .u8 0] : Array Value).toList 8 = some ([.lit (.string []), .lit (.int .u8 0)], [], places) :=
  ⟨[], by kernel_rfl⟩
theorem own : ownKnob Tryd.prog.godebug = none := by kernel_rfl

set_option maxRecDepth 100000 in
theorem lifted (os : Os) (started : os.Started) (H : Type) (enc : TypeId × Value → H) (F : Stop.Interp) :
    ReturnsInHanded {} Tryd.checked os 3 .any ((OpenSpec.ofChange Rows.fnExactSplitByteSpec).preRow enc Tryd.prog Tryd.f3 Rows.fnExactSplitByteRow.domain false Rows.fnExactSplitByteRow.laid) (((OpenSpec.ofChange Rows.fnExactSplitByteSpec).at F).post enc Tryd.prog Tryd.f3 false true false false) := by
  obtain ⟨places, hx⟩ := reads os enc
  refine returnsInHanded_of_row (C := Tryd.checked) (s := OpenSpec.ofChange Rows.fnExactSplitByteSpec) own started (by kernel_rfl) Tryd.func3
    (witness_row_at (enc := enc) (C := Tryd.checked) false (start os) #[.string ⟨#[]⟩, .int .u8 0] (World.laidAll_os _ _ _) (by kernel_rfl) (by kernel_rfl) (by kernel_rfl)
      (OpenSpec.preRow_of_cond 8 hx (by kernel_rfl) (fun k hk => by cases hk) (by kernel_rfl) (laid_met os))) ?_
  intro W base args ds gs before hval hW _ _ _ hL hS _
  exact contract H enc W base args ds gs before hval hW hL hS

theorem said : Rows.FnExactSplitByteSaid :=
  OpenClaim.holds_of_cond 3 Tryd.f3 rfl rfl rfl rfl rfl rfl rfl ⟨rfl, rfl, rfl, rfl, rfl⟩ rfl rfl rfl rfl rfl (by kernel_rfl) Tryd.func3 (by kernel_rfl)
    (of_decide_eq_true (by kernel_rfl)) (by unfold Func.isWrapper; first | (rw [if_pos (by decide +kernel)]; kernel_rfl) | (rw [if_neg (by decide +kernel)]; exact ⟨rfl, rfl⟩))
    (fun os started H enc _ F => by rw [OpenClaim.pre_eq_preRow]; exact lifted os started H enc F)

theorem plain (f : FuncId) (fn : Func) (hf : Tryd.pinned.checked.prog.funcNamed "loop.example/g00596/laws.FnExactSplitByte" = some f) (hfn : Tryd.pinned.checked.prog.funcs[f]? = some fn) :
    false = Tryd.pinned.checked.prog.looks [] ∧ ∀ (j : Nat) t, fn.params[j]? = some t → Tryd.pinned.checked.prog.wantsStandIn t = false := by
  obtain rfl : f = 3 := Option.some.inj ((show Tryd.prog.funcNamed "loop.example/g00596/laws.FnExactSplitByte" = some 3 by kernel_rfl).symm.trans hf) |>.symm
  obtain rfl : fn = Tryd.f3 := (Option.some.inj (Tryd.func3.symm.trans hfn)).symm
  refine ⟨by kernel_rfl, fun j t ht => ?_⟩
  rw [Tryd.params3] at ht
  have hm := Array.mem_of_getElem? ht
  have hall : (#[9, 5].all fun u => !Tryd.prog.wantsStandIn u) = true := by kernel_rfl
  exact (show Tryd.prog.wantsStandIn t = false by simpa using Array.all_eq_true'.1 hall t hm)

theorem card : Rows.FnExactSplitByteCardSaid :=
  Claim7.holds_tied_plain_at .later [] _ _ _ _ said (fun _ h => by cases h) (by kernel_rfl) (fun _ h => by cases h) fnExactSplitByte_row_tie rfl ⟨rfl, rfl⟩ (by kernel_rfl) rfl plain (by kernel_rfl)
end Go.Proofs.YtamhphjjofcnaaaDoor.FnExactSplitByte
