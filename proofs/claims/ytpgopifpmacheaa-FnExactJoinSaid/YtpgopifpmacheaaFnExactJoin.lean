/-
  For every row of strings and every string the law FnExactJoin returns true: Join of the program returns what Join of the model returns, and leaves the row as it is. No condition.
-/
import Derived.Test.YtpgopifpmacheaaRows
import Derived.Test.YtpgopifpmacheaaLaw
import Derived.Test.YtpgopifpmacheaaJoin
import Derived.SliceStrings
import Derived.WalkKit
import Derived.ProofKit
import Derived.OpenShut
import Derived.Deep.DeepHandedRow
import Derived.LaidMore
import Derived.Stop.LaidErr
import Derived.ChangeMaps5
import Derived.Outline
import Derived.LoopTactic
import Derived.Lib.Hide
import Derived.Below
namespace Go.Proofs.Ytpgopifpmacheaa.FnExactJoin
open Go Go.ChangeShapes Go.WideShapes Go.ChangeAt Go.ChangeMaps Go.RowKit Mem Joins

set_option maxRecDepth 100000 in
set_option maxHeartbeats 800000 in
theorem walk (v : Value) (xs : List (List UInt8)) (s : ByteArray) (B : Nat) (w : World) (hr : Reads w B v (Strs.strs xs)) (hB : B ≤ w.heap.size) (hx : ∀ j, j < xs.length → (xs.getD j []).length ≤ 9223372036854775807) (hs : s.size ≤ maxLen) :
    Calls Try.prog 3 #[v, .string s] w fun e w' => e = .returned (.bool true) ∧ Below w.heap.size w w' := by
  obtain ⟨⟨l⟩⟩ := s
  unfold maxLen at hs
  have hsz : (⟨⟨l⟩⟩ : ByteArray).size = l.length := by simp [ByteArray.size]
  rw [hsz] at hs
  by_cases hlen : 1048576 < l.length
  · have hd : decide ((1048576 : Int) < (l.length : Int)) = true := by simp; omega
    go_enter Try.func3, Try.ntmps3
    go_wp2_with fail
    go_ret
    exact ⟨rfl, Below.refl _ _⟩
  · have hd : decide ((1048576 : Int) < (l.length : Int)) = false := by simp; omega
    by_cases hsum : xs.length + Strs.lens xs ≤ 1048576
    · have H0 := Lib.hid (Strs.szStrs v xs B w hr hx)
      have HR := Lib.hid hr
      have hlx : ∀ j, j < xs.length → (xs.getD j []).length ≤ 1048576 := fun j hj => by have := Strs.lens_each xs j hj; omega
      have HLX := Lib.hid hlx
      have hxl : xs.length ≤ 1048576 := by omega
      have HS := Lib.hid hsum
      clear hr hx hlx
      rw [if_pos hsum] at H0
      generalize hgm : xs.length + Strs.lens xs = m at H0 HS hsum
      have hd2 : decide ((1048576 : Int) - (m : Int) < 0) = false := by simp; omega
      clear hgm
      go_enter Try.func3, Try.ntmps3
      go_wp2_with fail
      refine H0.out.mono ?_
      rintro e w' ⟨rfl, rfl⟩
      go_wp2_with fail
      refine (Strs.toStrs v xs B _ HR.out hB hxl).mono ?_
      rintro e w1 ⟨v1, rfl, o1, b1⟩
      have h1 := b1.size
      have T1 := Lib.hid b1
      have O1 := Lib.hid o1
      clear o1 b1
      go_wp2_with fail
      refine (spec_join v1 xs l _ w1 O1.out.reads (Nat.le_refl _) hxl (by omega) HLX.out).mono ?_
      rintro e w2 ⟨rfl, b2⟩
      have h2 := b2.size
      have T2 := Lib.hid (T1.out.trans (b2.mono h1))
      clear b2 T1
      have hjl : (joined xs l).length ≤ 1048576 := by
        unfold joined
        split
        · exact Nat.zero_le _
        · omega
      generalize hgj : joined xs l = r at hjl
      have HJ := Lib.hid hgj
      clear hgj
      go_wp2_with fail
      refine (Strs.toStrs v xs B w2 (HR.out.below T2.out hB) (by omega) hxl).mono ?_
      rintro e w3 ⟨v3, rfl, o3, b3⟩
      have h3 := b3.size
      have T3 := Lib.hid (T2.out.trans (b3.mono (by omega)))
      have O3 := Lib.hid o3
      clear o3 b3 T2
      go_wp2_with fail
      refine (impl_join v3 xs l _ w3 O3.out.reads O3.out.capOk (Nat.le_refl _) hxl (by omega) HLX.out).mono ?_
      rintro e w4 ⟨rfl, b4⟩
      rw [HJ.out]
      have h4 := b4.size
      have T4 := Lib.hid (T3.out.trans (b4.mono (by omega)))
      have O4 := Lib.hid (O3.out.below b4 (Nat.le_refl _))
      clear b4 T3 O3
      have hq : (r == r) = true := by simp
      go_wp2_with fail
      refine (Strs.toStrs v xs B w4 (HR.out.below T4.out hB) (by omega) hxl).mono ?_
      rintro e w5 ⟨v5, rfl, o5, b5⟩
      have h5 := b5.size
      have T5 := Lib.hid (T4.out.trans (b5.mono (by omega)))
      have O5 := Lib.hid (O4.out.below b5 (by omega))
      have P5 := Lib.hid o5
      clear o5 b5 T4 O4
      go_wp2_with fail
      refine (Strs.eqStrs v3 v5 xs xs _ _ w5 O5.out.reads P5.out.reads (by omega) (Nat.le_refl _)).mono ?_
      rintro e w6 ⟨rfl, b6⟩
      have T6 := Lib.hid (T5.out.trans (b6.mono (by omega)))
      have hq2 : (xs == xs) = true := by simp
      clear b6 T5
      go_wp2_with fail
      go_ret
      exact ⟨rfl, T6.out⟩
    · have H0 := Lib.hid (Strs.szStrs v xs B w hr hx)
      have HS := Lib.hid hsum
      clear hr hx hsum
      go_enter Try.func3, Try.ntmps3
      go_wp2_with fail
      refine H0.out.mono ?_
      rintro e w' ⟨rfl, rfl⟩
      rw [if_neg HS.out]
      go_wp2_with fail
      go_ret
      exact ⟨rfl, Below.refl _ _⟩
theorem cellsStr : Try.prog.cellsOf 9 = 1 := by kernel_rfl
/-- A slice of strings that came in can be read. -/
theorem reads_of {w : World} {a : Addr} {len cap : Nat} {ss : List ByteArray} (hl : len ≤ ss.length) (hm : ss.length ≤ maxLen) (hc : ∀ i, i < ss.length → w.cell? (a.add i) = some (.string (ss.getD i ByteArray.empty))) :
    Reads w w.heap.size (.slice (some a) len cap) (Strs.strs ((ss.take len).map fun s => s.data.toList)) := by
  have hlen : (Strs.strs ((ss.take len).map fun s => s.data.toList)).length = len := by simp [Strs.strs]; omega
  refine ⟨by omega, some a, cap, by rw [hlen], fun hne => ?_⟩
  have h0 : 0 < len := by
    rcases Nat.eq_zero_or_pos len with h | h
    · exact absurd (List.length_eq_zero_iff.1 (hlen.trans h)) hne
    · exact h
  have hspot : a = ⟨a.block, a.off, none⟩ := by
    have := hc 0 (by omega)
    obtain ⟨b, o, sp⟩ := a
    cases sp with
    | none => rfl
    | some x =>
      simp only [Addr.add, if_pos, World.cell?] at this
      split at this
      · simp at this
      · cases this
  have hb : a.block < w.heap.size := by
    have := hc 0 (by omega)
    simp only [Addr.add, if_pos, World.cell?] at this
    split at this
    · rename_i h; exact (Array.getElem?_eq_some_iff.1 h).1
    · cases this
  refine ⟨a.block, a.off, by rw [← hspot], hb, fun j hj => ?_⟩
  rw [hlen] at hj
  have h1 := hc j (by omega)
  have h2 : a.add j = ⟨a.block, a.off + j, none⟩ := by
    rw [hspot]
    unfold Addr.add
    split
    · rename_i h; subst h; rfl
    · rfl
  rw [← h2, h1]
  simp [Strs.strs, List.getD, List.getElem?_eq_getElem (by omega : j < ss.length), hj]

set_option maxRecDepth 100000 in
theorem contract (H : Type) (enc : TypeId × Value → H) (W : World) (base : Nat) (args : Array Value) (ds gs : List (DataW H)) (before : List MemPlace)
    (hval : ∀ (j : Nat) t v, Try.f3.params[j]? = some t → args[j]? = some v → Value.okWide Try.prog W .any base t v)
    (hW : DataW.Whole enc Try.prog Try.f3.params.toList Rows.fnExactJoinSpec.vars false W args.toList ds gs before) :
    Calls Try.prog 3 args W fun e W' => ∃ v, e = .returned v ∧ Rows.fnExactJoinSpec.post enc Try.prog Try.f3 false true false false W args v W' := by
  have hW' := hW
  obtain ⟨p, q, hA0, hV, rfl, hfz, hnd⟩ := hW
  have hA : DataW.TrodAll enc Try.prog W 0 (fun _ => true) true Try.f3.params.toList args.toList ds p := hA0
  rw [Try.params3] at hA hval
  obtain ⟨v0, vs0, d0, ds0, p0, q0, hargs, rfl, rfl, h0, r0⟩ := trodAll_cons hA
  obtain ⟨v1, vs1, d1, ds1, p1, q1, rfl, rfl, rfl, h1, r1⟩ := trodAll_cons r0
  obtain ⟨rfl, rfl, rfl⟩ := trodAll_nil r1
  obtain rfl : args = #[v0, v1] := by cases args; simp_all
  obtain ⟨xs0, hr0, hx0⟩ : ∃ xs : List (List UInt8), Reads W W.heap.size v0 (Strs.strs xs) ∧ ∀ j, j < xs.length → (xs.getD j []).length ≤ 9223372036854775807 := by
    obtain ⟨a0, len, cap, rfl⟩ := okWide_slice Try.underlying22 (hval 0 22 v0 rfl rfl)
    obtain ⟨fuel, hf⟩ := h0
    rcases open_strings Try.underlying22 Try.underlying9 cellsStr hf with ⟨hcs, hx⟩ | ⟨a, len', cap', ss, hcs, hbase, hl, hm, hz, hx, hcell, hwz⟩
    · simp [Value.cells] at hcs
      obtain ⟨rfl, rfl, rfl⟩ := hcs
      exact ⟨[], ⟨Nat.zero_le _, none, 0, rfl, fun h => absurd rfl h⟩, fun j hj => by simp at hj⟩
    · simp [Value.cells] at hcs
      obtain ⟨rfl, rfl, rfl⟩ := hcs
      simp only [if_true] at hz
      refine ⟨_, reads_of (by omega) (by omega) hcell, fun j hj => ?_⟩
      simp only [List.length_map, List.length_take] at hj
      have := hwz (ss.getD j ByteArray.empty) (by rw [List.getD, List.getElem?_eq_getElem (by omega)]; exact List.getElem_mem _)
      unfold maxLen at this
      have hjs : j < ss.length := by omega
      have hjl : j < ((ss.take len).map fun s => s.data.toList).length := by simp; omega
      rw [List.getD, List.getElem?_eq_getElem hjs, Option.getD_some] at this
      rw [List.getD, List.getElem?_eq_getElem hjl, Option.getD_some, List.getElem_map, List.getElem_take]
      exact Nat.le_trans (by rw [Array.length_toList]; exact Nat.le_refl _) this
  obtain ⟨s, rfl, rfl, rfl, hw1⟩ := open_string Try.underlying9 (hval 1 9 v1 rfl rfl) h1
  clear hA0
  refine (walk v0 xs0 s W.heap.size W hr0 (Nat.le_refl _) hx0 hw1).mono fun e W' ⟨he, hg⟩ => ?_
  subst he
  exact ⟨_, rfl, Law.post_true (tb := 4) (kids_rows (by kernel_rfl) (by kernel_rfl)) (by unfold Law.Full; kernel_rfl) hW' rfl (by rw [Try.params3]; decide +kernel) Try.underlying4 (by kernel_rfl) rfl hg⟩

noncomputable def start (os : Os) : World := World.holding Try.prog os ⟨#[], #[], []⟩
theorem reads (os : Os) {H : Type} (enc : TypeId × Value → H) : ∃ places, DataW.whole enc Try.prog ((start os).forCall (fun _ _ => 0) ⟨#[], #[.slice none 0 0, .string ⟨#[]⟩], []⟩).memory Try.f3.params.toList Rows.fnExactJoinSpec.vars false (#[.slice none 0 0, .string ⟨#[]⟩] : Array Value).toList 8 = some ([.nil, .lit (.string [])], [], places) :=
  ⟨[], by kernel_rfl⟩
theorem own : ownKnob Try.prog.godebug = none := by kernel_rfl

set_option maxRecDepth 100000 in
theorem lifted (os : Os) (started : os.Started) (H : Type) (enc : TypeId × Value → H) (F : Stop.Interp) :
    ReturnsInHanded {} Try.checked os 3 .any ((OpenSpec.ofChange Rows.fnExactJoinSpec).preRow enc Try.prog Try.f3 Rows.fnExactJoinRow.domain false Rows.fnExactJoinRow.laid) (((OpenSpec.ofChange Rows.fnExactJoinSpec).at F).post enc Try.prog Try.f3 false true false false) := by
  obtain ⟨places, hx⟩ := reads os enc
  refine returnsInHanded_of_row (C := Try.checked) (s := OpenSpec.ofChange Rows.fnExactJoinSpec) own started (by kernel_rfl) Try.func3
    (witness_row_at (enc := enc) (C := Try.checked) false (start os) #[.slice none 0 0, .string ⟨#[]⟩] rfl (by kernel_rfl) (by kernel_rfl) (by kernel_rfl)
      (OpenSpec.preRow_of_cond 8 hx (by kernel_rfl) (fun k hk => by cases hk) (by kernel_rfl) (laidMet_of_run' 8 (by kernel_rfl) (by kernel_rfl)))) ?_
  intro W base args ds gs before hval hW _ _ _ _ _ _
  exact contract H enc W base args ds gs before hval hW

theorem said : Rows.FnExactJoinSaid :=
  OpenClaim.holds_of_cond 3 Try.f3 rfl rfl rfl rfl rfl rfl rfl ⟨rfl, rfl, rfl, rfl, rfl⟩ rfl rfl rfl rfl rfl (by kernel_rfl) Try.func3 (by kernel_rfl)
    (of_decide_eq_true (by kernel_rfl)) (by unfold Func.isWrapper; first | (rw [if_pos (by decide +kernel)]; kernel_rfl) | (rw [if_neg (by decide +kernel)]; exact ⟨rfl, rfl⟩))
    (fun os started H enc _ F => by rw [OpenClaim.pre_eq_preRow]; exact lifted os started H enc F)
end Go.Proofs.Ytpgopifpmacheaa.FnExactJoin
