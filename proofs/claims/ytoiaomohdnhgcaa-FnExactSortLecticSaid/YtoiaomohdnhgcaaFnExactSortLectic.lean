/-
  For every list of numbers the law FnExactSortLectic returns true: SortLectic of the program returns what SortLectic of the model returns, in memory of its own, and leaves the list as it is. No condition.
-/
import Derived.Test.YtoiaomohdnhgcaaRows
import Derived.Test.YtoiaomohdnhgcaaLaw
import Derived.Test.YtoiaomohdnhgcaaDual
import Derived.Test.YtoiaomohdnhgcaaSortSpec
import Derived.Test.YtoiaomohdnhgcaaSortImpl
import Derived.Deep.RegionHeld3
import Derived.Lib.SmallJoins
import Derived.WalkKit
import Derived.ProofKit
import Derived.OpenShut
import Derived.Deep.DeepHandedRow
import Derived.LaidMore
import Derived.Stop.LaidErr
import Derived.ChangeMaps5
import Derived.Outline
import Derived.LoopTactic
import Derived.Lib.Hide
import Derived.Below
namespace Go.Proofs.Ytoiaomohdnhgcaa.FnExactSortLectic
open Go Go.ChangeShapes Go.WideShapes Go.ChangeAt Go.ChangeMaps Go.RowKit Mem Ctx

theorem asInts {xs : List Int} {w : World} {e : Ending} {w' : World} (h : ∃ u, e = .returned u ∧ Own 3 w' w.heap.size w'.heap.size u (ints xs) ∧ Below w.heap.size w w') :
    ∃ p c, e = .returned (.slice p xs.length c) ∧ Own 3 w' w.heap.size w'.heap.size (.slice p xs.length c) (ints xs) ∧ Below w.heap.size w w' := by
  obtain ⟨u, he, o, b⟩ := h
  obtain ⟨p, c, rfl⟩ := own_form o
  exact ⟨p, c, he, o, b⟩
theorem boxApart {w w' : World} {g lo hi : Nat} {t : TypeId} {cs : Array Value} (h : BoxAt w g t cs) (ha : Apart lo hi w w') (hg : g < lo ∨ hi ≤ g) : BoxAt w' g t cs := (ha.block g h.lt hg).trans h
theorem ownBoxed {e : TypeId} {w : World} {lo hi : Nat} {v : Value} {cs : List Value} (h : Own e w lo hi v cs) (hh : hi ≤ w.heap.size) (o : Obj) : Own e (w.alloc o) lo hi v cs := h.below (B := w.heap.size) ((Below.refl _ _).alloc (Nat.le_refl _) o) hh
theorem keep4 {w w' : World} {B : Nat} {p q r s : Addr} {x y z t : Value} (hb : Below B w w') (h : w.cell? p = some x ∧ w.cell? q = some y ∧ w.cell? r = some z ∧ w.cell? s = some t) (hp : p.block < B) (hq : q.block < B) (hr : r.block < B) (hs : s.block < B) :
    w'.cell? p = some x ∧ w'.cell? q = some y ∧ w'.cell? r = some z ∧ w'.cell? s = some t :=
  ⟨(hb.cell hp).trans h.1, (hb.cell hq).trans h.2.1, (hb.cell hr).trans h.2.2.1, (hb.cell hs).trans h.2.2.2⟩
theorem asCtx {x : Option (Int × List Int)} {n : Int} {xs : List Int} {ok : Bool} (hn : (x.getD (0, [])).1 = n) (hx : (x.getD (0, [])).2 = xs) (ho : x.isSome = ok) {w : World} {e : Ending} {w' : World} (h : CtxRes x w e w') :
    ∃ p c, e = .returned (.tuple #[ctx n (.slice p xs.length c), .bool ok]) ∧ Own 3 w' w.heap.size w'.heap.size (.slice p xs.length c) (ints xs) ∧ Below w.heap.size w w' := by
  subst hn hx ho
  obtain ⟨u, he, o, b⟩ := h
  obtain ⟨p, c, rfl⟩ := own_form o
  exact ⟨p, c, he, o, b⟩

set_option maxRecDepth 100000 in
set_option maxHeartbeats 4000000 in
theorem walk (cv : Value) (cr : List Int) (w : World) (hc : Reads w w.heap.size cv (ints cr)) :
    Calls Try.prog 3 #[cv] w fun e w' => e = .returned (.bool true) ∧ Below w.heap.size w w' := by
  have hlc : cr.length ≤ 9223372036854775807 := by have := hc.1; unfold maxLen at this; simp [ints] at this; omega
  obtain ⟨cp, cc, rfl⟩ := reads_form hc
  have HRc := Lib.hid hc
  clear hc
  by_cases hlen0 : (1048576 : Int) < (cr.length : Int)
  · have hd0 : decide ((1048576 : Int) < (cr.length : Int)) = true := by simp; omega
    go_enter Try.func3, Try.ntmps3
    go_wp2_with fail
    go_ret
    exact ⟨rfl, Below.refl _ _⟩
  have hd0 : decide ((1048576 : Int) < (cr.length : Int)) = false := by simp; omega
  have hxlc : cr.length ≤ 1048576 := by omega
  have HS0 := Lib.hid (fun v B w h hB => SortL.spec_sort v cr B w h hB hxlc)
  have HI0 := Lib.hid (fun v B w h hB => SortL.impl_sort v cr B w h hB hxlc)
  have hsm : (Lectic.sortLectic cr).length ≤ 1048576 := by unfold Lectic.sortLectic; split; exact Nat.le_trans (Lectic.sortTo_le cr _) hxlc; simp
  obtain ⟨xs, hxs⟩ : ∃ xs, Lectic.sortLectic cr = xs := ⟨_, rfl⟩
  rw [hxs] at HS0 HI0 hsm
  have HS := Lib.hid (fun v B w h hB => (HS0.out v B w h hB).mono fun e w' h => asInts h)
  have HI := Lib.hid (fun v B w h hB => (HI0.out v B w h hB).mono fun e w' h => asInts h)
  have hqn : (xs == xs) = true := by simp
  clear hxs HS0 HI0
  clear hlen0 hlc
  go_enter Try.func3, Try.ntmps3
  go_wp2_with fail
  refine (Ints.toInts _ cr w.heap.size _ (HRc.out.below (Below.refl w.heap.size w) (Nat.le_refl _)) (by first | omega | (simp; omega) | simp) hxlc).mono ?_
  rintro e w1 ⟨u1, rfl, o1, b1⟩
  obtain ⟨p1, q1, rfl⟩ := own_form o1
  have P01 := Lib.hid (o1.mono (lo' := w.heap.size) (by first | omega | (simp; omega) | simp) (Nat.le_refl _))
  have hs1 : w.heap.size ≤ w1.heap.size := by have := b1.size; simpa using this
  have T1 := Lib.hid ((Below.refl w.heap.size w).trans (b1.mono (by first | omega | (simp; omega) | simp)))
  clear o1 b1
  go_wp2_with fail
  refine (HS.out _ w1.heap.size _ P01.out.reads (by first | omega | (simp; omega) | simp)).mono ?_
  rintro e w2 ⟨p2, q2, rfl, o2, b2⟩
  have Wn2 := Lib.hid (o2.mono (lo' := w1.heap.size) (by first | omega | (simp; omega) | simp) (Nat.le_refl _))
  have hs2 : w1.heap.size ≤ w2.heap.size := by have := b2.size; simpa using this
  have T2 := Lib.hid (T1.out.trans (b2.mono (by first | omega | (simp; omega) | simp)))
  have P02 := Lib.hid (P01.out.below b2 (by first | omega | (simp; omega) | simp))
  clear o2 b2 T1 P01
  clear P02
  go_wp2_with fail
  refine (Ints.toInts _ cr w.heap.size _ (HRc.out.below T2.out (Nat.le_refl _)) (by first | omega | (simp; omega) | simp) hxlc).mono ?_
  rintro e w3 ⟨u3, rfl, o3, b3⟩
  obtain ⟨p3, q3, rfl⟩ := own_form o3
  have X03 := Lib.hid (o3.mono (lo' := w2.heap.size) (by first | omega | (simp; omega) | simp) (Nat.le_refl _))
  have hs3 : w2.heap.size ≤ w3.heap.size := by have := b3.size; simpa using this
  have T3 := Lib.hid (T2.out.trans (b3.mono (by first | omega | (simp; omega) | simp)))
  have Wn3 := Lib.hid (Wn2.out.below b3 (by first | omega | (simp; omega) | simp))
  clear o3 b3 T2 Wn2
  go_wp2_with fail
  refine (HI.out _ w3.heap.size _ X03.out.reads (by first | omega | (simp; omega) | simp)).mono ?_
  rintro e w4 ⟨p4, q4, rfl, o4, b4⟩
  have Gn4 := Lib.hid (o4.mono (lo' := w3.heap.size) (by first | omega | (simp; omega) | simp) (Nat.le_refl _))
  have hs4 : w3.heap.size ≤ w4.heap.size := by have := b4.size; simpa using this
  have T4 := Lib.hid (T3.out.trans (b4.mono (by first | omega | (simp; omega) | simp)))
  have Wn4 := Lib.hid (Wn3.out.below b4 (by first | omega | (simp; omega) | simp))
  have X04 := Lib.hid (X03.out.below b4 (by first | omega | (simp; omega) | simp))
  clear o4 b4 T3 Wn3 X03
  go_wp2_with fail
  refine (Ints.eqInts _ _ xs xs w4.heap.size w2.heap.size _ Gn4.out.reads Wn4.out.reads (by first | omega | (simp; omega) | simp) (by first | omega | (simp; omega) | simp)).mono ?_
  rintro e w5 ⟨rfl, b5⟩
  have hs5 : w4.heap.size ≤ w5.heap.size := by have := b5.size; simpa using this
  have T5 := Lib.hid (T4.out.trans (b5.mono (by first | omega | (simp; omega) | simp)))
  have Wn5 := Lib.hid (Wn4.out.below b5 (by first | omega | (simp; omega) | simp))
  have X05 := Lib.hid (X04.out.below b5 (by first | omega | (simp; omega) | simp))
  have Gn5 := Lib.hid (Gn4.out.below b5 (by first | omega | (simp; omega) | simp))
  clear b5 T4 Wn4 X04 Gn4
  go_wp2_with fail
  refine (Ints.toInts _ cr w.heap.size _ (HRc.out.below T5.out (Nat.le_refl _)) (by first | omega | (simp; omega) | simp) hxlc).mono ?_
  rintro e w6 ⟨u6, rfl, o6, b6⟩
  obtain ⟨p6, q6, rfl⟩ := own_form o6
  have Q06 := Lib.hid (o6.mono (lo' := w5.heap.size) (by first | omega | (simp; omega) | simp) (Nat.le_refl _))
  have hs6 : w5.heap.size ≤ w6.heap.size := by have := b6.size; simpa using this
  have T6 := Lib.hid (T5.out.trans (b6.mono (by first | omega | (simp; omega) | simp)))
  have Wn6 := Lib.hid (Wn5.out.below b6 (by first | omega | (simp; omega) | simp))
  have X06 := Lib.hid (X05.out.below b6 (by first | omega | (simp; omega) | simp))
  have Gn6 := Lib.hid (Gn5.out.below b6 (by first | omega | (simp; omega) | simp))
  clear o6 b6 T5 Wn5 X05 Gn5
  go_wp2_with fail
  refine (Ints.eqInts _ _ cr cr w3.heap.size w6.heap.size _ X06.out.reads Q06.out.reads (by first | omega | (simp; omega) | simp) (by first | omega | (simp; omega) | simp)).mono ?_
  rintro e w7 ⟨rfl, b7⟩
  have hs7 : w6.heap.size ≤ w7.heap.size := by have := b7.size; simpa using this
  have T7 := Lib.hid (T6.out.trans (b7.mono (by first | omega | (simp; omega) | simp)))
  have Wn7 := Lib.hid (Wn6.out.below b7 (by first | omega | (simp; omega) | simp))
  have X07 := Lib.hid (X06.out.below b7 (by first | omega | (simp; omega) | simp))
  have Gn7 := Lib.hid (Gn6.out.below b7 (by first | omega | (simp; omega) | simp))
  have Q07 := Lib.hid (Q06.out.below b7 (by first | omega | (simp; omega) | simp))
  clear b7 T6 Wn6 X06 Gn6 Q06
  clear Q07
  have hqq0 : (cr == cr) = true := by simp
  go_wp2_with fail
  refine (Ints.markInts _ cr 1 (w2.heap.size) w3.heap.size _ X07.out (by first | omega | (simp; omega) | simp)).mono ?_
  rintro e w8 ⟨rfl, m8, b8⟩
  have X08 := Lib.hid m8
  have hs8 : w7.heap.size ≤ w8.heap.size := by have := b8.size; simpa using this
  have T8 := Lib.hid (T7.out.trans (b8.below (B := w.heap.size) (by first | omega | (simp; omega) | simp) (by first | omega | (simp; omega) | simp)))
  have Wn8 := Lib.hid (Wn7.out.apart b8 (by first | omega | (simp; omega) | simp))
  have Gn8 := Lib.hid (Gn7.out.apart b8 (by first | omega | (simp; omega) | simp))
  clear m8 b8 T7 Wn7 X07 Gn7
  go_wp2_with fail
  refine (Ints.eqInts _ _ xs xs w4.heap.size w2.heap.size _ Gn8.out.reads Wn8.out.reads (by first | omega | (simp; omega) | simp) (by first | omega | (simp; omega) | simp)).mono ?_
  rintro e w9 ⟨rfl, b9⟩
  have hs9 : w8.heap.size ≤ w9.heap.size := by have := b9.size; simpa using this
  have T9 := Lib.hid (T8.out.trans (b9.mono (by first | omega | (simp; omega) | simp)))
  have Wn9 := Lib.hid (Wn8.out.below b9 (by first | omega | (simp; omega) | simp))
  have X09 := Lib.hid (X08.out.below b9 (by first | omega | (simp; omega) | simp))
  have Gn9 := Lib.hid (Gn8.out.below b9 (by first | omega | (simp; omega) | simp))
  clear b9 T8 Wn8 X08 Gn8
  clear X09
  go_wp2_with fail
  refine (Ints.markInts _ xs 1 (w3.heap.size) w4.heap.size _ Gn9.out (by first | omega | (simp; omega) | simp)).mono ?_
  rintro e w10 ⟨rfl, m10, b10⟩
  have Gn10 := Lib.hid m10
  have hs10 : w9.heap.size ≤ w10.heap.size := by have := b10.size; simpa using this
  have T10 := Lib.hid (T9.out.trans (b10.below (B := w.heap.size) (by first | omega | (simp; omega) | simp) (by first | omega | (simp; omega) | simp)))
  have Wn10 := Lib.hid (Wn9.out.apart b10 (by first | omega | (simp; omega) | simp))
  clear m10 b10 T9 Wn9 Gn9
  go_wp2_with fail
  refine (Ints.heldInts _ (seq 1 xs.length) 1 xs.length w4.heap.size _ Gn10.out.reads rfl (by first | omega | (simp; omega) | simp)).mono ?_
  rintro e w10 ⟨rfl, rfl⟩
  go_wp2_with fail
  refine (Ints.toInts _ cr w.heap.size _ (HRc.out.below T10.out (Nat.le_refl _)) (by first | omega | (simp; omega) | simp) hxlc).mono ?_
  rintro e w11 ⟨u11, rfl, o11, b11⟩
  obtain ⟨p11, q11, rfl⟩ := own_form o11
  have Y011 := Lib.hid (o11.mono (lo' := w10.heap.size) (by first | omega | (simp; omega) | simp) (Nat.le_refl _))
  have hs11 : w10.heap.size ≤ w11.heap.size := by have := b11.size; simpa using this
  have T11 := Lib.hid (T10.out.trans (b11.mono (by first | omega | (simp; omega) | simp)))
  have Wn11 := Lib.hid (Wn10.out.below b11 (by first | omega | (simp; omega) | simp))
  have Gn11 := Lib.hid (Gn10.out.below b11 (by first | omega | (simp; omega) | simp))
  clear o11 b11 T10 Wn10 Gn10
  go_wp2_with fail
  refine (HI.out _ w11.heap.size _ Y011.out.reads (by first | omega | (simp; omega) | simp)).mono ?_
  rintro e w12 ⟨p12, q12, rfl, o12, b12⟩
  have Hn12 := Lib.hid (o12.mono (lo' := w11.heap.size) (by first | omega | (simp; omega) | simp) (Nat.le_refl _))
  have hs12 : w11.heap.size ≤ w12.heap.size := by have := b12.size; simpa using this
  have T12 := Lib.hid (T11.out.trans (b12.mono (by first | omega | (simp; omega) | simp)))
  have Wn12 := Lib.hid (Wn11.out.below b12 (by first | omega | (simp; omega) | simp))
  have Gn12 := Lib.hid (Gn11.out.below b12 (by first | omega | (simp; omega) | simp))
  have Y012 := Lib.hid (Y011.out.below b12 (by first | omega | (simp; omega) | simp))
  clear o12 b12 T11 Wn11 Gn11 Y011
  clear Y012
  go_wp2_with fail
  refine (Ints.eqInts _ _ xs xs w12.heap.size w2.heap.size _ Hn12.out.reads Wn12.out.reads (by first | omega | (simp; omega) | simp) (by first | omega | (simp; omega) | simp)).mono ?_
  rintro e w13 ⟨rfl, b13⟩
  have hs13 : w12.heap.size ≤ w13.heap.size := by have := b13.size; simpa using this
  have T13 := Lib.hid (T12.out.trans (b13.mono (by first | omega | (simp; omega) | simp)))
  have Wn13 := Lib.hid (Wn12.out.below b13 (by first | omega | (simp; omega) | simp))
  have Gn13 := Lib.hid (Gn12.out.below b13 (by first | omega | (simp; omega) | simp))
  have Hn13 := Lib.hid (Hn12.out.below b13 (by first | omega | (simp; omega) | simp))
  clear b13 T12 Wn12 Gn12 Hn12
  clear Hn13
  go_wp2_with fail
  refine (Ints.heldInts _ (seq 1 xs.length) 1 xs.length w4.heap.size _ Gn13.out.reads rfl (by first | omega | (simp; omega) | simp)).mono ?_
  rintro e w13 ⟨rfl, rfl⟩
  go_wp2_with fail
  go_ret
  exact ⟨rfl, T13.out⟩

set_option maxRecDepth 100000 in
theorem contract (H : Type) (enc : TypeId × Value → H) (W : World) (base : Nat) (args : Array Value) (ds gs : List (DataW H)) (before : List MemPlace)
    (hval : ∀ (j : Nat) t v, Try.f3.params[j]? = some t → args[j]? = some v → Value.okWide Try.prog W .any base t v)
    (hW : DataW.Whole enc Try.prog Try.f3.params.toList Rows.fnExactSortLecticSpec.vars false W args.toList ds gs before) :
    Calls Try.prog 3 args W fun e W' => ∃ v, e = .returned v ∧ Rows.fnExactSortLecticSpec.post enc Try.prog Try.f3 false true false false W args v W' := by
  have hW' := hW
  obtain ⟨p, q, hA0, hV, rfl, hfz, hnd⟩ := hW
  have hA : DataW.TrodAll enc Try.prog W 0 (fun _ => true) true Try.f3.params.toList args.toList ds p := hA0
  rw [Try.params3] at hA hval
  obtain ⟨v0, vs0, d0, ds0, p0, q0, hargs, rfl, rfl, h0, r0⟩ := trodAll_cons hA
  obtain ⟨rfl, rfl, rfl⟩ := trodAll_nil r0
  obtain rfl : args = #[v0] := by cases args; simp_all
  obtain ⟨xs0, hr0⟩ : ∃ xs : List Int, Reads W W.heap.size v0 (ints xs) := by
    obtain ⟨a0, len, cap, rfl⟩ := okWide_slice Try.underlying22 (hval 0 22 v0 rfl rfl)
    obtain ⟨fuel, hf⟩ := h0
    rcases open_ints Try.underlying22 Try.underlying3 (by kernel_rfl) hf with ⟨hcs, -⟩ | ⟨a, len', cap', zs, hcs, -, hl, hm, hz, -, hcell, -⟩
    · simp [Value.cells] at hcs
      obtain ⟨rfl, rfl, rfl⟩ := hcs
      exact ⟨[], reads_nil _ _⟩
    · simp [Value.cells] at hcs
      obtain ⟨rfl, rfl, rfl⟩ := hcs
      simp only [if_true] at hz
      have := reads_of (cap := cap) (cs := ints zs) (len := len) (by simp [ints]; omega) (by simp [ints]; omega) (fun i hi => by
        have hi' : i < zs.length := by simpa [ints] using hi
        rw [hcell i hi', ints_get zs i hi'])
      exact ⟨zs.take len, by simpa [ints, List.map_take] using this⟩
  clear hA0
  refine (walk v0 xs0 W hr0).mono fun e W' ⟨he, hg⟩ => ?_
  subst he
  exact ⟨_, rfl, Law.post_true (tb := 4) (kids_rows (by kernel_rfl) (by kernel_rfl)) (by unfold Law.Full; kernel_rfl) hW' rfl (by rw [Try.params3]; decide +kernel) Try.underlying4 (by kernel_rfl) rfl hg⟩

noncomputable def start (os : Os) : World := World.holding Try.prog os ⟨#[], #[], []⟩
theorem reads (os : Os) {H : Type} (enc : TypeId × Value → H) : ∃ places, DataW.whole enc Try.prog ((start os).forCall (fun _ _ => 0) ⟨#[], #[.slice none 0 0], []⟩).memory Try.f3.params.toList Rows.fnExactSortLecticSpec.vars false (#[.slice none 0 0] : Array Value).toList 8 = some ([.nil], [], places) :=
  ⟨[], by kernel_rfl⟩
theorem own : ownKnob Try.prog.godebug = none := by kernel_rfl

set_option maxRecDepth 100000 in
theorem lifted (os : Os) (started : os.Started) (H : Type) (enc : TypeId × Value → H) (F : Stop.Interp) :
    ReturnsInHanded {} Try.checked os 3 .any ((OpenSpec.ofChange Rows.fnExactSortLecticSpec).preRow enc Try.prog Try.f3 Rows.fnExactSortLecticRow.domain false Rows.fnExactSortLecticRow.laid) (((OpenSpec.ofChange Rows.fnExactSortLecticSpec).at F).post enc Try.prog Try.f3 false true false false) := by
  obtain ⟨places, hx⟩ := reads os enc
  refine returnsInHanded_of_row (C := Try.checked) (s := OpenSpec.ofChange Rows.fnExactSortLecticSpec) own started (by kernel_rfl) Try.func3
    (witness_row_at (enc := enc) (C := Try.checked) false (start os) #[.slice none 0 0] rfl (by kernel_rfl) (by kernel_rfl) (by kernel_rfl)
      (OpenSpec.preRow_of_cond 8 hx (by kernel_rfl) (fun k hk => by cases hk) (by kernel_rfl) (laidMet_of_run' 8 (by kernel_rfl) (by kernel_rfl)))) ?_
  intro W base args ds gs before hval hW _ _ _ _ _ _
  exact contract H enc W base args ds gs before hval hW

theorem said : Rows.FnExactSortLecticSaid :=
  OpenClaim.holds_of_cond 3 Try.f3 rfl rfl rfl rfl rfl rfl rfl ⟨rfl, rfl, rfl, rfl, rfl⟩ rfl rfl rfl rfl rfl (by kernel_rfl) Try.func3 (by kernel_rfl)
    (of_decide_eq_true (by kernel_rfl)) (by unfold Func.isWrapper; first | (rw [if_pos (by decide +kernel)]; kernel_rfl) | (rw [if_neg (by decide +kernel)]; exact ⟨rfl, rfl⟩))
    (fun os started H enc _ F => by rw [OpenClaim.pre_eq_preRow]; exact lifted os started H enc F)
end Go.Proofs.Ytoiaomohdnhgcaa.FnExactSortLectic
