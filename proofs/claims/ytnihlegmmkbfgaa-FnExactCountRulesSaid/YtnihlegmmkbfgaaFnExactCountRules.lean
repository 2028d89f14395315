/-
  For all arguments the law FnExactCountRules returns true: the function of the program returns what the function of the model returns, in memory of its own, and leaves its arguments as they are. No condition.
-/
import Derived.Test.YtnihlegmmkbfgaaRows
import Derived.Test.YtnihlegmmkbfgaaLaw
import Derived.Test.YtnihlegmmkbfgaaDual
import Derived.Test.YtnihlegmmkbfgaaStemW
import Derived.Test.YtnihlegmmkbfgaaStemI
import Derived.Deep.RegionHeld3
import Derived.Lib.SmallJoins
import Derived.WalkKit
import Derived.ProofKit
import Derived.OpenShut
import Derived.Deep.DeepHandedRow
import Derived.LaidMore
import Derived.Stop.LaidErr
import Derived.ChangeMaps5
import Derived.Outline
import Derived.LoopTactic
import Derived.Lib.Hide
import Derived.Below
namespace Go.Proofs.Ytnihlegmmkbfgaa.FnExactCountRules
open Go Go.ChangeShapes Go.WideShapes Go.ChangeAt Go.ChangeMaps Go.RowKit Mem Ctx

theorem asInts {xs : List Int} {w : World} {e : Ending} {w' : World} (h : ∃ u, e = .returned u ∧ Mem.Own 3 w' w.heap.size w'.heap.size u (ints xs) ∧ Below w.heap.size w w') :
    ∃ p c, e = .returned (.slice p xs.length c) ∧ Mem.Own 3 w' w.heap.size w'.heap.size (.slice p xs.length c) (ints xs) ∧ Below w.heap.size w w' := by
  obtain ⟨u, he, o, b⟩ := h
  obtain ⟨p, c, rfl⟩ := own_form o
  exact ⟨p, c, he, o, b⟩
theorem boxApart {w w' : World} {g lo hi : Nat} {t : TypeId} {cs : Array Value} (h : BoxAt w g t cs) (ha : Apart lo hi w w') (hg : g < lo ∨ hi ≤ g) : BoxAt w' g t cs := (ha.block g h.lt hg).trans h
theorem ownBoxed {e : TypeId} {w : World} {lo hi : Nat} {v : Value} {cs : List Value} (h : Mem.Own e w lo hi v cs) (hh : hi ≤ w.heap.size) (o : Obj) : Mem.Own e (w.alloc o) lo hi v cs := h.below (B := w.heap.size) ((Below.refl _ _).alloc (Nat.le_refl _) o) hh
theorem keep4 {w w' : World} {B : Nat} {p q r s : Addr} {x y z t : Value} (hb : Below B w w') (h : w.cell? p = some x ∧ w.cell? q = some y ∧ w.cell? r = some z ∧ w.cell? s = some t) (hp : p.block < B) (hq : q.block < B) (hr : r.block < B) (hs : s.block < B) :
    w'.cell? p = some x ∧ w'.cell? q = some y ∧ w'.cell? r = some z ∧ w'.cell? s = some t :=
  ⟨(hb.cell hp).trans h.1, (hb.cell hq).trans h.2.1, (hb.cell hr).trans h.2.2.1, (hb.cell hs).trans h.2.2.2⟩
theorem asCtx {x : Option (Int × List Int)} {n : Int} {xs : List Int} {ok : Bool} (hn : (x.getD (0, [])).1 = n) (hx : (x.getD (0, [])).2 = xs) (ho : x.isSome = ok) {w : World} {e : Ending} {w' : World} (h : CtxRes x w e w') :
    ∃ p c, e = .returned (.tuple #[ctx n (.slice p xs.length c), .bool ok]) ∧ Mem.Own 3 w' w.heap.size w'.heap.size (.slice p xs.length c) (ints xs) ∧ Below w.heap.size w w' := by
  subst hn hx ho
  obtain ⟨u, he, o, b⟩ := h
  obtain ⟨p, c, rfl⟩ := own_form o
  exact ⟨p, c, he, o, b⟩

set_option maxRecDepth 100000 in
set_option maxHeartbeats 4000000 in
theorem walk (c : Int) (cv : Value) (cr : List Int) (w : World) (hc : Reads w w.heap.size cv (ints cr)) :
    Calls Try.prog 8 #[ctx c cv] w fun e w' => e = .returned (.bool true) ∧ Below w.heap.size w w' := by
  have hlc : cr.length ≤ 9223372036854775807 := by have := hc.1; unfold maxLen at this; simp [ints] at this; omega
  obtain ⟨cp, cc, rfl⟩ := reads_form hc
  have HRc := Lib.hid hc
  clear hc
  by_cases hlen0 : 1048576 < (cr.length : Int)
  · have HZ0 := Lib.hid (fun w => szCtx c (.slice cp cr.length cc) cr.length 1048576 w ⟨_, _, rfl⟩ hlc (by omega) (by omega))
    simp only [if_pos hlen0] at HZ0
    go_enter Try.func8, Try.ntmps8
    go_wp2_with fail
    refine (HZ0.out _).mono ?_
    rintro e w1 ⟨rfl, b1⟩
    have hs1 : w.heap.size + 1 ≤ w1.heap.size := by have := b1.size; simpa using this
    have T1 := Lib.hid (((Below.refl w.heap.size w).alloc (by first | omega | (simp; omega) | simp) (.cells #[.int .i64 c, .slice cp cr.length cc] 44)).trans (b1.mono (by first | omega | (simp; omega) | simp)))
    have Ac1 := Lib.hid ((show BoxAt _ (w.heap.size) _ _ by have := (BoxAt.new w 44 #[.int .i64 c, .slice cp cr.length cc]); simpa using this).below b1 (by first | omega | (simp; omega) | simp))
    have zAc_1 : w.heap.size < w1.heap.size := Ac1.out.lt
    have cAc_0_1 : w1.cell? ⟨w.heap.size, 0, none⟩ = some (.int .i64 c) := Ac1.out.cell 0
    have cAc_1_1 : w1.cell? ⟨w.heap.size, 1, none⟩ = some (.slice cp cr.length cc) := Ac1.out.cell 1
    clear b1
    go_wp2_with fail
    go_ret
    exact ⟨rfl, T1.out⟩
  have HZ0 := Lib.hid (fun w => szCtx c (.slice cp cr.length cc) cr.length 1048576 w ⟨_, _, rfl⟩ hlc (by omega) (by omega))
  simp only [if_neg hlen0] at HZ0
  have hd0 : decide (1048576 - (cr.length : Int) < 0) = false := by simp; omega
  have hxlc : cr.length ≤ 1048576 := by omega
  obtain ⟨R, hR⟩ : ∃ R : Int, Stem.countRules c cr = R := ⟨_, rfl⟩
  have HS := Lib.hid (fun v B w h hB => by have := Stem.spec_countR c v cr B w h hB; rw [hR] at this; exact this)
  have HI := Lib.hid (fun v B w h hB => by have := Stem.impl_countR c v cr B w h hB; rw [hR] at this; exact this)
  have hq : (R != R) = false := by simp
  clear hR
  clear hlen0 hlc
  go_enter Try.func8, Try.ntmps8
  go_wp2_with fail
  refine (HZ0.out _).mono ?_
  rintro e w1 ⟨rfl, b1⟩
  have hs1 : w.heap.size + 1 ≤ w1.heap.size := by have := b1.size; simpa using this
  have T1 := Lib.hid (((Below.refl w.heap.size w).alloc (by first | omega | (simp; omega) | simp) (.cells #[.int .i64 c, .slice cp cr.length cc] 44)).trans (b1.mono (by first | omega | (simp; omega) | simp)))
  have Ac1 := Lib.hid ((show BoxAt _ (w.heap.size) _ _ by have := (BoxAt.new w 44 #[.int .i64 c, .slice cp cr.length cc]); simpa using this).below b1 (by first | omega | (simp; omega) | simp))
  have zAc_1 : w.heap.size < w1.heap.size := Ac1.out.lt
  have cAc_0_1 : w1.cell? ⟨w.heap.size, 0, none⟩ = some (.int .i64 c) := Ac1.out.cell 0
  have cAc_1_1 : w1.cell? ⟨w.heap.size, 1, none⟩ = some (.slice cp cr.length cc) := Ac1.out.cell 1
  clear b1
  go_wp2_with fail
  refine (toCtx c _ cr w.heap.size _ (HRc.out.below T1.out (Nat.le_refl _)) (by first | omega | (simp; omega) | simp) hxlc).mono ?_
  rintro e w2 ⟨u2, rfl, o2, b2⟩
  obtain ⟨p2, q2, rfl⟩ := own_form o2
  have P02 := Lib.hid (o2.mono (lo' := w1.heap.size) (by first | omega | (simp; omega) | simp) (Nat.le_refl _))
  have hs2 : w1.heap.size ≤ w2.heap.size := by have := b2.size; simpa using this
  have T2 := Lib.hid (T1.out.trans (b2.mono (by first | omega | (simp; omega) | simp)))
  have Ac2 := Lib.hid (Ac1.out.below b2 (by first | omega | (simp; omega) | simp))
  have zAc_2 : w.heap.size < w2.heap.size := Ac2.out.lt
  have cAc_0_2 : w2.cell? ⟨w.heap.size, 0, none⟩ = some (.int .i64 c) := Ac2.out.cell 0
  have cAc_1_2 : w2.cell? ⟨w.heap.size, 1, none⟩ = some (.slice cp cr.length cc) := Ac2.out.cell 1
  clear o2 b2 T1 Ac1 zAc_1 cAc_0_1 cAc_1_1
  go_wp2_with fail
  refine (HS.out _ w2.heap.size _ P02.out.reads (by first | omega | (simp; omega) | simp)).mono ?_
  rintro e w3 ⟨rfl, b3⟩
  have hs3 : w2.heap.size ≤ w3.heap.size := by have := b3.size; simpa using this
  have T3 := Lib.hid (T2.out.trans (b3.mono (by first | omega | (simp; omega) | simp)))
  have Ac3 := Lib.hid (Ac2.out.below b3 (by first | omega | (simp; omega) | simp))
  have P03 := Lib.hid (P02.out.below b3 (by first | omega | (simp; omega) | simp))
  have zAc_3 : w.heap.size < w3.heap.size := Ac3.out.lt
  have cAc_0_3 : w3.cell? ⟨w.heap.size, 0, none⟩ = some (.int .i64 c) := Ac3.out.cell 0
  have cAc_1_3 : w3.cell? ⟨w.heap.size, 1, none⟩ = some (.slice cp cr.length cc) := Ac3.out.cell 1
  clear b3 T2 Ac2 P02 zAc_2 cAc_0_2 cAc_1_2
  clear P03
  go_wp2_with fail
  refine (toCtx c _ cr w.heap.size _ (HRc.out.below T3.out (Nat.le_refl _)) (by first | omega | (simp; omega) | simp) hxlc).mono ?_
  rintro e w4 ⟨u4, rfl, o4, b4⟩
  obtain ⟨p4, q4, rfl⟩ := own_form o4
  have X04 := Lib.hid (o4.mono (lo' := w3.heap.size) (by first | omega | (simp; omega) | simp) (Nat.le_refl _))
  have hs4 : w3.heap.size ≤ w4.heap.size := by have := b4.size; simpa using this
  have T4 := Lib.hid (T3.out.trans (b4.mono (by first | omega | (simp; omega) | simp)))
  have Ac4 := Lib.hid (Ac3.out.below b4 (by first | omega | (simp; omega) | simp))
  have zAc_4 : w.heap.size < w4.heap.size := Ac4.out.lt
  have cAc_0_4 : w4.cell? ⟨w.heap.size, 0, none⟩ = some (.int .i64 c) := Ac4.out.cell 0
  have cAc_1_4 : w4.cell? ⟨w.heap.size, 1, none⟩ = some (.slice cp cr.length cc) := Ac4.out.cell 1
  clear o4 b4 T3 Ac3 zAc_3 cAc_0_3 cAc_1_3
  go_wp2_with fail
  refine (HI.out _ w4.heap.size _ (boxed X04.out.reads (by first | omega | (simp; omega) | simp) (.cells #[.int .i64 c, .slice p4 cr.length q4] 26)) (by first | omega | (simp; omega) | simp)).mono ?_
  rintro e w5 ⟨rfl, b5⟩
  have hs5 : w4.heap.size + 1 ≤ w5.heap.size := by have := b5.size; simpa using this
  have T5 := Lib.hid ((T4.out.alloc (by first | omega | (simp; omega) | simp) (.cells #[.int .i64 c, .slice p4 cr.length q4] 26)).trans (b5.mono (by first | omega | (simp; omega) | simp)))
  have Ac5 := Lib.hid ((Ac4.out.alloc (.cells #[.int .i64 c, .slice p4 cr.length q4] 26)).below b5 (by first | omega | (simp; omega) | simp))
  have Bx05 := Lib.hid ((show BoxAt _ (w4.heap.size) _ _ by have := (BoxAt.new w4 26 #[.int .i64 c, .slice p4 cr.length q4]); simpa using this).below b5 (by first | omega | (simp; omega) | simp))
  have X05 := Lib.hid ((ownBoxed X04.out (by first | omega | (simp; omega) | simp) (.cells #[.int .i64 c, .slice p4 cr.length q4] 26)).below b5 (by first | omega | (simp; omega) | simp))
  have zAc_5 : w.heap.size < w5.heap.size := Ac5.out.lt
  have cAc_0_5 : w5.cell? ⟨w.heap.size, 0, none⟩ = some (.int .i64 c) := Ac5.out.cell 0
  have cAc_1_5 : w5.cell? ⟨w.heap.size, 1, none⟩ = some (.slice cp cr.length cc) := Ac5.out.cell 1
  have zBx0_5 : w4.heap.size < w5.heap.size := Bx05.out.lt
  have cBx0_0_5 : w5.cell? ⟨w4.heap.size, 0, none⟩ = some (.int .i64 c) := Bx05.out.cell 0
  have cBx0_1_5 : w5.cell? ⟨w4.heap.size, 1, none⟩ = some (.slice p4 cr.length q4) := Bx05.out.cell 1
  clear b5 T4 Ac4 X04 zAc_4 cAc_0_4 cAc_1_4
  go_wp2_with fail
  have RD := Lib.hid (X05.out.reads.below (Below.refl w5.heap.size w5).drew (by first | omega | (simp; omega) | simp))
  go_region_held3 (fun wx => wx.cell? ⟨w.heap.size, 0, none⟩ = some (.int .i64 c) ∧ wx.cell? ⟨w.heap.size, 1, none⟩ = some (.slice cp cr.length cc) ∧ wx.cell? ⟨w4.heap.size, 0, none⟩ = some (.int .i64 c) ∧ wx.cell? ⟨w4.heap.size, 1, none⟩ = some (.slice p4 cr.length q4))
    (first | exact ⟨cAc_0_5, cAc_1_5, cBx0_0_5, cBx0_1_5⟩ | exact keep4 (w := w5.drew) (B := w5.heap.size) b6 ⟨cAc_0_5, cAc_1_5, cBx0_0_5, cBx0_1_5⟩ (by show w.heap.size < _; omega) (by show w.heap.size < _; omega) (by show w4.heap.size < _; omega) (by show w4.heap.size < _; omega) | exact keep4 (w := w5.drew) (B := w5.heap.size) (b6.trans (b7.mono b6.size)) ⟨cAc_0_5, cAc_1_5, cBx0_0_5, cBx0_1_5⟩ (by show w.heap.size < _; omega) (by show w.heap.size < _; omega) (by show w4.heap.size < _; omega) (by show w4.heap.size < _; omega))
    (first | (go_at_call 30; refine (toCtx c _ cr w.heap.size w5.drew (HRc.out.below T5.out.drew (Nat.le_refl _)) (by show w.heap.size ≤ w5.heap.size; omega) hxlc).mono ?_; rintro e w6 ⟨u6, rfl, o6, b6⟩; obtain ⟨p6, q6, rfl⟩ := own_form o6) | (go_at_call 32; refine (eqCtx c c _ _ cr cr w4.heap.size w6.heap.size w6 (RD.out.below b6 (by show w4.heap.size ≤ w5.heap.size; omega)) o6.reads (by have := b6.size; show w4.heap.size ≤ w6.heap.size; change w5.heap.size ≤ w6.heap.size at this; omega) (Nat.le_refl _)).mono ?_; rintro e w7 ⟨rfl, b7⟩) | fail)
  have bb := (Below.refl w5.heap.size w5).drew.trans (b6.trans (b7.mono b6.size))
  clear b6 o6 RD
  clear b7
  have b7 := bb
  clear bb
  have hs7 : w5.heap.size ≤ w7.heap.size := by have := b7.size; simpa using this
  have T7 := Lib.hid (T5.out.trans (b7.mono (by first | omega | (simp; omega) | simp)))
  have Ac7 := Lib.hid (Ac5.out.below b7 (by first | omega | (simp; omega) | simp))
  have Bx07 := Lib.hid (Bx05.out.below b7 (by first | omega | (simp; omega) | simp))
  have X07 := Lib.hid (X05.out.below b7 (by first | omega | (simp; omega) | simp))
  have zAc_7 : w.heap.size < w7.heap.size := Ac7.out.lt
  have cAc_0_7 : w7.cell? ⟨w.heap.size, 0, none⟩ = some (.int .i64 c) := Ac7.out.cell 0
  have cAc_1_7 : w7.cell? ⟨w.heap.size, 1, none⟩ = some (.slice cp cr.length cc) := Ac7.out.cell 1
  have zBx0_7 : w4.heap.size < w7.heap.size := Bx07.out.lt
  have cBx0_0_7 : w7.cell? ⟨w4.heap.size, 0, none⟩ = some (.int .i64 c) := Bx07.out.cell 0
  have cBx0_1_7 : w7.cell? ⟨w4.heap.size, 1, none⟩ = some (.slice p4 cr.length q4) := Bx07.out.cell 1
  clear b7 T5 Ac5 Bx05 X05 zAc_5 cAc_0_5 cAc_1_5 zBx0_5 cBx0_0_5 cBx0_1_5
  have hqq0 : (c == c && cr == cr) = true := by simp
  go_wp2_with fail
  go_ret
  exact ⟨rfl, T7.out⟩

set_option maxRecDepth 100000 in
theorem contract (H : Type) (enc : TypeId × Value → H) (W : World) (base : Nat) (args : Array Value) (ds gs : List (DataW H)) (before : List MemPlace)
    (hval : ∀ (j : Nat) t v, Try.f8.params[j]? = some t → args[j]? = some v → Value.okWide Try.prog W .any base t v)
    (hW : DataW.Whole enc Try.prog Try.f8.params.toList Rows.fnExactCountRulesSpec.vars false W args.toList ds gs before) :
    Calls Try.prog 8 args W fun e W' => ∃ v, e = .returned v ∧ Rows.fnExactCountRulesSpec.post enc Try.prog Try.f8 false true false false W args v W' := by
  have hW' := hW
  obtain ⟨p, q, hA0, hV, rfl, hfz, hnd⟩ := hW
  have hA : DataW.TrodAll enc Try.prog W 0 (fun _ => true) true Try.f8.params.toList args.toList ds p := hA0
  rw [Try.params8] at hA hval
  obtain ⟨v0, vs0, d0, ds0, p0, q0, hargs, rfl, rfl, h0, r0⟩ := trodAll_cons hA
  obtain ⟨rfl, rfl, rfl⟩ := trodAll_nil r0
  obtain rfl : args = #[v0] := by cases args; simp_all
  obtain ⟨a0, u0, rs0, rfl, hr0⟩ : ∃ (a : Int) (u : Value) (rs : List Int), v0 = Ctx.ctx a u ∧ Reads W W.heap.size u (ints rs) := by
    obtain ⟨c0, c1, y0, y1, n, rfl, -, -, g0, g1⟩ := Joins.open_agg2 Try.underlying44 (by kernel_rfl) (by kernel_rfl) (hval 0 44 v0 rfl rfl) h0
    obtain ⟨a, ha, -, -⟩ := DataW.trod_int Try.underlying3 g0
    obtain rfl : c0 = .int .i64 a := by simpa using ha
    rcases open_ints Try.underlying24 Try.underlying3 (by kernel_rfl) g1 with ⟨hcs, -⟩ | ⟨a', len, cap, zs, hcs, -, hl, hm, hz, -, hcell, -⟩
    · obtain rfl : c1 = .slice none 0 0 := by simpa using hcs
      exact ⟨a, _, [], rfl, reads_nil _ _⟩
    · obtain rfl : c1 = .slice (some a') len cap := by simpa using hcs
      simp only [if_true] at hz
      have := reads_of (cap := cap) (cs := ints zs) (len := len) (by simp [ints]; omega) (by simp [ints]; omega) (fun i hi => by
        have hi' : i < zs.length := by simpa [ints] using hi
        rw [hcell i hi', ints_get zs i hi'])
      exact ⟨a, _, zs.take len, rfl, by simpa [ints, List.map_take] using this⟩
  clear hA0
  refine (walk a0 u0 rs0 W hr0).mono fun e W' ⟨he, hg⟩ => ?_
  subst he
  exact ⟨_, rfl, Law.post_true (tb := 4) (kids_rows (by kernel_rfl) (by kernel_rfl)) (by unfold Law.Full; kernel_rfl) hW' rfl (by rw [Try.params8]; decide +kernel) Try.underlying4 (by kernel_rfl) rfl hg⟩

noncomputable def start (os : Os) : World := World.holding Try.prog os ⟨#[], #[], []⟩
theorem reads (os : Os) {H : Type} (enc : TypeId × Value → H) : ∃ places, DataW.whole enc Try.prog ((start os).forCall (fun _ _ => 0) ⟨#[], #[.agg #[.int .i64 0, .slice none 0 0]], []⟩).memory Try.f8.params.toList Rows.fnExactCountRulesSpec.vars false (#[.agg #[.int .i64 0, .slice none 0 0]] : Array Value).toList 8 = some ([.agg [.lit (.int .i64 0), .nil]], [], places) :=
  ⟨[], by kernel_rfl⟩
theorem own : ownKnob Try.prog.godebug = none := by kernel_rfl

set_option maxRecDepth 100000 in
theorem lifted (os : Os) (started : os.Started) (H : Type) (enc : TypeId × Value → H) (F : Stop.Interp) :
    ReturnsInHanded {} Try.checked os 8 .any ((OpenSpec.ofChange Rows.fnExactCountRulesSpec).preRow enc Try.prog Try.f8 Rows.fnExactCountRulesRow.domain false Rows.fnExactCountRulesRow.laid) (((OpenSpec.ofChange Rows.fnExactCountRulesSpec).at F).post enc Try.prog Try.f8 false true false false) := by
  obtain ⟨places, hx⟩ := reads os enc
  refine returnsInHanded_of_row (C := Try.checked) (s := OpenSpec.ofChange Rows.fnExactCountRulesSpec) own started (by kernel_rfl) Try.func8
    (witness_row_at (enc := enc) (C := Try.checked) false (start os) #[.agg #[.int .i64 0, .slice none 0 0]] rfl (by kernel_rfl) (by kernel_rfl) (by kernel_rfl)
      (OpenSpec.preRow_of_cond 8 hx (by kernel_rfl) (fun k hk => by cases hk) (by kernel_rfl) (laidMet_of_run' 8 (by kernel_rfl) (by kernel_rfl)))) ?_
  intro W base args ds gs before hval hW _ _ _ _ _ _
  exact contract H enc W base args ds gs before hval hW

theorem said : Rows.FnExactCountRulesSaid :=
  OpenClaim.holds_of_cond 8 Try.f8 rfl rfl rfl rfl rfl rfl rfl ⟨rfl, rfl, rfl, rfl, rfl⟩ rfl rfl rfl rfl rfl (by kernel_rfl) Try.func8 (by kernel_rfl)
    (of_decide_eq_true (by kernel_rfl)) (by unfold Func.isWrapper; first | (rw [if_pos (by decide +kernel)]; kernel_rfl) | (rw [if_neg (by decide +kernel)]; exact ⟨rfl, rfl⟩))
    (fun os started H enc _ F => by rw [OpenClaim.pre_eq_preRow]; exact lifted os started H enc F)
end Go.Proofs.Ytnihlegmmkbfgaa.FnExactCountRules
