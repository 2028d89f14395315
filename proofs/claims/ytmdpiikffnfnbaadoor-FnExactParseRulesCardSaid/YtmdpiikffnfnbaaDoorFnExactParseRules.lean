/-
  For every text t the law FnExactParseRules returns true: the function of the program returns what the function of the model returns, in memory of its own. Condition: the listed tables of the standard library hold what its text lays.
-/
import Derived.Test.YtmdpiikffnfnbaaDoorCards
import Derived.Test.YtmdpiikffnfnbaaDoorTie
import Derived.Test.YtmdpiikffnfnbaaDoorLaw
import Derived.Test.YtmdpiikffnfnbaaDoorDual
import Derived.Test.YtmdpiikffnfnbaaDoorRuleL
import Derived.Test.YtmdpiikffnfnbaaDoorPRule
import Derived.Deep.RegionHeld3
import Derived.Lib.SmallJoins
import Derived.WalkKit
import Derived.ProofKit
import Derived.OpenShut
import Derived.Deep.DeepHandedRow
import Derived.LaidMore
import Derived.Stop.LaidErr
import Derived.ChangeMaps5
import Derived.Outline
import Derived.LoopTactic
import Derived.Lib.Hide
import Derived.Below
import Derived.Lay
namespace Go.Proofs.YtmdpiikffnfnbaaDoor.FnExactParseRules
open Go Go.ChangeShapes Go.WideShapes Go.ChangeAt Go.ChangeMaps Go.RowKit Mem Ctx

theorem asInts {xs : List Int} {w : World} {e : Ending} {w' : World} (h : ∃ u, e = .returned u ∧ Mem.Own 3 w' w.heap.size w'.heap.size u (ints xs) ∧ Below w.heap.size w w') :
    ∃ p c, e = .returned (.slice p xs.length c) ∧ Mem.Own 3 w' w.heap.size w'.heap.size (.slice p xs.length c) (ints xs) ∧ Below w.heap.size w w' := by
  obtain ⟨u, he, o, b⟩ := h
  obtain ⟨p, c, rfl⟩ := own_form o
  exact ⟨p, c, he, o, b⟩
theorem boxApart {w w' : World} {g lo hi : Nat} {t : TypeId} {cs : Array Value} (h : BoxAt w g t cs) (ha : Apart lo hi w w') (hg : g < lo ∨ hi ≤ g) : BoxAt w' g t cs := (ha.block g h.lt hg).trans h
theorem ownBoxed {e : TypeId} {w : World} {lo hi : Nat} {v : Value} {cs : List Value} (h : Mem.Own e w lo hi v cs) (hh : hi ≤ w.heap.size) (o : Obj) : Mem.Own e (w.alloc o) lo hi v cs := h.below (B := w.heap.size) ((Below.refl _ _).alloc (Nat.le_refl _) o) hh
theorem keep4 {w w' : World} {B : Nat} {p q r s : Addr} {x y z t : Value} (hb : Below B w w') (h : w.cell? p = some x ∧ w.cell? q = some y ∧ w.cell? r = some z ∧ w.cell? s = some t) (hp : p.block < B) (hq : q.block < B) (hr : r.block < B) (hs : s.block < B) :
    w'.cell? p = some x ∧ w'.cell? q = some y ∧ w'.cell? r = some z ∧ w'.cell? s = some t :=
  ⟨(hb.cell hp).trans h.1, (hb.cell hq).trans h.2.1, (hb.cell hr).trans h.2.2.1, (hb.cell hs).trans h.2.2.2⟩
theorem asCtx {x : Option (Int × List Int)} {n : Int} {xs : List Int} {ok : Bool} (hn : (x.getD (0, [])).1 = n) (hx : (x.getD (0, [])).2 = xs) (ho : x.isSome = ok) {w : World} {e : Ending} {w' : World} (h : CtxRes x w e w') :
    ∃ p c, e = .returned (.tuple #[ctx n (.slice p xs.length c), .bool ok]) ∧ Mem.Own 3 w' w.heap.size w'.heap.size (.slice p xs.length c) (ints xs) ∧ Below w.heap.size w w' := by
  subst hn hx ho
  obtain ⟨u, he, o, b⟩ := h
  obtain ⟨p, c, rfl⟩ := own_form o
  exact ⟨p, c, he, o, b⟩


theorem keep2 {w w' : World} {B : Nat} {p q : Addr} {x y : Value} (hb : Below B w w') (h : w.cell? p = some x ∧ w.cell? q = some y) (hp : p.block < B) (hq : q.block < B) : w'.cell? p = some x ∧ w'.cell? q = some y := ⟨(hb.cell hp).trans h.1, (hb.cell hq).trans h.2⟩
theorem boxedP {w : World} {B : Nat} {v : Value} {l : List PInt} (h : ReadsP w B v l) (hB : B ≤ w.heap.size) (o : Obj) : ReadsP (w.alloc o) B v l := h.below ((Below.refl _ _).alloc (Nat.le_refl _) o) hB
theorem ownBoxedP {e : TypeId} {w : World} {lo hi : Nat} {v : Value} {l : List PInt} (h : OwnP e w lo hi v l) (hh : hi ≤ w.heap.size) (o : Obj) : OwnP e (w.alloc o) lo hi v l := h.below (B := w.heap.size) ((Below.refl _ _).alloc (Nat.le_refl _) o) hh
theorem readsP_nil (w : World) (B : Nat) : ReadsP w B (.slice none 0 0) [] := ⟨Nat.zero_le _, none, 0, rfl, fun h => absurd rfl h⟩
/-- A slice of pairs that came in can be read. -/
theorem readsP_of {w : World} {a : Addr} {len cap : Nat} (hl : len ≤ cap) (hm : cap ≤ maxLen) (hx : ∀ i, i < cap → ∃ x y : Int, w.cell? (a.add (i * 2)) = some (.int .i64 x) ∧ w.cell? (a.add (i * 2 + 1)) = some (.int .i64 y)) :
    ∃ l : List PInt, ReadsP w w.heap.size (.slice (some a) len cap) l := by
  obtain ⟨f, hf⟩ : ∃ f : Nat → PInt, ∀ i, i < cap → w.cell? (a.add (i * 2)) = some (.int .i64 (f i).1) ∧ w.cell? (a.add (i * 2 + 1)) = some (.int .i64 (f i).2) :=
    ⟨fun i => if h : i < cap then (Classical.choose (hx i h), Classical.choose (Classical.choose_spec (hx i h))) else (0, 0), fun i hi => by simp only [dif_pos hi]; exact Classical.choose_spec (Classical.choose_spec (hx i hi))⟩
  have hlen : ((List.range len).map f).length = len := by simp
  refine ⟨(List.range len).map f, by omega, some a, cap, by rw [hlen], fun hne => ?_⟩
  have h0 : 0 < len := by
    rcases Nat.eq_zero_or_pos len with h | h
    · subst h; exact absurd rfl hne
    · exact h
  have h1 := (hf 0 (by omega)).1
  have hspot : a = ⟨a.block, a.off, none⟩ := by
    obtain ⟨b, o, sp⟩ := a
    cases sp with
    | none => rfl
    | some x =>
      simp only [Addr.add, Nat.zero_mul, if_pos, World.cell?] at h1
      split at h1
      · simp at h1
      · cases h1
  have hb : a.block < w.heap.size := by
    simp only [Addr.add, Nat.zero_mul, if_pos, World.cell?] at h1
    split at h1
    · rename_i h; exact (Array.getElem?_eq_some_iff.1 h).1
    · cases h1
  have hadd : ∀ j, a.add j = ⟨a.block, a.off + j, none⟩ := fun j => by
    rw [hspot]
    unfold Addr.add
    split
    · rename_i h; subst h; rfl
    · rfl
  refine ⟨a.block, a.off, by rw [← hspot], hb, fun j hj => ?_⟩
  rw [hlen] at hj
  have h2 := hf j (by omega)
  rw [hadd, hadd] at h2
  have e : ((List.range len).map f).getD j (0, 0) = f j := by simp [List.getD, hj]
  rw [e]
  exact ⟨h2.1, by rw [Nat.add_assoc]; exact h2.2⟩

theorem asRules {xs : List PInt} {ok : Bool} {w : World} {e : Ending} {w' : World} (h : ∃ u, e = .returned (.tuple #[u, .bool ok]) ∧ OwnP 31 w' w.heap.size w'.heap.size u xs ∧ Below w.heap.size w w') :
    ∃ p c, e = .returned (.tuple #[.slice p xs.length c, .bool ok]) ∧ OwnP 31 w' w.heap.size w'.heap.size (.slice p xs.length c) xs ∧ Below w.heap.size w w' := by
  obtain ⟨u, he, o, b⟩ := h
  obtain ⟨p, c, rfl⟩ := o.form
  exact ⟨p, c, he, o, b⟩
theorem small (t : List UInt8) : ((Rule.parseRules t).getD []).length ≤ 40 := by
  unfold Rule.parseRules
  split
  · simp
  · split
    · rename_i h; simpa [Rule.valsR] using h.2
    · simp
set_option maxRecDepth 100000 in
set_option maxHeartbeats 4000000 in
theorem walk (t : ByteArray) (hzt : t.size ≤ maxLen) (w : World) (hS : w.ShapedOpen Tryd.prog) :
    Calls Tryd.prog 3 #[.string t] w fun e w' => e = .returned (.bool true) ∧ Below w.heap.size w w' := by
  obtain ⟨⟨t⟩⟩ := t
  unfold maxLen at hzt
  have hszt : (⟨⟨t⟩⟩ : ByteArray).size = t.length := by simp [ByteArray.size]
  rw [hszt] at hzt
  have HSH := Lib.hid hS
  clear hS
  by_cases hlen0 : (1048576 : Int) < (t.length : Int)
  · have hd0 : decide ((1048576 : Int) < (t.length : Int)) = true := by simp; omega
    go_enter Tryd.func3, Tryd.ntmps3
    go_wp2_with fail
    go_ret
    exact ⟨rfl, Below.refl _ _⟩
  have hd0 : decide ((1048576 : Int) < (t.length : Int)) = false := by simp; omega
  have hxlt : t.length ≤ 1048576 := by omega
  obtain ⟨xs, hxs⟩ : ∃ xs, (Rule.parseRules t).getD [] = xs := ⟨_, rfl⟩
  obtain ⟨ok, hok⟩ : ∃ ok, (Rule.parseRules t).isSome = ok := ⟨_, rfl⟩
  have hsm : xs.length ≤ 40 := by rw [← hxs]; exact small t
  have HS := Lib.hid (fun w => (Rule.spec_parseRules t hxlt w).mono fun e w' h => asRules (xs := xs) (ok := ok) (by rw [hxs, hok] at h; exact h))
  have HI := Lib.hid (fun w hS => (Rule.impl_parseRules t hxlt w hS).mono fun e w' h => asRules (xs := xs) (ok := ok) (by rw [hxs, hok] at h; exact h))
  have hqn : (xs == xs) = true := by simp
  have hqo : (ok != ok) = false := by simp
  clear hxs hok
  clear hlen0
  go_enter Tryd.func3, Tryd.ntmps3
  go_wp2_with fail
  refine (HS.out _).mono ?_
  rintro e w1 ⟨p1, q1, rfl, o1, b1⟩
  have Wn1 := Lib.hid (o1.mono (lo' := w.heap.size) (by first | omega | (simp; omega) | simp) (Nat.le_refl _))
  have hs1 : w.heap.size ≤ w1.heap.size := by have := b1.size; simpa using this
  have T1 := Lib.hid ((Below.refl w.heap.size w).trans (b1.mono (by first | omega | (simp; omega) | simp)))
  clear o1 b1
  go_wp2_with fail
  refine (HI.out _ (Rule.shapedBelow HSH.out T1.out)).mono ?_
  rintro e w2 ⟨p2, q2, rfl, o2, b2⟩
  have Gn2 := Lib.hid (o2.mono (lo' := w1.heap.size) (by first | omega | (simp; omega) | simp) (Nat.le_refl _))
  have hs2 : w1.heap.size ≤ w2.heap.size := by have := b2.size; simpa using this
  have T2 := Lib.hid (T1.out.trans (b2.mono (by first | omega | (simp; omega) | simp)))
  have Wn2 := Lib.hid (Wn1.out.below b2 (by first | omega | (simp; omega) | simp))
  clear o2 b2 T1 Wn1
  go_wp2_with fail
  refine (PRule.eqS _ _ xs xs w2.heap.size w1.heap.size _ Gn2.out.reads Wn2.out.reads (by first | omega | (simp; omega) | simp) (by first | omega | (simp; omega) | simp)).mono ?_
  rintro e w3 ⟨rfl, b3⟩
  have hs3 : w2.heap.size ≤ w3.heap.size := by have := b3.size; simpa using this
  have T3 := Lib.hid (T2.out.trans (b3.mono (by first | omega | (simp; omega) | simp)))
  have Wn3 := Lib.hid (Wn2.out.below b3 (by first | omega | (simp; omega) | simp))
  have Gn3 := Lib.hid (Gn2.out.below b3 (by first | omega | (simp; omega) | simp))
  clear b3 T2 Wn2 Gn2
  go_wp2_with fail
  refine (PRule.markS _ xs 1 (w1.heap.size) w2.heap.size _ Gn3.out (by first | omega | (simp; omega) | simp)).mono ?_
  rintro e w4 ⟨rfl, m4, b4⟩
  have Gn4 := Lib.hid m4
  have hs4 : w3.heap.size ≤ w4.heap.size := by have := b4.size; simpa using this
  have T4 := Lib.hid (T3.out.trans (b4.below (B := w.heap.size) (by first | omega | (simp; omega) | simp) (by first | omega | (simp; omega) | simp)))
  have Wn4 := Lib.hid (Wn3.out.apart b4 (by first | omega | (simp; omega) | simp))
  clear m4 b4 T3 Wn3 Gn3
  go_wp2_with fail
  refine (PRule.heldS _ (seqP 1 xs.length) 1 xs.length w2.heap.size _ Gn4.out.reads rfl (by first | omega | (simp; omega) | simp)).mono ?_
  rintro e w4 ⟨rfl, rfl⟩
  go_wp2_with fail
  refine (HI.out _ (Rule.shapedBelow HSH.out T4.out)).mono ?_
  rintro e w5 ⟨p5, q5, rfl, o5, b5⟩
  have Hn5 := Lib.hid (o5.mono (lo' := w4.heap.size) (by first | omega | (simp; omega) | simp) (Nat.le_refl _))
  have hs5 : w4.heap.size ≤ w5.heap.size := by have := b5.size; simpa using this
  have T5 := Lib.hid (T4.out.trans (b5.mono (by first | omega | (simp; omega) | simp)))
  have Wn5 := Lib.hid (Wn4.out.below b5 (by first | omega | (simp; omega) | simp))
  have Gn5 := Lib.hid (Gn4.out.below b5 (by first | omega | (simp; omega) | simp))
  clear o5 b5 T4 Wn4 Gn4
  go_wp2_with fail
  refine (PRule.eqS _ _ xs xs w5.heap.size w1.heap.size _ Hn5.out.reads Wn5.out.reads (by first | omega | (simp; omega) | simp) (by first | omega | (simp; omega) | simp)).mono ?_
  rintro e w6 ⟨rfl, b6⟩
  have hs6 : w5.heap.size ≤ w6.heap.size := by have := b6.size; simpa using this
  have T6 := Lib.hid (T5.out.trans (b6.mono (by first | omega | (simp; omega) | simp)))
  have Wn6 := Lib.hid (Wn5.out.below b6 (by first | omega | (simp; omega) | simp))
  have Gn6 := Lib.hid (Gn5.out.below b6 (by first | omega | (simp; omega) | simp))
  have Hn6 := Lib.hid (Hn5.out.below b6 (by first | omega | (simp; omega) | simp))
  clear b6 T5 Wn5 Gn5 Hn5
  clear Hn6
  go_wp2_with fail
  refine (PRule.heldS _ (seqP 1 xs.length) 1 xs.length w2.heap.size _ Gn6.out.reads rfl (by first | omega | (simp; omega) | simp)).mono ?_
  rintro e w6 ⟨rfl, rfl⟩
  go_wp2_with fail
  go_ret
  exact ⟨rfl, T6.out⟩

set_option maxRecDepth 100000 in
theorem contract (H : Type) (enc : TypeId × Value → H) (W : World) (base : Nat) (args : Array Value) (ds gs : List (DataW H)) (before : List MemPlace)
    (hval : ∀ (j : Nat) t v, Tryd.f3.params[j]? = some t → args[j]? = some v → Value.okWide Tryd.prog W .any base t v)
    (hW : DataW.Whole enc Tryd.prog Tryd.f3.params.toList Rows.fnExactParseRulesSpec.vars false W args.toList ds gs before) (_hL : laidMetH Tryd.prog Rows.fnExactParseRulesRow.laid W) (hS : W.ShapedOpen Tryd.prog) :
    Calls Tryd.prog 3 args W fun e W' => ∃ v, e = .returned v ∧ Rows.fnExactParseRulesSpec.post enc Tryd.prog Tryd.f3 false true false false W args v W' := by
  have hW' := hW
  obtain ⟨p, q, hA0, hV, rfl, hfz, hnd⟩ := hW
  have hA : DataW.TrodAll enc Tryd.prog W 0 (fun _ => true) true Tryd.f3.params.toList args.toList ds p := hA0
  rw [Tryd.params3] at hA hval
  obtain ⟨v0, vs0, d0, ds0, p0, q0, hargs, rfl, rfl, h0, r0⟩ := trodAll_cons hA
  obtain ⟨rfl, rfl, rfl⟩ := trodAll_nil r0
  obtain rfl : args = #[v0] := by cases args; simp_all
  obtain ⟨t, rfl, rfl, rfl, hw0⟩ := open_string Tryd.underlying9 (hval 0 9 v0 rfl rfl) h0
  clear hA0
  refine (walk t hw0 W hS).mono fun e W' ⟨he, hg⟩ => ?_
  subst he
  exact ⟨_, rfl, Law.post_true (tb := 4) (kids_rows (by kernel_rfl) (by kernel_rfl)) (by unfold Law.Full; kernel_rfl) hW' rfl (by rw [Tryd.params3]; decide +kernel) Tryd.underlying4 (by kernel_rfl) rfl hg⟩

/-- A start for the witness: the heap that the door's own run leaves. -/
noncomputable def start (os : Os) : World := World.laidAll Tryd.prog os Rows.fnExactParseRulesRow.laid
theorem laid_met (os : Os) : laidMet Tryd.prog Rows.fnExactParseRulesRow.laid ((start os).forCall (fun _ _ => 0) ⟨#[], #[.string ⟨#[]⟩], []⟩).memory :=
  laidMet_laidAll _ (by kernel_rfl) (by kernel_rfl)
theorem reads (os : Os) {H : Type} (enc : TypeId × Value → H) : ∃ places, DataW.whole enc Tryd.prog ((start os).forCall (fun _ _ => 0) ⟨#[], #[.string ⟨#[]⟩], []⟩).memory Tryd.f3.params.toList Rows.fnExactParseRulesSpec.vars false (#[.string ⟨#[]⟩] : Array Value).toList 8 = some ([.lit (.string [])], [], places) :=
  ⟨[], by kernel_rfl⟩
theorem own : ownKnob Tryd.prog.godebug = none := by kernel_rfl

set_option maxRecDepth 100000 in
theorem lifted (os : Os) (started : os.Started) (H : Type) (enc : TypeId × Value → H) (F : Stop.Interp) :
    ReturnsInHanded {} Tryd.checked os 3 .any ((OpenSpec.ofChange Rows.fnExactParseRulesSpec).preRow enc Tryd.prog Tryd.f3 Rows.fnExactParseRulesRow.domain false Rows.fnExactParseRulesRow.laid) (((OpenSpec.ofChange Rows.fnExactParseRulesSpec).at F).post enc Tryd.prog Tryd.f3 false true false false) := by
  obtain ⟨places, hx⟩ := reads os enc
  refine returnsInHanded_of_row (C := Tryd.checked) (s := OpenSpec.ofChange Rows.fnExactParseRulesSpec) own started (by kernel_rfl) Tryd.func3
    (witness_row_at (enc := enc) (C := Tryd.checked) false (start os) #[.string ⟨#[]⟩] (World.laidAll_os _ _ _) (by kernel_rfl) (by kernel_rfl) (by kernel_rfl)
      (OpenSpec.preRow_of_cond 8 hx (by kernel_rfl) (fun k hk => by cases hk) (by kernel_rfl) (laid_met os))) ?_
  intro W base args ds gs before hval hW _ _ _ hL hS _
  exact contract H enc W base args ds gs before hval hW hL hS

theorem said : Rows.FnExactParseRulesSaid :=
  OpenClaim.holds_of_cond 3 Tryd.f3 rfl rfl rfl rfl rfl rfl rfl ⟨rfl, rfl, rfl, rfl, rfl⟩ rfl rfl rfl rfl rfl (by kernel_rfl) Tryd.func3 (by kernel_rfl)
    (of_decide_eq_true (by kernel_rfl)) (by unfold Func.isWrapper; first | (rw [if_pos (by decide +kernel)]; kernel_rfl) | (rw [if_neg (by decide +kernel)]; exact ⟨rfl, rfl⟩))
    (fun os started H enc _ F => by rw [OpenClaim.pre_eq_preRow]; exact lifted os started H enc F)

theorem plain (f : FuncId) (fn : Func) (hf : Tryd.pinned.checked.prog.funcNamed "loop.example/g00596/laws.FnExactParseRules" = some f) (hfn : Tryd.pinned.checked.prog.funcs[f]? = some fn) :
    false = Tryd.pinned.checked.prog.looks [] ∧ ∀ (j : Nat) t, fn.params[j]? = some t → Tryd.pinned.checked.prog.wantsStandIn t = false := by
  obtain rfl : f = 3 := Option.some.inj ((show Tryd.prog.funcNamed "loop.example/g00596/laws.FnExactParseRules" = some 3 by kernel_rfl).symm.trans hf) |>.symm
  obtain rfl : fn = Tryd.f3 := (Option.some.inj (Tryd.func3.symm.trans hfn)).symm
  refine ⟨by kernel_rfl, fun j t ht => ?_⟩
  rw [Tryd.params3] at ht
  have hm := Array.mem_of_getElem? ht
  have hall : (#[9].all fun u => !Tryd.prog.wantsStandIn u) = true := by kernel_rfl
  exact (show Tryd.prog.wantsStandIn t = false by simpa using Array.all_eq_true'.1 hall t hm)

theorem card : Rows.FnExactParseRulesCardSaid :=
  Claim7.holds_tied_plain_at .later [] _ _ _ _ said (fun _ h => by cases h) (by kernel_rfl) (fun _ h => by cases h) fnExactParseRules_row_tie rfl ⟨rfl, rfl⟩ (by kernel_rfl) rfl plain (by kernel_rfl)
end Go.Proofs.YtmdpiikffnfnbaaDoor.FnExactParseRules
