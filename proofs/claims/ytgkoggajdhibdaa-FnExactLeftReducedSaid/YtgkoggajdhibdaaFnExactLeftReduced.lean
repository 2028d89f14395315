/-
  For all arguments the law FnExactLeftReduced returns true: the function of the program returns what the function of the model returns, in memory of its own, and leaves its arguments as they are. No condition.
-/
import Derived.Test.YtgkoggajdhibdaaRows
import Derived.Test.YtgkoggajdhibdaaLaw
import Derived.Test.YtgkoggajdhibdaaDual
import Derived.Test.YtgkoggajdhibdaaInfW
import Derived.Test.YtgkoggajdhibdaaInfM
import Derived.Deep.RegionHeld3
import Derived.Lib.SmallJoins
import Derived.Deep.SlicePairs
import Derived.WalkKit
import Derived.ProofKit
import Derived.OpenShut
import Derived.Deep.DeepHandedRow
import Derived.LaidMore
import Derived.Stop.LaidErr
import Derived.ChangeMaps5
import Derived.Outline
import Derived.LoopTactic
import Derived.Lib.Hide
import Derived.Below
namespace Go.Proofs.Ytgkoggajdhibdaa.FnExactLeftReduced
open Go Go.ChangeShapes Go.WideShapes Go.ChangeAt Go.ChangeMaps Go.RowKit Mem Ctx

theorem asInts {xs : List Int} {w : World} {e : Ending} {w' : World} (h : ∃ u, e = .returned u ∧ Mem.Own 3 w' w.heap.size w'.heap.size u (ints xs) ∧ Below w.heap.size w w') :
    ∃ p c, e = .returned (.slice p xs.length c) ∧ Mem.Own 3 w' w.heap.size w'.heap.size (.slice p xs.length c) (ints xs) ∧ Below w.heap.size w w' := by
  obtain ⟨u, he, o, b⟩ := h
  obtain ⟨p, c, rfl⟩ := own_form o
  exact ⟨p, c, he, o, b⟩
theorem boxApart {w w' : World} {g lo hi : Nat} {t : TypeId} {cs : Array Value} (h : BoxAt w g t cs) (ha : Apart lo hi w w') (hg : g < lo ∨ hi ≤ g) : BoxAt w' g t cs := (ha.block g h.lt hg).trans h
theorem ownBoxed {e : TypeId} {w : World} {lo hi : Nat} {v : Value} {cs : List Value} (h : Mem.Own e w lo hi v cs) (hh : hi ≤ w.heap.size) (o : Obj) : Mem.Own e (w.alloc o) lo hi v cs := h.below (B := w.heap.size) ((Below.refl _ _).alloc (Nat.le_refl _) o) hh
theorem keep4 {w w' : World} {B : Nat} {p q r s : Addr} {x y z t : Value} (hb : Below B w w') (h : w.cell? p = some x ∧ w.cell? q = some y ∧ w.cell? r = some z ∧ w.cell? s = some t) (hp : p.block < B) (hq : q.block < B) (hr : r.block < B) (hs : s.block < B) :
    w'.cell? p = some x ∧ w'.cell? q = some y ∧ w'.cell? r = some z ∧ w'.cell? s = some t :=
  ⟨(hb.cell hp).trans h.1, (hb.cell hq).trans h.2.1, (hb.cell hr).trans h.2.2.1, (hb.cell hs).trans h.2.2.2⟩
theorem asCtx {x : Option (Int × List Int)} {n : Int} {xs : List Int} {ok : Bool} (hn : (x.getD (0, [])).1 = n) (hx : (x.getD (0, [])).2 = xs) (ho : x.isSome = ok) {w : World} {e : Ending} {w' : World} (h : CtxRes x w e w') :
    ∃ p c, e = .returned (.tuple #[ctx n (.slice p xs.length c), .bool ok]) ∧ Mem.Own 3 w' w.heap.size w'.heap.size (.slice p xs.length c) (ints xs) ∧ Below w.heap.size w w' := by
  subst hn hx ho
  obtain ⟨u, he, o, b⟩ := h
  obtain ⟨p, c, rfl⟩ := own_form o
  exact ⟨p, c, he, o, b⟩


theorem keep2 {w w' : World} {B : Nat} {p q : Addr} {x y : Value} (hb : Below B w w') (h : w.cell? p = some x ∧ w.cell? q = some y) (hp : p.block < B) (hq : q.block < B) : w'.cell? p = some x ∧ w'.cell? q = some y := ⟨(hb.cell hp).trans h.1, (hb.cell hq).trans h.2⟩
theorem boxedP {w : World} {B : Nat} {v : Value} {l : List PInt} (h : ReadsP w B v l) (hB : B ≤ w.heap.size) (o : Obj) : ReadsP (w.alloc o) B v l := h.below ((Below.refl _ _).alloc (Nat.le_refl _) o) hB
theorem ownBoxedP {e : TypeId} {w : World} {lo hi : Nat} {v : Value} {l : List PInt} (h : OwnP e w lo hi v l) (hh : hi ≤ w.heap.size) (o : Obj) : OwnP e (w.alloc o) lo hi v l := h.below (B := w.heap.size) ((Below.refl _ _).alloc (Nat.le_refl _) o) hh
theorem readsP_nil (w : World) (B : Nat) : ReadsP w B (.slice none 0 0) [] := ⟨Nat.zero_le _, none, 0, rfl, fun h => absurd rfl h⟩
/-- A slice of pairs that came in can be read. -/
theorem readsP_of {w : World} {a : Addr} {len cap : Nat} (hl : len ≤ cap) (hm : cap ≤ maxLen) (hx : ∀ i, i < cap → ∃ x y : Int, w.cell? (a.add (i * 2)) = some (.int .i64 x) ∧ w.cell? (a.add (i * 2 + 1)) = some (.int .i64 y)) :
    ∃ l : List PInt, ReadsP w w.heap.size (.slice (some a) len cap) l := by
  obtain ⟨f, hf⟩ : ∃ f : Nat → PInt, ∀ i, i < cap → w.cell? (a.add (i * 2)) = some (.int .i64 (f i).1) ∧ w.cell? (a.add (i * 2 + 1)) = some (.int .i64 (f i).2) :=
    ⟨fun i => if h : i < cap then (Classical.choose (hx i h), Classical.choose (Classical.choose_spec (hx i h))) else (0, 0), fun i hi => by simp only [dif_pos hi]; exact Classical.choose_spec (Classical.choose_spec (hx i hi))⟩
  have hlen : ((List.range len).map f).length = len := by simp
  refine ⟨(List.range len).map f, by omega, some a, cap, by rw [hlen], fun hne => ?_⟩
  have h0 : 0 < len := by
    rcases Nat.eq_zero_or_pos len with h | h
    · subst h; exact absurd rfl hne
    · exact h
  have h1 := (hf 0 (by omega)).1
  have hspot : a = ⟨a.block, a.off, none⟩ := by
    obtain ⟨b, o, sp⟩ := a
    cases sp with
    | none => rfl
    | some x =>
      simp only [Addr.add, Nat.zero_mul, if_pos, World.cell?] at h1
      split at h1
      · simp at h1
      · cases h1
  have hb : a.block < w.heap.size := by
    simp only [Addr.add, Nat.zero_mul, if_pos, World.cell?] at h1
    split at h1
    · rename_i h; exact (Array.getElem?_eq_some_iff.1 h).1
    · cases h1
  have hadd : ∀ j, a.add j = ⟨a.block, a.off + j, none⟩ := fun j => by
    rw [hspot]
    unfold Addr.add
    split
    · rename_i h; subst h; rfl
    · rfl
  refine ⟨a.block, a.off, by rw [← hspot], hb, fun j hj => ?_⟩
  rw [hlen] at hj
  have h2 := hf j (by omega)
  rw [hadd, hadd] at h2
  have e : ((List.range len).map f).getD j (0, 0) = f j := by simp [List.getD, hj]
  rw [e]
  exact ⟨h2.1, by rw [Nat.add_assoc]; exact h2.2⟩

theorem asRules {xs : List PInt} {w : World} {e : Ending} {w' : World} (h : ∃ u, e = .returned u ∧ OwnP 43 w' w.heap.size w'.heap.size u xs ∧ Below w.heap.size w w') :
    ∃ p c, e = .returned (.slice p xs.length c) ∧ OwnP 43 w' w.heap.size w'.heap.size (.slice p xs.length c) xs ∧ Below w.heap.size w w' := by
  obtain ⟨u, he, o, b⟩ := h
  obtain ⟨p, c, rfl⟩ := o.form
  exact ⟨p, c, he, o, b⟩
theorem asRulesOk {xs : List PInt} {ok : Bool} {w : World} {e : Ending} {w' : World} (h : ∃ u, e = .returned (.tuple #[u, .bool ok]) ∧ OwnP 43 w' w.heap.size w'.heap.size u xs ∧ Below w.heap.size w w') :
    ∃ p c, e = .returned (.tuple #[.slice p xs.length c, .bool ok]) ∧ OwnP 43 w' w.heap.size w'.heap.size (.slice p xs.length c) xs ∧ Below w.heap.size w w' := by
  obtain ⟨u, he, o, b⟩ := h
  obtain ⟨p, c, rfl⟩ := o.form
  exact ⟨p, c, he, o, b⟩
theorem small (n : Int) (l : List PInt) : (Infer.leftReduced n l).length ≤ 40 := by
  unfold Infer.leftReduced
  split
  · rename_i h; rw [Infer.leftAll_len]; exact (Infer.areR_nn h).2.2
  · exact Nat.zero_le _
set_option maxRecDepth 100000 in
set_option maxHeartbeats 4000000 in
theorem walk (n : Int) (lv : Value) (lr : List PInt) (w : World) (hl : ReadsP w w.heap.size lv lr) :
    Calls Try.prog 15 #[.int .i64 n, lv] w fun e w' => e = .returned (.bool true) ∧ Below w.heap.size w w' := by
  have hll : lr.length ≤ 9223372036854775807 := by have := hl.1; unfold maxLen at this; omega
  obtain ⟨lp, lc, rfl⟩ := hl.form
  have HRl := Lib.hid hl
  clear hl
  by_cases hlen0 : 1048576 < (lr.length : Int)
  · have HZ0 := Lib.hid (fun w => PRule.szS (.slice lp lr.length lc) lr.length (1048576) w ⟨_, _, rfl⟩ hll (by omega) (by omega))
    simp only [if_pos hlen0] at HZ0
    go_enter Try.func15, Try.ntmps15
    go_wp2_with fail
    refine (HZ0.out _).mono ?_
    rintro e w' ⟨rfl, hw⟩
    subst w'
    go_wp2_with fail
    go_ret
    exact ⟨rfl, (Below.refl w.heap.size w)⟩
  have HZ0 := Lib.hid (fun w => PRule.szS (.slice lp lr.length lc) lr.length (1048576) w ⟨_, _, rfl⟩ hll (by omega) (by omega))
  simp only [if_neg hlen0] at HZ0
  have hd0 : decide (1048576 - (lr.length : Int) < 0) = false := by simp; omega
  have hxll : lr.length ≤ 1048576 := by omega
  have hsm := small n lr
  obtain ⟨xs, hxs⟩ : ∃ xs, Infer.leftReduced n lr = xs := ⟨_, rfl⟩
  obtain ⟨ok, hok⟩ : ∃ ok, Rule.areR n lr = ok := ⟨_, rfl⟩
  have HS := Lib.hid (fun v B w h hB => (Infer.spec_left n v lr B w h hB).mono (fun _ _ h => asRulesOk (xs := xs) (ok := ok) (by rw [hxs, hok] at h; exact h)))
  have HI := Lib.hid (fun v B w h hB => (Infer.impl_left n v lr B w h hB).mono (fun _ _ h => asRulesOk (xs := xs) (ok := ok) (by rw [hxs, hok] at h; exact h)))
  rw [hxs] at hsm
  have hqn : (xs == xs) = true := by simp
  have hqo : (ok != ok) = false := by simp
  clear hxs hok
  clear hlen0 hll
  go_enter Try.func15, Try.ntmps15
  go_wp2_with fail
  refine (HZ0.out _).mono ?_
  rintro e w' ⟨rfl, hw⟩
  subst w'
  go_wp2_with fail
  refine (PRule.toS _ lr w.heap.size _ (HRl.out.below (Below.refl w.heap.size w) (Nat.le_refl _)) (by first | omega | (simp; omega) | simp) hxll).mono ?_
  rintro e w1 ⟨u1, rfl, o1, b1⟩
  obtain ⟨p1, q1, rfl⟩ := o1.form
  have P11 := Lib.hid (o1.mono (lo' := w.heap.size) (by first | omega | (simp; omega) | simp) (Nat.le_refl _))
  have hs1 : w.heap.size ≤ w1.heap.size := by have := b1.size; simpa using this
  have T1 := Lib.hid ((Below.refl w.heap.size w).trans (b1.mono (by first | omega | (simp; omega) | simp)))
  clear o1 b1
  go_wp2_with fail
  refine (HS.out _ w1.heap.size _ P11.out.reads (by first | omega | (simp; omega) | simp)).mono ?_
  rintro e w2 ⟨p2, q2, rfl, o2, b2⟩
  have Wn2 := Lib.hid (o2.mono (lo' := w1.heap.size) (by first | omega | (simp; omega) | simp) (Nat.le_refl _))
  have hs2 : w1.heap.size ≤ w2.heap.size := by have := b2.size; simpa using this
  have T2 := Lib.hid (T1.out.trans (b2.mono (by first | omega | (simp; omega) | simp)))
  have P12 := Lib.hid (P11.out.below b2 (by first | omega | (simp; omega) | simp))
  clear o2 b2 T1 P11
  clear P12
  go_wp2_with fail
  refine (PRule.toS _ lr w.heap.size _ (HRl.out.below T2.out (Nat.le_refl _)) (by first | omega | (simp; omega) | simp) hxll).mono ?_
  rintro e w3 ⟨u3, rfl, o3, b3⟩
  obtain ⟨p3, q3, rfl⟩ := o3.form
  have X13 := Lib.hid (o3.mono (lo' := w2.heap.size) (by first | omega | (simp; omega) | simp) (Nat.le_refl _))
  have hs3 : w2.heap.size ≤ w3.heap.size := by have := b3.size; simpa using this
  have T3 := Lib.hid (T2.out.trans (b3.mono (by first | omega | (simp; omega) | simp)))
  have Wn3 := Lib.hid (Wn2.out.below b3 (by first | omega | (simp; omega) | simp))
  clear o3 b3 T2 Wn2
  go_wp2_with fail
  refine (HI.out _ w3.heap.size _ X13.out.reads (by first | omega | (simp; omega) | simp)).mono ?_
  rintro e w4 ⟨p4, q4, rfl, o4, b4⟩
  have Gn4 := Lib.hid (o4.mono (lo' := w3.heap.size) (by first | omega | (simp; omega) | simp) (Nat.le_refl _))
  have hs4 : w3.heap.size ≤ w4.heap.size := by have := b4.size; simpa using this
  have T4 := Lib.hid (T3.out.trans (b4.mono (by first | omega | (simp; omega) | simp)))
  have Wn4 := Lib.hid (Wn3.out.below b4 (by first | omega | (simp; omega) | simp))
  have X14 := Lib.hid (X13.out.below b4 (by first | omega | (simp; omega) | simp))
  clear o4 b4 T3 Wn3 X13
  go_wp2_with fail
  refine (PRule.eqS _ _ xs xs w4.heap.size w2.heap.size _ Gn4.out.reads Wn4.out.reads (by first | omega | (simp; omega) | simp) (by first | omega | (simp; omega) | simp)).mono ?_
  rintro e w5 ⟨rfl, b5⟩
  have hs5 : w4.heap.size ≤ w5.heap.size := by have := b5.size; simpa using this
  have T5 := Lib.hid (T4.out.trans (b5.mono (by first | omega | (simp; omega) | simp)))
  have Wn5 := Lib.hid (Wn4.out.below b5 (by first | omega | (simp; omega) | simp))
  have X15 := Lib.hid (X14.out.below b5 (by first | omega | (simp; omega) | simp))
  have Gn5 := Lib.hid (Gn4.out.below b5 (by first | omega | (simp; omega) | simp))
  clear b5 T4 Wn4 X14 Gn4
  go_wp2_with fail
  refine (PRule.toS _ lr w.heap.size _ (HRl.out.below T5.out (Nat.le_refl _)) (by first | omega | (simp; omega) | simp) hxll).mono ?_
  rintro e w6 ⟨u6, rfl, o6, b6⟩
  obtain ⟨p6, q6, rfl⟩ := o6.form
  have Q16 := Lib.hid (o6.mono (lo' := w5.heap.size) (by first | omega | (simp; omega) | simp) (Nat.le_refl _))
  have hs6 : w5.heap.size ≤ w6.heap.size := by have := b6.size; simpa using this
  have T6 := Lib.hid (T5.out.trans (b6.mono (by first | omega | (simp; omega) | simp)))
  have Wn6 := Lib.hid (Wn5.out.below b6 (by first | omega | (simp; omega) | simp))
  have X16 := Lib.hid (X15.out.below b6 (by first | omega | (simp; omega) | simp))
  have Gn6 := Lib.hid (Gn5.out.below b6 (by first | omega | (simp; omega) | simp))
  clear o6 b6 T5 Wn5 X15 Gn5
  go_wp2_with fail
  refine (PRule.eqS _ _ lr lr w3.heap.size w6.heap.size _ X16.out.reads Q16.out.reads (by first | omega | (simp; omega) | simp) (by first | omega | (simp; omega) | simp)).mono ?_
  rintro e w7 ⟨rfl, b7⟩
  have hs7 : w6.heap.size ≤ w7.heap.size := by have := b7.size; simpa using this
  have T7 := Lib.hid (T6.out.trans (b7.mono (by first | omega | (simp; omega) | simp)))
  have Wn7 := Lib.hid (Wn6.out.below b7 (by first | omega | (simp; omega) | simp))
  have X17 := Lib.hid (X16.out.below b7 (by first | omega | (simp; omega) | simp))
  have Gn7 := Lib.hid (Gn6.out.below b7 (by first | omega | (simp; omega) | simp))
  have Q17 := Lib.hid (Q16.out.below b7 (by first | omega | (simp; omega) | simp))
  clear b7 T6 Wn6 X16 Gn6 Q16
  clear Q17
  have hqq1 : (lr == lr) = true := by simp
  go_wp2_with fail
  refine (PRule.markS _ lr 1 (w2.heap.size) w3.heap.size _ X17.out (by first | omega | (simp; omega) | simp)).mono ?_
  rintro e w8 ⟨rfl, m8, b8⟩
  have X18 := Lib.hid m8
  have hs8 : w7.heap.size ≤ w8.heap.size := by have := b8.size; simpa using this
  have T8 := Lib.hid (T7.out.trans (b8.below (B := w.heap.size) (by first | omega | (simp; omega) | simp) (by first | omega | (simp; omega) | simp)))
  have Wn8 := Lib.hid (Wn7.out.apart b8 (by first | omega | (simp; omega) | simp))
  have Gn8 := Lib.hid (Gn7.out.apart b8 (by first | omega | (simp; omega) | simp))
  clear m8 b8 T7 Wn7 X17 Gn7
  go_wp2_with fail
  refine (PRule.eqS _ _ xs xs w4.heap.size w2.heap.size _ Gn8.out.reads Wn8.out.reads (by first | omega | (simp; omega) | simp) (by first | omega | (simp; omega) | simp)).mono ?_
  rintro e w9 ⟨rfl, b9⟩
  have hs9 : w8.heap.size ≤ w9.heap.size := by have := b9.size; simpa using this
  have T9 := Lib.hid (T8.out.trans (b9.mono (by first | omega | (simp; omega) | simp)))
  have Wn9 := Lib.hid (Wn8.out.below b9 (by first | omega | (simp; omega) | simp))
  have X19 := Lib.hid (X18.out.below b9 (by first | omega | (simp; omega) | simp))
  have Gn9 := Lib.hid (Gn8.out.below b9 (by first | omega | (simp; omega) | simp))
  clear b9 T8 Wn8 X18 Gn8
  clear X19
  go_wp2_with fail
  refine (PRule.markS _ xs 1 (w3.heap.size) w4.heap.size _ Gn9.out (by first | omega | (simp; omega) | simp)).mono ?_
  rintro e w10 ⟨rfl, m10, b10⟩
  have Gn10 := Lib.hid m10
  have hs10 : w9.heap.size ≤ w10.heap.size := by have := b10.size; simpa using this
  have T10 := Lib.hid (T9.out.trans (b10.below (B := w.heap.size) (by first | omega | (simp; omega) | simp) (by first | omega | (simp; omega) | simp)))
  have Wn10 := Lib.hid (Wn9.out.apart b10 (by first | omega | (simp; omega) | simp))
  clear m10 b10 T9 Wn9 Gn9
  go_wp2_with fail
  refine (PRule.heldS _ (seqP 1 xs.length) 1 xs.length w4.heap.size _ Gn10.out.reads rfl (by first | omega | (simp; omega) | simp)).mono ?_
  rintro e w10 ⟨rfl, rfl⟩
  go_wp2_with fail
  refine (PRule.toS _ lr w.heap.size _ (HRl.out.below T10.out (Nat.le_refl _)) (by first | omega | (simp; omega) | simp) hxll).mono ?_
  rintro e w11 ⟨u11, rfl, o11, b11⟩
  obtain ⟨p11, q11, rfl⟩ := o11.form
  have Y111 := Lib.hid (o11.mono (lo' := w10.heap.size) (by first | omega | (simp; omega) | simp) (Nat.le_refl _))
  have hs11 : w10.heap.size ≤ w11.heap.size := by have := b11.size; simpa using this
  have T11 := Lib.hid (T10.out.trans (b11.mono (by first | omega | (simp; omega) | simp)))
  have Wn11 := Lib.hid (Wn10.out.below b11 (by first | omega | (simp; omega) | simp))
  have Gn11 := Lib.hid (Gn10.out.below b11 (by first | omega | (simp; omega) | simp))
  clear o11 b11 T10 Wn10 Gn10
  go_wp2_with fail
  refine (HI.out _ w11.heap.size _ Y111.out.reads (by first | omega | (simp; omega) | simp)).mono ?_
  rintro e w12 ⟨p12, q12, rfl, o12, b12⟩
  have Hn12 := Lib.hid (o12.mono (lo' := w11.heap.size) (by first | omega | (simp; omega) | simp) (Nat.le_refl _))
  have hs12 : w11.heap.size ≤ w12.heap.size := by have := b12.size; simpa using this
  have T12 := Lib.hid (T11.out.trans (b12.mono (by first | omega | (simp; omega) | simp)))
  have Wn12 := Lib.hid (Wn11.out.below b12 (by first | omega | (simp; omega) | simp))
  have Gn12 := Lib.hid (Gn11.out.below b12 (by first | omega | (simp; omega) | simp))
  have Y112 := Lib.hid (Y111.out.below b12 (by first | omega | (simp; omega) | simp))
  clear o12 b12 T11 Wn11 Gn11 Y111
  clear Y112
  go_wp2_with fail
  refine (PRule.eqS _ _ xs xs w12.heap.size w2.heap.size _ Hn12.out.reads Wn12.out.reads (by first | omega | (simp; omega) | simp) (by first | omega | (simp; omega) | simp)).mono ?_
  rintro e w13 ⟨rfl, b13⟩
  have hs13 : w12.heap.size ≤ w13.heap.size := by have := b13.size; simpa using this
  have T13 := Lib.hid (T12.out.trans (b13.mono (by first | omega | (simp; omega) | simp)))
  have Wn13 := Lib.hid (Wn12.out.below b13 (by first | omega | (simp; omega) | simp))
  have Gn13 := Lib.hid (Gn12.out.below b13 (by first | omega | (simp; omega) | simp))
  have Hn13 := Lib.hid (Hn12.out.below b13 (by first | omega | (simp; omega) | simp))
  clear b13 T12 Wn12 Gn12 Hn12
  clear Hn13
  go_wp2_with fail
  refine (PRule.heldS _ (seqP 1 xs.length) 1 xs.length w4.heap.size _ Gn13.out.reads rfl (by first | omega | (simp; omega) | simp)).mono ?_
  rintro e w13 ⟨rfl, rfl⟩
  go_wp2_with fail
  go_ret
  exact ⟨rfl, T13.out⟩

set_option maxRecDepth 100000 in
theorem contract (H : Type) (enc : TypeId × Value → H) (W : World) (base : Nat) (args : Array Value) (ds gs : List (DataW H)) (before : List MemPlace)
    (hval : ∀ (j : Nat) t v, Try.f15.params[j]? = some t → args[j]? = some v → Value.okWide Try.prog W .any base t v)
    (hW : DataW.Whole enc Try.prog Try.f15.params.toList Rows.fnExactLeftReducedSpec.vars false W args.toList ds gs before) :
    Calls Try.prog 15 args W fun e W' => ∃ v, e = .returned v ∧ Rows.fnExactLeftReducedSpec.post enc Try.prog Try.f15 false true false false W args v W' := by
  have hW' := hW
  obtain ⟨p, q, hA0, hV, rfl, hfz, hnd⟩ := hW
  have hA : DataW.TrodAll enc Try.prog W 0 (fun _ => true) true Try.f15.params.toList args.toList ds p := hA0
  rw [Try.params15] at hA hval
  obtain ⟨v0, vs0, d0, ds0, p0, q0, hargs, rfl, rfl, h0, r0⟩ := trodAll_cons hA
  obtain ⟨v1, vs1, d1, ds1, p1, q1, rfl, rfl, rfl, h1, r1⟩ := trodAll_cons r0
  obtain ⟨rfl, rfl, rfl⟩ := trodAll_nil r1
  obtain rfl : args = #[v0, v1] := by cases args; simp_all
  obtain ⟨n, rfl, rfl, rfl, hw0⟩ := open_int Try.underlying3 (hval 0 3 v0 rfl rfl) h0
  obtain ⟨xs1, hr1⟩ : ∃ xs : List PInt, ReadsP W W.heap.size v1 xs := by
    obtain ⟨a0, len, cap, rfl⟩ := okWide_slice Try.underlying70 (hval 1 70 v1 rfl rfl)
    obtain ⟨fuel, hf⟩ := h1
    rcases Deep.open_slice_pairs Try.underlying70 Try.underlying78 (by kernel_rfl) rfl rfl (by kernel_rfl) (by kernel_rfl) hf with ⟨hcs, -⟩ | ⟨a, len', cap', m, n, V0, V1, D0, D1, P0, P1, hcs, -, hl, hm, hmm, -, hx⟩
    · simp [Value.cells] at hcs
      obtain ⟨rfl, rfl, rfl⟩ := hcs
      exact ⟨[], readsP_nil _ _⟩
    · simp [Value.cells] at hcs
      obtain ⟨rfl, rfl, rfl⟩ := hcs
      simp only [if_true] at hmm
      subst hmm
      exact readsP_of hl hm fun i hi => by
        obtain ⟨h0, h1, h2, h3⟩ := hx i hi
        obtain ⟨x, hx0, -, -⟩ := DataW.trod_int Try.underlying3 h2
        obtain ⟨y, hy0, -, -⟩ := DataW.trod_int Try.underlying3 h3
        refine ⟨x, y, ?_, ?_⟩
        · rw [h0]; simpa using hx0
        · rw [h1]; simpa using hy0
  clear hA0
  refine (walk n v1 xs1 W hr1).mono fun e W' ⟨he, hg⟩ => ?_
  subst he
  exact ⟨_, rfl, Law.post_true (tb := 4) (kids_rows (by kernel_rfl) (by kernel_rfl)) (by unfold Law.Full; kernel_rfl) hW' rfl (by rw [Try.params15]; decide +kernel) Try.underlying4 (by kernel_rfl) rfl hg⟩

noncomputable def start (os : Os) : World := World.holding Try.prog os ⟨#[], #[], []⟩
theorem reads (os : Os) {H : Type} (enc : TypeId × Value → H) : ∃ places, DataW.whole enc Try.prog ((start os).forCall (fun _ _ => 0) ⟨#[], #[.int .i64 0, .slice none 0 0], []⟩).memory Try.f15.params.toList Rows.fnExactLeftReducedSpec.vars false (#[.int .i64 0, .slice none 0 0] : Array Value).toList 8 = some ([.lit (.int .i64 0), .nil], [], places) :=
  ⟨[], by kernel_rfl⟩
theorem own : ownKnob Try.prog.godebug = none := by kernel_rfl

set_option maxRecDepth 100000 in
theorem lifted (os : Os) (started : os.Started) (H : Type) (enc : TypeId × Value → H) (F : Stop.Interp) :
    ReturnsInHanded {} Try.checked os 15 .any ((OpenSpec.ofChange Rows.fnExactLeftReducedSpec).preRow enc Try.prog Try.f15 Rows.fnExactLeftReducedRow.domain false Rows.fnExactLeftReducedRow.laid) (((OpenSpec.ofChange Rows.fnExactLeftReducedSpec).at F).post enc Try.prog Try.f15 false true false false) := by
  obtain ⟨places, hx⟩ := reads os enc
  refine returnsInHanded_of_row (C := Try.checked) (s := OpenSpec.ofChange Rows.fnExactLeftReducedSpec) own started (by kernel_rfl) Try.func15
    (witness_row_at (enc := enc) (C := Try.checked) false (start os) #[.int .i64 0, .slice none 0 0] rfl (by kernel_rfl) (by kernel_rfl) (by kernel_rfl)
      (OpenSpec.preRow_of_cond 8 hx (by kernel_rfl) (fun k hk => by cases hk) (by kernel_rfl) (laidMet_of_run' 8 (by kernel_rfl) (by kernel_rfl)))) ?_
  intro W base args ds gs before hval hW _ _ _ _ _ _
  exact contract H enc W base args ds gs before hval hW

theorem said : Rows.FnExactLeftReducedSaid :=
  OpenClaim.holds_of_cond 15 Try.f15 rfl rfl rfl rfl rfl rfl rfl ⟨rfl, rfl, rfl, rfl, rfl⟩ rfl rfl rfl rfl rfl (by kernel_rfl) Try.func15 (by kernel_rfl)
    (of_decide_eq_true (by kernel_rfl)) (by unfold Func.isWrapper; first | (rw [if_pos (by decide +kernel)]; kernel_rfl) | (rw [if_neg (by decide +kernel)]; exact ⟨rfl, rfl⟩))
    (fun os started H enc _ F => by rw [OpenClaim.pre_eq_preRow]; exact lifted os started H enc F)
end Go.Proofs.Ytgkoggajdhibdaa.FnExactLeftReduced
