/-
  Chapter 11 of the program: lists that say the same, what follows from the other rules, what stays, the shortest list.
-/
import Derived.Test.YtgkoggajdhibdaaSlD
import Derived.Test.YtgkoggajdhibdaaInfT
import Derived.Test.YtgkoggajdhibdaaRuleF
import Derived.Test.YtgkoggajdhibdaaCloB
import Derived.Deep.RegionHeld3
namespace Go.Proofs.Ytgkoggajdhibdaa.Infer
open Go Go.RowKit Mem Sets Ctx Tab Rule Stem Lectic
set_option maxRecDepth 100000

theorem follows_isR {l : List PInt} {r : PInt} (h : follows l r = true) : isR 8 r = true := by
  rw [follows, Bool.and_eq_true, Bool.and_eq_true] at h; exact h.1.2
theorem follows_in {l : List PInt} {r : PInt} (h : follows l r = true) : allIn 8 l = true := by
  rw [follows, Bool.and_eq_true, Bool.and_eq_true] at h; exact h.1.1
theorem all_follows_in {a b : List PInt} (h : a.all (follows b) = true) : allIn 8 a = true := List.all_eq_true.2 fun r hr => follows_isR (List.all_eq_true.1 h r hr)
/-- Asked of every rule of both lists: the same. -/
theorem equiv_prog (a b : List PInt) : equiv a b = (b.all (follows a) && a.all (follows b)) := by
  have one : ∀ {x y : List PInt}, allIn 8 x = true → allIn 8 y = true → x.all (follows y) = allFollow x y := fun {x y} hx hy => by
    unfold allFollow
    rw [Bool.eq_iff_iff, List.all_eq_true, List.all_eq_true]
    refine forall_congr' fun r => forall_congr' fun hr => ?_
    rw [follows_eq hy (List.all_eq_true.1 hx r hr)]
  cases ha : allIn 8 a with
  | false =>
    rw [equiv_no1 ha]
    cases h : a.all (follows b) with
    | true => rw [all_follows_in h] at ha; cases ha
    | false => rw [Bool.and_false]
  | true =>
    cases hb : allIn 8 b with
    | false =>
      rw [equiv_no2 hb]
      cases h : b.all (follows a) with
      | true => rw [all_follows_in h] at hb; cases hb
      | false => rfl
    | true => rw [equiv_yes ha hb, one ha hb, one hb ha, Bool.and_comm]
set_option maxHeartbeats 1600000 in
theorem impl_equiv (v1 v2 : Value) (a b : List PInt) (B : Nat) (w : World) (h1 : ReadsP w B v1 a) (h2 : ReadsP w B v2 b) (hB : B ≤ w.heap.size) :
    Calls Try.prog 53 #[v1, v2] w fun e w' => e = .returned (.bool (equiv a b)) ∧ Below w.heap.size w w' := by
  have H1 := Lib.hid ((Past.start w).of (impl_allFollow v1 v2 a b B w h1 h2 hB))
  have H2 := Lib.hid fun p : Past w => p.of (impl_allFollow v2 v1 b a B p.w (h2.below p.h hB) (h1.below p.h hB) (Nat.le_trans hB p.size))
  have HX := Lib.hid (equiv_prog a b)
  obtain ⟨d1, hd1⟩ : ∃ d, b.all (follows a) = d := ⟨_, rfl⟩
  obtain ⟨d2, hd2⟩ : ∃ d, a.all (follows b) = d := ⟨_, rfl⟩
  rw [hd1] at H1 HX
  rw [hd2] at H2 HX
  clear h1 h2 hd1 hd2
  cases d1 with
  | false =>
    go_enter Try.func53, Try.ntmps53
    go_wp2_with fail
    refine H1.out.mono ?_
    rintro e _ ⟨rfl, p, rfl⟩
    have hbb := p.h
    go_wp2_with fail
    go_ret
    exact ⟨by rw [HX.out]; rfl, hbb⟩
  | true =>
    go_enter Try.func53, Try.ntmps53
    go_wp2_with fail
    refine H1.out.mono ?_
    rintro e _ ⟨rfl, p, rfl⟩
    go_wp2_with fail
    refine (H2.out p).mono ?_
    rintro e _ ⟨rfl, p2, rfl⟩
    have hbb := p2.h
    go_wp2_with fail
    go_ret
    exact ⟨by rw [HX.out]; rfl, hbb⟩
theorem readsP_take {w : World} {B b o n c k : Nat} {l : List PInt} (h : ReadsP w B (.slice (some ⟨b, o, none⟩) n c) l) (hk : k ≤ l.length) (c' : Nat) : ReadsP w B (.slice (some ⟨b, o, none⟩) k c') (l.take k) := by
  obtain ⟨h1, a, cap, h2, h3⟩ := h
  injection h2 with e1 e2 e3
  subst e1
  have hl : (l.take k).length = k := by rw [List.length_take]; omega
  refine ⟨by omega, _, c', by rw [hl], fun hne => ?_⟩
  obtain ⟨b', o', ha, hb, hc⟩ := h3 (by rintro rfl; simp at hne)
  refine ⟨b', o', ha, hb, fun j hj => ?_⟩
  have h4 := take_at hk j hj
  rw [Nat.zero_add] at h4
  rw [← h4.2]; exact hc j h4.1
theorem readsP_drop {w : World} {B b o n c q : Nat} {l : List PInt} (h : ReadsP w B (.slice (some ⟨b, o, none⟩) n c) l) (c' : Nat) : ReadsP w B (.slice (some ⟨b, o + q * 2, none⟩) (l.length - q) c') (l.drop q) := by
  obtain ⟨h1, a, cap, h2, h3⟩ := h
  injection h2 with e1 e2 e3
  subst e1
  have hl : (l.drop q).length = l.length - q := List.length_drop
  refine ⟨by omega, _, c', by rw [hl], fun hne => ?_⟩
  obtain ⟨b', o', ha, hb, hc⟩ := h3 (by rintro rfl; simp at hne)
  injection ha with ha
  injection ha with e4 e5
  subst e4 e5
  refine ⟨b, o + q * 2, rfl, hb, fun j hj => ?_⟩
  have h4 := drop_at j hj
  rw [← h4.2, show o + q * 2 + j * 2 = o + (q + j) * 2 by omega]; exact hc _ h4.1
theorem readsP_none {w : World} {B : Nat} (a : Option Addr) (c : Nat) {l : List PInt} (h : l = []) : ReadsP w B (.slice a l.length c) l := ⟨by subst h; simp, a, c, rfl, fun hne => absurd h hne⟩
set_option maxHeartbeats 3200000 in
theorem impl_redundant (a : Option Addr) (c : Nat) (l : List PInt) (k : Int) (B : Nat) (w : World) (hr : ReadsP w B (.slice a l.length c) l) (hB : B ≤ w.heap.size) (hcap : l.length ≤ c) (hlen : l.length ≤ 1048576) :
    Calls Try.prog 55 #[.slice a l.length c, .int .i64 k] w fun e w' => e = .returned (.bool (redundant l k)) ∧ Below w.heap.size w w' := by
  by_cases h : 0 ≤ k ∧ k ≤ (l.length : Int) - 1
  · obtain ⟨n, rfl⟩ := Int.eq_ofNat_of_zero_le h.1
    have hn : n < l.length := by omega
    have HX : Hid (redundant l (n : Int) = follows (without l n) (rl l n)) := Lib.hid (by rw [redundant_nat, isRed_at hn])
    obtain ⟨b, o, rfl, hb, h0, h1⟩ := readsP_at hr hn
    have c0 := fun q : Past w => Past.cell h0 (by show b < _; omega) q
    have c1 := fun q : Past w => Past.cell h1 (by show b < _; omega) q
    have d1 : decide ((n : Int) < 0) = false := by simp
    have d2 : decide ((l.length : Int) ≤ (n : Int)) = false := by simp; omega
    have hkq : n ≤ c := by omega
    have hkl : n + 1 ≤ l.length := hn
    have hkq1 : n + 1 ≤ c := by omega
    have hwr : IntKind.i64.wrap ((n : Int) + 1) = (n : Int) + 1 := by rw [IntKind.wrap_i64]; omega
    have htn : ((n : Int) + 1).toNat = n + 1 := by omega
    have hi0 : (0 : Int) ≤ (n : Int) + 1 := by omega
    have hi1 : (n : Int) + 1 ≤ (l.length : Int) := by omega
    have hnl : (n : Int) < (l.length : Int) := by omega
    have htl : (l.take n).length = n := by rw [List.length_take]; omega
    have hdl : (l.drop (n + 1)).length = l.length - (n + 1) := List.length_drop
    -- the two parts, laid in a list
    have key : ∀ (a2 : Option Addr) (m2 c2 : Nat), (l.drop (n + 1)).length = m2 → (∀ W : World, ReadsP W B (.slice (some ⟨b, o, none⟩) l.length c) l → ReadsP W B (.slice a2 (l.drop (n + 1)).length c2) (l.drop (n + 1))) → Hid (
        Calls Try.prog 117 #[.slice (some ⟨w.heap.size, 0, none⟩) 2 2] ((w.alloc (.cells #[.slice (some ⟨b, o, none⟩) n c, .slice a2 m2 c2] 28)).drew) fun e w' => ∃ au cu, e = .returned (.slice au (without l n).length cu) ∧ ∃ q : Past w, w' = q.w ∧ ReadsP q.w q.w.heap.size (.slice au (without l n).length cu) (without l n)) := fun a2 m2 c2 hm2 h2 => by
      have hrd := hr.below ((Past.start w).alloc (.cells #[.slice (some ⟨b, o, none⟩) n c, .slice a2 m2 c2] 28)).drew.h hB
      have hbx := (BoxAt.new w 28 #[.slice (some ⟨b, o, none⟩) n c, .slice a2 m2 c2]).drew
      have hc := SlP.concatR w.heap.size (some ⟨b, o, none⟩) a2 c c2 (l.take n) (l.drop (n + 1)) B ((w.alloc (.cells #[.slice (some ⟨b, o, none⟩) n c, .slice a2 m2 c2] 28)).drew)
        (by rw [htl]; exact hbx.cell 0) (by rw [hm2]; exact hbx.cell 1) hbx.lt
        (by rw [htl]; exact readsP_take hrd (by omega) c) (h2 _ hrd) (Nat.le_trans hB ((Past.start w).alloc (.cells #[.slice (some ⟨b, o, none⟩) n c, .slice a2 m2 c2] 28)).drew.size) (by rw [htl, hdl]; omega)
      exact Lib.hid (((Past.start w).alloc (.cells #[.slice (some ⟨b, o, none⟩) n c, .slice a2 m2 c2] 28)).drew.ofPairs hc)
    by_cases hqk : c = n + 1
    · have hdr : l.drop (n + 1) = [] := List.drop_of_length_le (by omega)
      have HCON := key (some ⟨b, o, none⟩) 0 0 (by rw [hdr]; rfl) (fun W _ => readsP_none _ _ hdr)
      clear hr h h0 h1 key
      subst hqk
      generalize rl l n = r at c0 c1 HX
      obtain ⟨x, y⟩ := r
      have HF := Lib.hid fun (q : Past w) (v : Value) (hq : ReadsP q.w q.w.heap.size v (without l n)) => q.of (impl_follows v (without l n) (x, y) q.w.heap.size q.w hq (Nat.le_refl _))
      generalize follows (without l n) (x, y) = d at HF HX
      go_enter Try.func55, Try.ntmps55
      go_wp2_with fail
      go_region_with (first | (go_at_call 117; (with_reducible refine HCON.out.mono ?_); rintro e _ ⟨au, cu, rfl, q, rfl, HRQ⟩) | fail)
      have HFQ := Lib.hid (HF.out q _ HRQ)
      have cq0 := c0 q
      have cq1 := c1 q
      clear HRQ
      go_wp2_with fail
      refine HFQ.out.mono ?_
      rintro e _ ⟨rfl, q2, rfl⟩
      have hbb := q2.h
      go_wp2_with fail
      go_ret
      exact ⟨by rw [HX.out]; rfl, hbb⟩
    · have hqk2 : ¬ n + 1 = c := fun h => hqk h.symm
      have HCON := key (some ⟨b, o + (n + 1) * 2, none⟩) (l.length - (n + 1)) (c - (n + 1)) hdl (fun W hW => by rw [hdl]; exact readsP_drop hW _)
      clear hr h h0 h1 key
      generalize rl l n = r at c0 c1 HX
      obtain ⟨x, y⟩ := r
      have HF := Lib.hid fun (q : Past w) (v : Value) (hq : ReadsP q.w q.w.heap.size v (without l n)) => q.of (impl_follows v (without l n) (x, y) q.w.heap.size q.w hq (Nat.le_refl _))
      generalize follows (without l n) (x, y) = d at HF HX
      go_enter Try.func55, Try.ntmps55
      go_wp2_with fail
      go_region_with (first | (go_at_call 117; (with_reducible refine HCON.out.mono ?_); rintro e _ ⟨au, cu, rfl, q, rfl, HRQ⟩) | fail)
      have HFQ := Lib.hid (HF.out q _ HRQ)
      have cq0 := c0 q
      have cq1 := c1 q
      clear HRQ
      go_wp2_with fail
      refine HFQ.out.mono ?_
      rintro e _ ⟨rfl, q2, rfl⟩
      have hbb := q2.h
      go_wp2_with fail
      go_ret
      exact ⟨by rw [HX.out]; rfl, hbb⟩
  · have HX := Lib.hid (redundant_no h)
    by_cases h0 : k < 0
    · have d1 : decide (k < 0) = true := decide_eq_true h0
      clear hr h
      go_enter Try.func55, Try.ntmps55
      go_wp2_with fail
      go_ret
      exact ⟨by rw [HX.out]; rfl, Below.refl _ _⟩
    · have d1 : decide (k < 0) = false := decide_eq_false h0
      have d2 : decide ((l.length : Int) ≤ k) = true := by simp; omega
      clear hr h
      go_enter Try.func55, Try.ntmps55
      go_wp2_with fail
      go_ret
      exact ⟨by rw [HX.out]; rfl, Below.refl _ _⟩
end Go.Proofs.Ytgkoggajdhibdaa.Infer
