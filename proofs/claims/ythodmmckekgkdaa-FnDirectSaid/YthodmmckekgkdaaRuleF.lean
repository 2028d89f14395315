/-
  Chapter 9 of the program: do all rules of a list follow?
-/
import Derived.Test.YthodmmckekgkdaaRuleI3
import Derived.Test.YthodmmckekgkdaaMrg3
namespace Go.Proofs.Ythodmmckekgkdaa.Rule
open Go Go.RowKit Mem Sets Ctx Tab Stem
set_option maxRecDepth 100000

set_option maxHeartbeats 1600000 in
theorem impl_allFollow (v1 v2 : Value) (l fr : List PInt) (B : Nat) (w : World) (h1 : ReadsP w B v1 l) (h2 : ReadsP w B v2 fr) (hB : B ≤ w.heap.size) :
    Calls Try.prog 63 #[v1, v2] w fun e w' => e = .returned (.bool (fr.all (follows l))) ∧ Below w.heap.size w w' := by
  have HFO := Lib.hid fun (p : Past w) (r : PInt) => p.of (impl_follows v1 l r B p.w (h1.below p.h hB) (Nat.le_trans hB p.size))
  obtain ⟨a, c, rfl⟩ := h2.form
  have hlen := h2.1
  unfold maxLen at hlen
  have HR := Lib.hid h2
  obtain ⟨m, hm⟩ : ∃ m, fr.length = m := ⟨_, rfl⟩
  have HM := Lib.hid hm
  rw [hm] at HR hlen ⊢
  clear h1 h2 hm
  go_enter Try.func63, Try.ntmps63
  go_wp2_with fail
  go_loopw [9] (fun i wr => ∃ (k : Nat) (q : Past w), k ≤ m ∧ i = .int .i64 k ∧ Hid ((fr.take k).all (follows l) = true) ∧ wr = q.w) (fun i _ => m - (intOf i).toNat)
  case atStart => exact ⟨0, Past.start w, Nat.zero_le _, rfl, Lib.hid rfl, rfl⟩
  case round =>
    obtain ⟨k, q, hk, rfl, HALL, rfl⟩ := hrel
    by_cases hlt : k < m
    · obtain ⟨b, o, rfl, hb, h0, h1⟩ := readsP_at HR.out (k := k) (by rw [HM.out]; exact hlt)
      have c0 := Past.cell h0 (by show b < _; omega) q
      have c1 := Past.cell h1 (by show b < _; omega) q
      have HSN := Lib.hid (all_snoc (l := fr) (f := follows l) (k := k) (by rw [HM.out]; exact hlt))
      have HSF := Lib.hid fun h => all_false (l := fr) (f := follows l) (k := k) (by rw [HM.out]; exact hlt) h
      clear h0 h1
      generalize rl fr k = r at c0 c1 HSN HSF
      have HO := Lib.hid (HFO.out (q.alloc (.cells #[.int .i64 r.1, .int .i64 r.2] 43)) r)
      obtain ⟨r0, r1⟩ := r
      cases hh : follows l (r0, r1) with
      | false =>
        have HX := Lib.hid (HSF.out hh)
        rw [hh] at HO
        clear hh
        go_wp2_with fail
        refine HO.out.mono ?_
        rintro e _ ⟨rfl, q2, rfl⟩
        have hbb := q2.h
        go_wp2_with fail
        go_ret
        exact ⟨by rw [HX.out]; rfl, hbb⟩
      | true =>
        have HX : Hid ((fr.take (k + 1)).all (follows l) = true) := Lib.hid (by rw [HSN.out, HALL.out, hh]; rfl)
        rw [hh] at HO
        clear hh
        go_wp2_with fail
        refine HO.out.mono ?_
        rintro e _ ⟨rfl, q2, rfl⟩
        go_wp2_with fail
        go_roundw
        case rel => exact ⟨k + 1, q2, by omega, by simp, HX, rfl⟩
        case measure => simp [intOf]; omega
    · have HX : Hid (fr.all (follows l) = true) := Lib.hid (by
        have := HALL.out
        rwa [List.take_of_length_le (by have := HM.out; omega)] at this)
      have hbb := q.h
      go_wp2_with fail
      go_ret
      exact ⟨by rw [HX.out]; rfl, hbb⟩
end Go.Proofs.Ythodmmckekgkdaa.Rule
