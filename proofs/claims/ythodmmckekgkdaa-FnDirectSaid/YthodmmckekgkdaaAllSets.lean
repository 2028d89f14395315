/-
  Are all numbers of a list sets: l2Sets of the model, areAllSets of the program; is a number in a list: l2In of the model.
-/
import Derived.Test.YthodmmckekgkdaaInts
import Derived.Test.YthodmmckekgkdaaSet
namespace Go.Proofs.Ythodmmckekgkdaa.Sets2
open Go Go.RowKit Mem Sets
set_option maxRecDepth 100000

def allSets (xs : List Int) : Bool := xs.all (isSet 8)
theorem all_step {rs : List Int} {k : Nat} (hk : k < rs.length) (h : (rs.take k).all (isSet 8) = true) (hs : isSet 8 (rs.getD k 0) = true) : (rs.take (k + 1)).all (isSet 8) = true := by
  rw [List.take_add_one, List.getElem?_eq_getElem hk, List.all_append, h]
  simp only [List.getD, List.getElem?_eq_getElem hk, Option.getD_some] at hs
  simp [hs]
theorem all_bad {rs : List Int} {k : Nat} (hk : k < rs.length) (hs : isSet 8 (rs.getD k 0) = false) : allSets rs = false := by
  simp only [List.getD, List.getElem?_eq_getElem hk, Option.getD_some] at hs
  rw [allSets, List.all_eq_false]
  exact ⟨rs[k], List.getElem_mem hk, by simp [hs]⟩

set_option maxHeartbeats 400000 in
theorem l2Sets (v : Value) (rs : List Int) (B : Nat) (w : World) (hr : Reads w B v (ints rs)) :
    Calls Try.prog 115 #[v] w fun e w' => e = .returned (.bool (allSets rs)) ∧ w' = w := by
  obtain ⟨hl, aa, ca, rfl, hca⟩ := hr
  simp only [ints, List.length_map] at hl hca ⊢
  have Hl : rs.length ≤ 9223372036854775807 := by unfold maxLen at hl; omega
  have HC := Lib.hid hca
  clear hl hca
  by_cases hne : rs = []
  · subst hne
    go_enter Try.func115, Try.ntmps115
    go_wp2_with fail
    refine wp_loop_rounds 1 ?_
    rw [rounds_succ]
    go_wp2_with fail
    go_ret
    exact ⟨rfl, rfl⟩
  · obtain ⟨b, o, rfl, hb, gca⟩ := HC.out (by simpa using hne)
    have HD := Lib.hid gca
    clear gca HC hne
    go_enter Try.func115, Try.ntmps115
    go_wp2_with fail
    go_loop [3] (fun i => ∃ k : Nat, k ≤ rs.length ∧ i = .int .i64 k ∧ Hid ((rs.take k).all (isSet 8) = true)) (fun i => rs.length - (intOf i).toNat)
    case atStart => exact ⟨0, Nat.zero_le _, rfl, Lib.hid (by simp)⟩
    case round =>
      obtain ⟨k, hk, rfl, hall⟩ := hrel
      by_cases hlt : k < rs.length
      · have c2 : w.cell? ⟨b, o + k, none⟩ = some (.int .i64 (rs.getD k 0)) := by rw [HD.out k hlt, ints_get rs k hlt]
        cases hs : isSet 8 (rs.getD k 0) with
        | true =>
          have HS := Lib.hid (all_step hlt hall.out hs)
          generalize rs.getD k 0 = x at c2 hs
          go_wp2_with fail
          refine (spec_isSet _ _ _).mono ?_
          rintro e w' ⟨rfl, rfl⟩
          rw [hs]
          go_wp2_with fail
          go_round
          case rel => exact ⟨k + 1, by omega, by simp, HS⟩
          case measure => simp [intOf]; omega
        | false =>
          have HS := Lib.hid (all_bad hlt hs)
          generalize rs.getD k 0 = x at c2 hs
          go_wp2_with fail
          refine (spec_isSet _ _ _).mono ?_
          rintro e w' ⟨rfl, rfl⟩
          rw [hs]
          go_wp2_with fail
          go_ret
          exact ⟨by rw [HS.out]; rfl, rfl⟩
      · have HA : Hid (allSets rs = true) := Lib.hid (by have := hall.out; rwa [List.take_of_length_le (by omega)] at this)
        go_wp2_with fail
        go_ret
        exact ⟨by rw [HA.out]; rfl, rfl⟩


theorem mem_at {rs : List Int} {k : Nat} (hk : k < rs.length) : rs.getD k 0 ∈ rs := by
  simp only [List.getD, List.getElem?_eq_getElem hk, Option.getD_some]; exact List.getElem_mem hk
theorem not_mem_step {rs : List Int} {x : Int} {k : Nat} (hk : k < rs.length) (h : x ∉ rs.take k) (hx : ¬ rs.getD k 0 = x) : x ∉ rs.take (k + 1) := by
  rw [List.take_add_one, List.getElem?_eq_getElem hk, Option.toList_some, List.mem_append, List.mem_singleton]
  simp only [List.getD, List.getElem?_eq_getElem hk, Option.getD_some] at hx
  rintro (h1 | h1)
  · exact h h1
  · exact hx h1.symm
set_option maxHeartbeats 400000 in
theorem l2In (v : Value) (rs : List Int) (x : Int) (B : Nat) (w : World) (hr : Reads w B v (ints rs)) :
    Calls Try.prog 116 #[v, .int .i64 x] w fun e w' => e = .returned (.bool (decide (x ∈ rs))) ∧ w' = w := by
  obtain ⟨hl, aa, ca, rfl, hca⟩ := hr
  simp only [ints, List.length_map] at hl hca ⊢
  have Hl : rs.length ≤ 9223372036854775807 := by unfold maxLen at hl; omega
  have HC := Lib.hid hca
  clear hl hca
  by_cases hne : rs = []
  · subst hne
    go_enter Try.func116, Try.ntmps116
    go_wp2_with fail
    refine wp_loop_rounds 1 ?_
    rw [rounds_succ]
    go_wp2_with fail
    go_ret
    exact ⟨by simp, rfl⟩
  · obtain ⟨b, o, rfl, hb, gca⟩ := HC.out (by simpa using hne)
    have HD := Lib.hid gca
    clear gca HC hne
    go_enter Try.func116, Try.ntmps116
    go_wp2_with fail
    go_loop [5] (fun i => ∃ k : Nat, k ≤ rs.length ∧ i = .int .i64 k ∧ Hid (x ∉ rs.take k)) (fun i => rs.length - (intOf i).toNat)
    case atStart => exact ⟨0, Nat.zero_le _, rfl, Lib.hid (by simp)⟩
    case round =>
      obtain ⟨k, hk, rfl, hall⟩ := hrel
      by_cases hlt : k < rs.length
      · have c2 : w.cell? ⟨b, o + k, none⟩ = some (.int .i64 (rs.getD k 0)) := by rw [HD.out k hlt, ints_get rs k hlt]
        by_cases he : rs.getD k 0 = x
        · have hq : (rs.getD k 0 == x) = true := by simpa using he
          have HM := Lib.hid (show x ∈ rs from he ▸ mem_at hlt)
          clear he
          generalize rs.getD k 0 = y at c2 hq
          go_wp2_with fail
          go_ret
          exact ⟨by simp [HM.out], rfl⟩
        · have hq : (rs.getD k 0 == x) = false := by simpa using he
          have HM := Lib.hid (not_mem_step hlt hall.out he)
          clear he
          generalize rs.getD k 0 = y at c2 hq
          go_wp2_with fail
          go_round
          case rel => exact ⟨k + 1, by omega, by simp, HM⟩
          case measure => simp [intOf]; omega
      · have HA : Hid (x ∉ rs) := Lib.hid (by have := hall.out; rwa [List.take_of_length_le (by omega)] at this)
        go_wp2_with fail
        go_ret
        exact ⟨by simp [HA.out], rfl⟩
end Go.Proofs.Ythodmmckekgkdaa.Sets2
