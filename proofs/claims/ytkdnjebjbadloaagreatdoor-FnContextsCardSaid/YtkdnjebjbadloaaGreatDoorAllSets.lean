/-
  Are all numbers of a list sets: l2Sets of the model, areAllSets of the program; is a number in a list: l2In of the model.
-/
import Derived.Test.YtkdnjebjbadloaaGreatDoorInts
import Derived.Test.YtkdnjebjbadloaaGreatDoorSet
namespace Go.Proofs.YtkdnjebjbadloaaGreatDoor.Sets2
open Go Go.RowKit Mem Sets
set_option maxRecDepth 100000

def allSets (xs : List Int) : Bool := xs.all (isSet 8)
theorem all_step {rs : List Int} {k : Nat} (hk : k < rs.length) (h : (rs.take k).all (isSet 8) = true) (hs : isSet 8 (rs.getD k 0) = true) : (rs.take (k + 1)).all (isSet 8) = true := by
  rw [List.take_add_one, List.getElem?_eq_getElem hk, List.all_append, h]
  simp only [List.getD, List.getElem?_eq_getElem hk, Option.getD_some] at hs
  simp [hs]
theorem all_bad {rs : List Int} {k : Nat} (hk : k < rs.length) (hs : isSet 8 (rs.getD k 0) = false) : allSets rs = false := by
  simp only [List.getD, List.getElem?_eq_getElem hk, Option.getD_some] at hs
  rw [allSets, List.all_eq_false]
  exact ⟨rs[k], List.getElem_mem hk, by simp [hs]⟩

set_option maxHeartbeats 400000 in
theorem l2Sets (v : Value) (rs : List Int) (B : Nat) (w : World) (hr : Reads w B v (ints rs)) :
    Calls Tryz.prog 76 #[v] w fun e w' => e = .returned (.bool (allSets rs)) ∧ w' = w := by
  obtain ⟨hl, aa, ca, rfl, hca⟩ := hr
  simp only [ints, List.length_map] at hl hca ⊢
  have Hl : rs.length ≤ 9223372036854775807 := by unfold maxLen at hl; omega
  have HC := Lib.hid hca
  clear hl hca
  by_cases hne : rs = []
  · subst hne
    go_enter Tryz.func76, Tryz.ntmps76
    go_wp2_with fail
    refine wp_loop_rounds 1 ?_
    rw [rounds_succ]
    go_wp2_with fail
    go_ret
    exact ⟨rfl, rfl⟩
  · obtain ⟨b, o, rfl, hb, gca⟩ := HC.out (by simpa using hne)
    have HD := Lib.hid gca
    clear gca HC hne
    go_enter Tryz.func76, Tryz.ntmps76
    go_wp2_with fail
    go_loop [3] (fun i => ∃ k : Nat, k ≤ rs.length ∧ i = .int .i64 k ∧ Hid ((rs.take k).all (isSet 8) = true)) (fun i => rs.length - (intOf i).toNat)
    case atStart => exact ⟨0, Nat.zero_le _, rfl, Lib.hid (by simp)⟩
    case round =>
      obtain ⟨k, hk, rfl, hall⟩ := hrel
      by_cases hlt : k < rs.length
      · have c2 : w.cell? ⟨b, o + k, none⟩ = some (.int .i64 (rs.getD k 0)) := by rw [HD.out k hlt, ints_get rs k hlt]
        cases hs : isSet 8 (rs.getD k 0) with
        | true =>
          have HS := Lib.hid (all_step hlt hall.out hs)
          generalize rs.getD k 0 = x at c2 hs
          go_wp2_with fail
          refine (spec_isSet _ _ _).mono ?_
          rintro e w' ⟨rfl, rfl⟩
          rw [hs]
          go_wp2_with fail
          go_round
          case rel => exact ⟨k + 1, by omega, by simp, HS⟩
          case measure => simp [intOf]; omega
        | false =>
          have HS := Lib.hid (all_bad hlt hs)
          generalize rs.getD k 0 = x at c2 hs
          go_wp2_with fail
          refine (spec_isSet _ _ _).mono ?_
          rintro e w' ⟨rfl, rfl⟩
          rw [hs]
          go_wp2_with fail
          go_ret
          exact ⟨by rw [HS.out]; rfl, rfl⟩
      · have HA : Hid (allSets rs = true) := Lib.hid (by have := hall.out; rwa [List.take_of_length_le (by omega)] at this)
        go_wp2_with fail
        go_ret
        exact ⟨by rw [HA.out]; rfl, rfl⟩
set_option maxHeartbeats 400000 in
theorem areAllSets (v : Value) (rs : List Int) (B : Nat) (w : World) (hr : Reads w B v (ints rs)) :
    Calls Tryz.prog 73 #[v] w fun e w' => e = .returned (.bool (allSets rs)) ∧ w' = w := by
  obtain ⟨hl, aa, ca, rfl, hca⟩ := hr
  simp only [ints, List.length_map] at hl hca ⊢
  have Hl : rs.length ≤ 9223372036854775807 := by unfold maxLen at hl; omega
  have HC := Lib.hid hca
  clear hl hca
  by_cases hne : rs = []
  · subst hne
    go_enter Tryz.func73, Tryz.ntmps73
    go_wp2_with fail
    refine wp_loop_rounds 1 ?_
    rw [rounds_succ]
    go_wp2_with fail
    go_ret
    exact ⟨rfl, rfl⟩
  · obtain ⟨b, o, rfl, hb, gca⟩ := HC.out (by simpa using hne)
    have HD := Lib.hid gca
    clear gca HC hne
    go_enter Tryz.func73, Tryz.ntmps73
    go_wp2_with fail
    go_loop [7] (fun i => ∃ k : Nat, k ≤ rs.length ∧ i = .int .i64 k ∧ Hid ((rs.take k).all (isSet 8) = true)) (fun i => rs.length - (intOf i).toNat)
    case atStart => exact ⟨0, Nat.zero_le _, rfl, Lib.hid (by simp)⟩
    case round =>
      obtain ⟨k, hk, rfl, hall⟩ := hrel
      by_cases hlt : k < rs.length
      · have c2 : w.cell? ⟨b, o + k, none⟩ = some (.int .i64 (rs.getD k 0)) := by rw [HD.out k hlt, ints_get rs k hlt]
        cases hs : isSet 8 (rs.getD k 0) with
        | true =>
          have HS := Lib.hid (all_step hlt hall.out hs)
          generalize rs.getD k 0 = x at c2 hs
          go_wp2_with fail
          refine (impl_any _ _).mono ?_
          rintro e w' ⟨rfl, rfl⟩
          rw [hs]
          go_wp2_with fail
          go_round
          case rel => exact ⟨k + 1, by omega, by simp, HS⟩
          case measure => simp [intOf]; omega
        | false =>
          have HS := Lib.hid (all_bad hlt hs)
          generalize rs.getD k 0 = x at c2 hs
          go_wp2_with fail
          refine (impl_any _ _).mono ?_
          rintro e w' ⟨rfl, rfl⟩
          rw [hs]
          go_wp2_with fail
          go_ret
          exact ⟨by rw [HS.out]; rfl, rfl⟩
      · have HA : Hid (allSets rs = true) := Lib.hid (by have := hall.out; rwa [List.take_of_length_le (by omega)] at this)
        go_wp2_with fail
        go_ret
        exact ⟨by rw [HA.out]; rfl, rfl⟩


end Go.Proofs.YtkdnjebjbadloaaGreatDoor.Sets2
