/-
  ParseSet of the program and of the model: the set whose text is the argument, if there is one.
-/
import Derived.Test.YtmdpiikffnfnbaaGreatDoorParseS
import Derived.Test.YtmdpiikffnfnbaaGreatDoorShelfIndex
namespace Go.Proofs.YtmdpiikffnfnbaaGreatDoor.Parse
open Go Go.RowKit Mem Sets Elems Text
set_option maxRecDepth 100000
theorem idx_good {x : UInt8} (h : 97 ≤ x.toNat ∧ x.toNat ≤ 104) : Lib.indexByte [97, 98, 99, 100, 101, 102, 103, 104] x = ((x.toNat - 97 : Nat) : Int) := by
  rcases letter h with rfl | rfl | rfl | rfl | rfl | rfl | rfl | rfl <;> decide
theorem idx_bad {x : UInt8} (h : ¬ (97 ≤ x.toNat ∧ x.toNat ≤ 104)) : Lib.indexByte [97, 98, 99, 100, 101, 102, 103, 104] x = -1 := by
  have e : ∀ c : UInt8, 97 ≤ c.toNat → c.toNat ≤ 104 → (c == x) = false := by
    intro c h1 h2
    rw [beq_eq_false_iff_ne]
    rintro rfl
    exact h ⟨h1, h2⟩
  simp only [Lib.indexByte, e 97 (by decide) (by decide), e 98 (by decide) (by decide), e 99 (by decide) (by decide), e 100 (by decide) (by decide), e 101 (by decide) (by decide), e 102 (by decide) (by decide), e 103 (by decide) (by decide), e 104 (by decide) (by decide), Bool.false_eq_true, if_false, beq_self_eq_true, if_true]

theorem idx_walk (x : UInt8) (r : Int) (h : Lib.indexByte [97, 98, 99, 100, 101, 102, 103, 104] x = r) :
    Lib.indexByte (⟨#[97, 98, 99, 100, 101, 102, 103, 104]⟩ : ByteArray).data.toList ((x.toNat : Int).toNat.toUInt8) = r := by
  rw [Int.toNat_natCast, show x.toNat.toUInt8 = x from UInt8.ofNat_toNat]
  exact h

set_option maxRecDepth 100000 in
set_option maxHeartbeats 800000 in
theorem impl_parse (l : List UInt8) (hl : l.length ≤ 1048576) (w : World) :
    Calls Tryz.prog 70 #[.string ⟨l.toArray⟩] w (Post l w) := by
  have hcut : (⟨l.toArray⟩ : ByteArray).size = l.length := by simp [ByteArray.size]
  go_enter Tryz.func70, Tryz.ntmps70
  go_wp2_with fail
  go_loopw [4, 9] (fun t i wr => ∃ (k m : Nat), k ≤ l.length ∧ i = .int .i64 k ∧ t = .int .i64 m ∧ m = fold (l.take k) ∧ wr = w) (fun _ i _ => l.length - (intOf i).toNat)
  case atStart => exact ⟨0, 0, by omega, rfl, rfl, by simp [fold], rfl⟩
  case round =>
    obtain ⟨k, m, hk, rfl, rfl, hm, rfl⟩ := hrel
    have hm256 : m < 256 := by rw [hm]; exact fold_lt _
    by_cases hlt : k < l.length
    · have hk' : k < (⟨l.toArray⟩ : ByteArray).size := by rw [hcut]; exact hlt
      have hget : (⟨l.toArray⟩ : ByteArray)[k] = l[k] := rfl
      have hst := fold_take l k hlt
      rw [← hm] at hst
      have HS := Lib.hid hst
      by_cases hc : 97 ≤ (l[k]).toNat ∧ (l[k]).toNat ≤ 104
      · have HI := Lib.hid (idx_good hc)
        have HC := Lib.hid hc
        have ho := or_bit m l[k] hm256 hc
        have hj : (l[k]).toNat - 97 ≤ 7 := by omega
        generalize hj1 : (l[k]).toNat - 97 = j at HI ho hj
        have HO := Lib.hid ho
        clear hst hm hc ho hj1
        go_wp2_with fail
        refine (Tryz.strings_IndexByte _ _ _).mono ?_
        rintro e w' ⟨rfl, rfl⟩
        rw [idx_walk l[k] _ HI.out]
        go_wp2_with fail
        refine ⟨⟨k + 1, acc m l[k], by omega, by simp, HO.out, HS.out.symm, trivial⟩, by simp [intOf]; omega⟩
      · have HI := Lib.hid (idx_bad hc)
        have HA : Hid (acc m l[k] = m) := Lib.hid (by rw [acc, if_neg hc])
        clear hst hm hc
        go_wp2_with fail
        refine (Tryz.strings_IndexByte _ _ _).mono ?_
        rintro e w' ⟨rfl, rfl⟩
        rw [idx_walk l[k] _ HI.out]
        go_wp2_with fail
        refine ⟨⟨k + 1, m, by omega, by simp, rfl, HA.out.symm.trans HS.out.symm, trivial⟩, by simp [intOf]; omega⟩
    · have hkn : k = l.length := by omega
      rw [hkn, List.take_length] at hm
      have HM := Lib.hid hm
      have hx := setText_le (m : Int)
      by_cases hq : setText (m : Int) = l
      · have hq1 : (setText (m : Int) == l) = true := by simpa using hq
        have hp : parse l = some (m : Int) := by rw [parse, ← hm, if_pos hq]
        have HP := Lib.hid hp
        have HT := Lib.hid (impl_text (m : Int))
        clear hm hp hq
        generalize setText (m : Int) = t at hx hq1 HT
        go_wp2_with fail
        refine (HT.out _).mono ?_
        rintro e w1 ⟨rfl, b1⟩
        go_wp2_with fail
        go_ret2
        exact ⟨by rw [HP.out]; rfl, b1⟩
      · have hq1 : (setText (m : Int) == l) = false := by simpa using hq
        have hp : parse l = none := by rw [parse, ← hm, if_neg hq]
        have HP := Lib.hid hp
        have HT := Lib.hid (impl_text (m : Int))
        clear hm hp hq
        generalize setText (m : Int) = t at hx hq1 HT
        go_wp2_with fail
        refine (HT.out _).mono ?_
        rintro e w1 ⟨rfl, b1⟩
        go_wp2_with fail
        go_ret2
        exact ⟨by rw [HP.out]; rfl, b1⟩
end Go.Proofs.YtmdpiikffnfnbaaGreatDoor.Parse
