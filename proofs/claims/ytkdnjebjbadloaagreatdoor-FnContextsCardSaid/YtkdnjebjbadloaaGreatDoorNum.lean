/-
  Chapter 1's functions, one contract each: what FormatInt of the program and of the model return, for every int.
-/
import Derived.Test.YtkdnjebjbadloaaGreatDoorProg
import Derived.WalkKit
import Derived.Outline
import Derived.LoopTactic
import Derived.Lib.ItoaNum
import Derived.Lib.ItoaMem
import Derived.Lib.ItoaLen
import Derived.Lib.Hide
import Derived.Below
import Derived.Laws.BytesArg
namespace Go.Proofs.YtkdnjebjbadloaaGreatDoor.Num
open Go Go.RowKit
set_option maxRecDepth 100000

/-- The digits of u, none for 0. -/
def dd (u : Nat) : List UInt8 := if u = 0 then [] else Lib.decDigits u
theorem dd_step (u : Nat) (h : 0 < u) : dd u = dd (u / 10) ++ [UInt8.ofNat (48 + u % 10)] := by
  unfold dd
  rw [if_neg (by omega), Lib.decDigits]
  by_cases h1 : u < 10
  · rw [dif_pos h1, if_pos (by omega), show u % 10 = u by omega]; rfl
  · rw [dif_neg h1, if_neg (by omega)]
theorem dd_pos (u : Nat) (h : 0 < u) : dd u = Lib.decDigits u := by unfold dd; rw [if_neg (by omega)]

set_option maxHeartbeats 400000 in
theorem spec_format_zero (n : Int) (h : n = 0) (w : World) :
    Calls Tryz.prog 52 #[.int .i64 n] w fun e w' => e = .returned (.string ⟨(Lib.itoa n).toArray⟩) ∧ Below w.heap.size w w' := by
  have hz : ((n : Int) == 0) = true := by simp [h]
  have hr : Lib.itoa n = [48] := by rw [h]; decide +kernel
  have Hr := Lib.hid hr
  clear h hr
  go_enter Tryz.func52, Tryz.ntmps52
  go_wp2
  go_ret
  exact ⟨by rw [Hr.out]; rfl, Below.refl _ _⟩

/-- string([]byte{v}). -/
theorem one_byte (v : Int) (w : World) :
    (convert 22 9 (.slice (some ⟨w.heap.size, 0, none⟩) 1 1)).run Tryz.prog (w.alloc (.cells #[.int .u8 v] 5)) = .ok (.string ⟨#[UInt8.ofNat v.toNat]⟩) (w.alloc (.cells #[.int .u8 v] 5)) := by
  have h := run_convert_bytes_arg (P := Tryz.prog) (w.alloc (.cells #[.int .u8 v] 5)) 22 5 Tryz.underlying22 Tryz.underlying5 w.heap.size 0 1 1 [v] rfl (fun i hi => by
    obtain rfl : i = 0 := by omega
    simp) 9 Tryz.underlying9
  rw [h]
  rfl

def Inv (n m : Int) (l : List UInt8) : Prop := dd m.natAbs ++ l = dd n.natAbs
theorem inv_len {n m : Int} {l : List UInt8} (h : Inv n m l) (hn : n.natAbs ≤ 9223372036854775808) : l.length ≤ 40 := by
  have h1 : (dd n.natAbs).length ≤ 40 := by
    unfold dd
    split
    · simp
    · rw [Lib.decDigits_length]
      have := Lib.nDigits_le20 n.natAbs (by omega)
      omega
  unfold Inv at h
  rw [← h, List.length_append] at h1
  omega
theorem tmod_neg (m : Int) (h : m ≤ 0) : m.tmod 10 = -(((m.natAbs % 10 : Nat) : Int)) := by
  obtain ⟨u, rfl⟩ : ∃ u : Nat, m = -(u : Int) := ⟨m.natAbs, by omega⟩
  rw [Int.neg_tmod, Int.tmod_eq_emod_of_nonneg (by omega)]
  omega
theorem tdiv_neg (m : Int) (h : m ≤ 0) : m.tdiv 10 = -(((m.natAbs / 10 : Nat) : Int)) := by
  obtain ⟨u, rfl⟩ : ∃ u : Nat, m = -(u : Int) := ⟨m.natAbs, by omega⟩
  rw [Int.neg_tdiv, Int.tdiv_eq_ediv_of_nonneg (by omega)]
  omega
theorem inv_next {n m : Int} {l : List UInt8} {d : Nat} (h : Inv n m l) (hm : m ≤ 0) (hm0 : ¬ m = 0) (hd : d = 48 + m.natAbs % 10) : Inv n (m.tdiv 10) (UInt8.ofNat d :: l) := by
  unfold Inv at h ⊢
  rw [tdiv_neg m hm, ← h, dd_step m.natAbs (by omega), hd, Int.natAbs_neg, Int.natAbs_natCast, List.append_assoc]
  rfl
theorem cat_bytes (b : UInt8) (l : List UInt8) : (⟨#[b]⟩ ++ ⟨l.toArray⟩ : ByteArray) = ⟨(b :: l).toArray⟩ := by
  apply ByteArray.ext
  simp [ByteArray.data_append]

set_option maxRecDepth 100000 in
set_option maxHeartbeats 400000 in
theorem spec_format_pos (n : Int) (h0 : 0 < n) (h1 : n ≤ 9223372036854775807) (w : World) :
    Calls Tryz.prog 52 #[.int .i64 n] w fun e w' => e = .returned (.string ⟨(Lib.itoa n).toArray⟩) ∧ Below w.heap.size w w' := by
  have hz : ((n : Int) == 0) = false := by simp; omega
  have hn : decide (n < 0) = false := by simp; omega
  have Hi : Hid (Lib.itoa n = dd n.natAbs) := Lib.hid (by
    obtain ⟨u, rfl⟩ := Int.eq_ofNat_of_zero_le (show 0 ≤ n by omega)
    rw [Lib.itoa_nonneg, dd_pos _ (by omega)]; rfl)
  go_enter Tryz.func52, Tryz.ntmps52
  go_wp2
  go_loopw [0, 4] (fun t v wr => ∃ (m : Int) (l : List UInt8), 0 ≤ m ∧ m ≤ n ∧ t = .int .i64 m ∧ v = .string ⟨l.toArray⟩ ∧ Inv n m l ∧ Below w.heap.size w wr) (fun t _ _ => (intOf t).natAbs)
  case atStart => exact ⟨n, [], by omega, by omega, rfl, rfl, by simp [Inv], Below.refl _ _⟩
  case round =>
    obtain ⟨m, l, hm0, hm1, rfl, rfl, hI, hb⟩ := hrel
    clear hz hn
    by_cases hlt : m = 0
    · have hz : (m != 0) = false := by simp [hlt]
      have H := Lib.hid hlt
      clear hlt
      go_wp2
      go_ret
      refine ⟨?_, hb⟩
      have := hI
      unfold Inv at this
      rw [H.out, show dd (Int.natAbs 0) = [] from rfl, List.nil_append] at this
      rw [Hi.out, ← this]
      rfl
    · have hz : (m != 0) = true := by simp; omega
      have hd : decide (m % 10 < 0) = false := by simp; omega
      have kc := one_byte (48 + m % 10) wr
      have hl := inv_len hI (by omega)
      go_wp2
      refine ⟨⟨m / 10, UInt8.ofNat (48 + m % 10).toNat :: l, ?_, ?_, rfl, ?_, ?_, ?_⟩, ?_⟩
      · omega
      · omega
      · rw [cat_bytes]
      rotate_left
      · exact hb.alloc hb.size _
      · simp [intOf]; omega
      obtain ⟨u, rfl⟩ := Int.eq_ofNat_of_zero_le hm0
      have h3 := dd_step u (by omega)
      unfold Inv at hI ⊢
      rw [← hI, show (48 + (u : Int) % 10).toNat = 48 + u % 10 by omega, show ((u : Int) / 10).natAbs = u / 10 by omega, show (u : Int).natAbs = u from rfl, h3, List.append_assoc]
      rfl

set_option maxRecDepth 100000 in
set_option maxHeartbeats 400000 in
theorem spec_format_neg (n : Int) (h0 : n < 0) (h1 : -9223372036854775808 ≤ n) (w : World) :
    Calls Tryz.prog 52 #[.int .i64 n] w fun e w' => e = .returned (.string ⟨(Lib.itoa n).toArray⟩) ∧ Below w.heap.size w w' := by
  have hz : ((n : Int) == 0) = false := by simp; omega
  have hn : decide (n < 0) = true := by simp; omega
  have Hi : Hid (Lib.itoa n = 45 :: dd n.natAbs) := Lib.hid (by
    obtain ⟨u, rfl⟩ := Int.eq_negSucc_of_lt_zero h0
    rw [dd_pos _ (by simp), Lib.itoa, if_pos (by omega)])
  go_enter Tryz.func52, Tryz.ntmps52
  go_wp2
  go_loopw [0, 4] (fun t v wr => ∃ (m : Int) (l : List UInt8), m ≤ 0 ∧ n ≤ m ∧ t = .int .i64 m ∧ v = .string ⟨l.toArray⟩ ∧ Inv n m l ∧ Below w.heap.size w wr) (fun t _ _ => (intOf t).natAbs)
  case atStart => exact ⟨n, [], by omega, by omega, rfl, rfl, by simp [Inv], Below.refl _ _⟩
  case round =>
    obtain ⟨m, l, hm0, hm1, rfl, rfl, hI, hb⟩ := hrel
    clear hz hn
    have hl := inv_len hI (by omega)
    by_cases hlt : m = 0
    · have hz : (m != 0) = false := by simp [hlt]
      have H := Lib.hid hlt
      clear hlt
      go_wp2
      go_ret
      refine ⟨?_, hb⟩
      have := hI
      unfold Inv at this
      rw [H.out, show dd (Int.natAbs 0) = [] from rfl, List.nil_append] at this
      rw [Hi.out, ← this]
      exact congrArg Ending.returned (congrArg Value.string (cat_bytes 45 l))
    · have hz : (m != 0) = true := by simp; omega
      have t1 : -9 ≤ m.tmod 10 := by rw [tmod_neg m hm0]; omega
      have t2 : m.tmod 10 ≤ 0 := by rw [tmod_neg m hm0]; omega
      by_cases ht : m.tmod 10 < 0
      · have hd : decide (m.tmod 10 < 0) = true := by simp; omega
        have kc := one_byte (48 + -m.tmod 10) wr
        go_wp2
        refine ⟨⟨m.tdiv 10, UInt8.ofNat (48 + -m.tmod 10).toNat :: l, ?_, ?_, rfl, ?_, ?_, ?_⟩, ?_⟩
        · rw [tdiv_neg m hm0]; omega
        · rw [tdiv_neg m hm0]; omega
        · rw [cat_bytes]
        · exact inv_next hI hm0 (by omega) (by rw [tmod_neg m hm0]; omega)
        · exact hb.alloc hb.size _
        · show (m.tdiv 10).natAbs < m.natAbs; rw [tdiv_neg m hm0]; omega
      · have hd : decide (m.tmod 10 < 0) = false := by simp; omega
        have kc := one_byte (48 + m.tmod 10) wr
        go_wp2
        refine ⟨⟨m.tdiv 10, UInt8.ofNat (48 + m.tmod 10).toNat :: l, ?_, ?_, rfl, ?_, ?_, ?_⟩, ?_⟩
        · rw [tdiv_neg m hm0]; omega
        · rw [tdiv_neg m hm0]; omega
        · rw [cat_bytes]
        · exact inv_next hI hm0 (by omega) (by rw [tmod_neg m hm0] at ht ⊢; omega)
        · exact hb.alloc hb.size _
        · show (m.tdiv 10).natAbs < m.natAbs; rw [tdiv_neg m hm0]; omega

theorem spec_format (n : Int) (h0 : -9223372036854775808 ≤ n) (h1 : n ≤ 9223372036854775807) (w : World) :
    Calls Tryz.prog 52 #[.int .i64 n] w fun e w' => e = .returned (.string ⟨(Lib.itoa n).toArray⟩) ∧ Below w.heap.size w w' := by
  rcases Int.lt_trichotomy n 0 with h | h | h
  · exact spec_format_neg n h h0 w
  · exact spec_format_zero n h w
  · exact spec_format_pos n h h1 w
end Go.Proofs.YtkdnjebjbadloaaGreatDoor.Num
