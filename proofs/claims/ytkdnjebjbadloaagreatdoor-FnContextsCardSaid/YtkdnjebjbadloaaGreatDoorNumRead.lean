/-
  The model's readers of numerals (l1Read, ParseNumber, ParseInt): what they return for every string of at most 2 million bytes.
-/
import Derived.Test.YtkdnjebjbadloaaGreatDoorProg
import Derived.Test.YtkdnjebjbadloaaGreatDoorNum
import Derived.Test.YtkdnjebjbadloaaGreatDoorNumPure
import Derived.WalkKit
import Derived.Outline
import Derived.LoopTactic
import Derived.BigQuiet
import Derived.Deep.QuietTactic
import Derived.Lib.Hide
import Derived.Below
namespace Go.Proofs.YtkdnjebjbadloaaGreatDoor.NumRead
open Go Go.RowKit
set_option maxRecDepth 100000

theorem cut_one (r : List UInt8) : (⟨(45 :: r).toArray⟩ : ByteArray).extract 1 (r.length + 1) = ⟨r.toArray⟩ := by
  apply ByteArray.ext
  simp
/-- The first k digits spell n. -/
def Spelt (r : List UInt8) (k n : Nat) : Prop := Lib.decFrom 0 (r.take k) = some n

theorem Spelt.lt {r : List UInt8} {k n : Nat} (h : Spelt r k n) (hk : k ≤ r.length) : n < 10 ^ k := by
  have := Lib.decFrom_lt _ 0 n h
  rw [List.length_take, Nat.min_eq_left hk] at this
  omega
theorem Spelt.step {r : List UInt8} {k n : Nat} (h : Spelt r k n) (hk : k < r.length) (h1 : 48 ≤ r[k].toNat) (h2 : r[k].toNat ≤ 57) : Spelt r (k + 1) (10 * n + (r[k].toNat - 48)) := by
  unfold Spelt
  rw [Lib.decFrom_take r k 0 n r[k] (r[k].toNat - 48) h (List.getElem?_eq_getElem hk) (by rw [Lib.digitVal, if_pos ⟨h1, h2⟩])]
  rw [Nat.mul_comm]

theorem Spelt.none {r : List UInt8} {k n : Nat} (h : Spelt r k n) (hk : k < r.length) (hd : ¬ (48 ≤ r[k].toNat ∧ r[k].toNat ≤ 57)) : Lib.decFrom 0 r = none := by
  have hr : r = r.take k ++ r[k] :: r.drop (k + 1) := by rw [← List.drop_eq_getElem_cons hk, List.take_append_drop]
  rw [hr, NumPure.decFrom_append, show Lib.decFrom 0 (r.take k) = some n from h, Option.bind_some, Lib.decFrom, Lib.digitVal, if_neg hd]
theorem not_digit {b : UInt8} (hd : ¬ (48 ≤ b.toNat ∧ b.toNat ≤ 57)) : ((b.toNat : Int) < 48 ∧ decide ((b.toNat : Int) < 48) = true) ∨ (48 ≤ (b.toNat : Int) ∧ decide ((b.toNat : Int) < 48) = false ∧ decide ((57 : Int) < (b.toNat : Int)) = true) := by
  by_cases h : b.toNat < 48
  · left; refine ⟨by omega, by simp; omega⟩
  · right; refine ⟨by omega, by simp; omega, by simp; omega⟩
def RdPost (l : List UInt8) (most : Nat) (w : World) (e : Ending) (w' : World) : Prop :=
  e = .returned (.tuple #[.int .i64 ((NumPure.rd l most).getD 0), .bool (NumPure.rd l most).isSome]) ∧ Below w.heap.size w w'

set_option maxRecDepth 100000 in
set_option maxHeartbeats 400000 in
theorem read_empty (most : Nat) (w : World) :
    Calls Tryz.prog 69 #[.string ⟨([] : List UInt8).toArray⟩, .int .i64 most] w (RdPost [] most w) := by
  go_enter Tryz.func69, Tryz.ntmps69
  go_wp2
  go_ret2
  exact ⟨rfl, Below.refl _ _⟩

set_option maxRecDepth 100000 in
set_option maxHeartbeats 400000 in
theorem read_neg (r : List UInt8) (hr : r.length ≤ 2000000) (most : Nat) (h1 : 1 ≤ most) (h12 : most ≤ 12) (w : World) :
    Calls Tryz.prog 69 #[.string ⟨(45 :: r).toArray⟩, .int .i64 most] w (RdPost (45 :: r) most w) := by
  by_cases hlen : r.length < 1 ∨ most < r.length
  · have Hr : Hid (NumPure.rd (45 :: r) most = none) := Lib.hid (by rw [NumPure.rd, if_pos (by rfl), List.tail_cons, NumPure.decTail, if_pos hlen]; rfl)
    rcases hlen with hlen | hlen
    all_goals
      go_enter Tryz.func69, Tryz.ntmps69
      go_wp2
      go_ret2
      exact ⟨by rw [Hr.out]; rfl, Below.refl _ _⟩
  · have hlen1 : 1 ≤ r.length := by omega
    have hlen2 : r.length ≤ most := by omega
    clear hlen
    have hb1 : decide ((r.length : Int) < 1) = false := by simp; omega
    have hb2 : decide (most < r.length) = false := by simp; omega
    go_enter Tryz.func69, Tryz.ntmps69
    go_wp2
    rw [cut_one r]
    have hcut : (⟨r.toArray⟩ : ByteArray).size = r.length := by simp [ByteArray.size]
    go_loopw [8, 9] (fun t i wr => ∃ (k n : Nat), k ≤ r.length ∧ i = .int .i64 k ∧ t = .int .i64 n ∧ Spelt r k n ∧ wr = w) (fun _ i _ => r.length - (intOf i).toNat)
    case atStart => exact ⟨0, 0, by omega, rfl, rfl, by simp [Spelt, Lib.decFrom], rfl⟩
    case round =>
      obtain ⟨k, n, hk, rfl, rfl, hI, rfl⟩ := hrel
      clear hb1 hb2
      have hn := Spelt.lt hI hk
      have hp : 10 ^ r.length ≤ 10 ^ 12 := Nat.pow_le_pow_right (by omega) (by omega)
      have hn12 : (n : Int) < 1000000000000 := by
        have : 10 ^ k ≤ 10 ^ r.length := Nat.pow_le_pow_right (by omega) hk
        omega
      clear hn hp
      by_cases hlt : k < r.length
      · have hk' : k < (⟨r.toArray⟩ : ByteArray).size := by rw [hcut]; exact hlt
        have hget : (⟨r.toArray⟩ : ByteArray)[k] = r[k] := rfl
        by_cases hd : 48 ≤ (⟨r.toArray⟩ : ByteArray)[k].toNat ∧ (⟨r.toArray⟩ : ByteArray)[k].toNat ≤ 57
        · obtain ⟨hd1, hd2⟩ := hd
          have hd3 : decide (((⟨r.toArray⟩ : ByteArray)[k].toNat : Int) < 48) = false := by simp; omega
          have hd4 : decide ((57 : Int) < ((⟨r.toArray⟩ : ByteArray)[k].toNat : Int)) = false := by simp; omega
          have Hs := Lib.hid (hI.step hlt (by rw [← hget]; exact hd1) (by rw [← hget]; exact hd2))
          have Hg := Lib.hid hget
          clear hget
          go_wp2
          go_roundw
          case rel =>
            refine ⟨k + 1, 10 * n + (r[k].toNat - 48), by omega, by go_num, ?_, Hs.out, trivial⟩
            rw [Hg.out] at hd1 ⊢
            congr 1
            omega
          case measure => simp [intOf]; omega
        · have Hr : Hid (NumPure.rd (45 :: r) most = none) := Lib.hid (by
            rw [NumPure.rd, if_pos (by rfl), List.tail_cons, NumPure.decTail, if_neg (by omega), hI.none hlt (by rw [← hget]; exact hd)]; rfl)
          clear hget
          rcases not_digit hd with ⟨hd1, hd3⟩ | ⟨hd1, hd3, hd4⟩
          all_goals
            clear hd
            go_wp2
            go_ret2
            exact ⟨by rw [Hr.out]; rfl, Below.refl _ _⟩
      · have hall : NumPure.decTail r most = some n := by
          rw [NumPure.decTail, if_neg (by omega)]
          have := hI
          unfold Spelt at this
          rw [List.take_of_length_le (by omega)] at this
          exact this
        have Hall := Lib.hid hall
        clear hall
        obtain rfl : k = r.length := by omega
        have Hw : Hid (wrap64 (-(n : Int)) = -(n : Int)) := Lib.hid (IntWalk.wrap64_in _ ⟨by omega, by omega⟩)
        have Hb1 : Hid (-9223372036854775808 ≤ -(n : Int)) := Lib.hid (by omega)
        have Hb2 : Hid (-(n : Int) ≤ 9223372036854775807) := Lib.hid (by omega)
        clear hlt hk hn12
        by_cases he : Lib.itoa (-(n : Int)) = 45 :: r
        · have Hr : Hid (NumPure.rd (45 :: r) most = some (-(n : Int))) := Lib.hid (by
            rw [NumPure.rd, if_pos (by rfl), List.tail_cons, Hall.out, Option.bind_some, if_pos he])
          have he2 : (Lib.itoa (-(n : Int)) == 45 :: r) = true := by simpa using he
          clear he
          go_wp2_with fail
          rw [Hw.out]
          refine (Num.spec_format (-(n : Int)) Hb1.out Hb2.out _).mono ?_
          rintro e w1 ⟨rfl, hb1⟩
          go_wp2_with fail
          go_ret2
          exact ⟨by rw [Hr.out]; rfl, hb1⟩
        · have Hr : Hid (NumPure.rd (45 :: r) most = none) := Lib.hid (by
            rw [NumPure.rd, if_pos (by rfl), List.tail_cons, Hall.out, Option.bind_some, if_neg he])
          have he2 : (Lib.itoa (-(n : Int)) == 45 :: r) = false := by simpa using he
          clear he
          go_wp2_with fail
          rw [Hw.out]
          refine (Num.spec_format (-(n : Int)) Hb1.out Hb2.out _).mono ?_
          rintro e w1 ⟨rfl, hb1⟩
          go_wp2_with fail
          go_ret2
          exact ⟨by rw [Hr.out]; rfl, hb1⟩
set_option maxRecDepth 100000 in
set_option maxHeartbeats 400000 in
theorem read_pos (l : List UInt8) (hc : ¬ l.head? = some 45) (hl0 : 0 < l.length) (hr : l.length ≤ 2000000) (most : Nat) (h1 : 1 ≤ most) (h12 : most ≤ 12) (w : World) :
    Calls Tryz.prog 69 #[.string ⟨l.toArray⟩, .int .i64 most] w (RdPost l most w) := by
  have hz0 : 0 < (⟨l.toArray⟩ : ByteArray).size := by simpa [ByteArray.size] using hl0
  have hc1 : ((((⟨l.toArray⟩ : ByteArray)[0]'hz0).toNat : Int) == 45) = false := by
    have h0 : (⟨l.toArray⟩ : ByteArray)[0]'hz0 = l[0] := rfl
    rw [h0]
    have h1 : ¬ l[0].toNat = 45 := fun h => hc (by
      rw [List.head?_eq_getElem?, List.getElem?_eq_getElem hl0]
      rw [← UInt8.ofNat_toNat (x := l[0]), h]; rfl)
    rw [beq_eq_false_iff_ne]
    omega
  by_cases hlen : l.length < 1 ∨ most < l.length
  · have Hr : Hid (NumPure.rd l most = none) := Lib.hid (by rw [NumPure.rd, if_neg (hc), NumPure.decTail, if_pos hlen]; rfl)
    rcases hlen with hlen | hlen
    · omega
    · go_enter Tryz.func69, Tryz.ntmps69
      go_wp2
      go_ret2
      exact ⟨by rw [Hr.out]; rfl, Below.refl _ _⟩
  · have hlen1 : 1 ≤ l.length := by omega
    have hlen2 : l.length ≤ most := by omega
    clear hlen
    have hb1 : decide ((l.length : Int) < 1) = false := by simp; omega
    have hb2 : decide (most < l.length) = false := by simp; omega
    go_enter Tryz.func69, Tryz.ntmps69
    go_wp2
    have hcut : (⟨l.toArray⟩ : ByteArray).size = l.length := by simp [ByteArray.size]
    go_loopw [8, 9] (fun t i wr => ∃ (k n : Nat), k ≤ l.length ∧ i = .int .i64 k ∧ t = .int .i64 n ∧ Spelt l k n ∧ wr = w) (fun _ i _ => l.length - (intOf i).toNat)
    case atStart => exact ⟨0, 0, by omega, rfl, rfl, by simp [Spelt, Lib.decFrom], rfl⟩
    case round =>
      obtain ⟨k, n, hk, rfl, rfl, hI, rfl⟩ := hrel
      clear hb1 hb2
      have hn := Spelt.lt hI hk
      have hp : 10 ^ l.length ≤ 10 ^ 12 := Nat.pow_le_pow_right (by omega) (by omega)
      have hn12 : (n : Int) < 1000000000000 := by
        have : 10 ^ k ≤ 10 ^ l.length := Nat.pow_le_pow_right (by omega) hk
        omega
      clear hn hp
      by_cases hlt : k < l.length
      · have hk' : k < (⟨l.toArray⟩ : ByteArray).size := by rw [hcut]; exact hlt
        have hget : (⟨l.toArray⟩ : ByteArray)[k] = l[k] := rfl
        by_cases hd : 48 ≤ (⟨l.toArray⟩ : ByteArray)[k].toNat ∧ (⟨l.toArray⟩ : ByteArray)[k].toNat ≤ 57
        · obtain ⟨hd1, hd2⟩ := hd
          have hd3 : decide (((⟨l.toArray⟩ : ByteArray)[k].toNat : Int) < 48) = false := by simp; omega
          have hd4 : decide ((57 : Int) < ((⟨l.toArray⟩ : ByteArray)[k].toNat : Int)) = false := by simp; omega
          have Hs := Lib.hid (hI.step hlt (by rw [← hget]; exact hd1) (by rw [← hget]; exact hd2))
          have Hg := Lib.hid hget
          clear hget
          go_wp2
          go_roundw
          case rel =>
            refine ⟨k + 1, 10 * n + (l[k].toNat - 48), by omega, by go_num, ?_, Hs.out, trivial⟩
            rw [Hg.out] at hd1 ⊢
            congr 1
            omega
          case measure => simp [intOf]; omega
        · have Hr : Hid (NumPure.rd l most = none) := Lib.hid (by
            rw [NumPure.rd, if_neg (hc), NumPure.decTail, if_neg (by omega), hI.none hlt (by rw [← hget]; exact hd)]; rfl)
          clear hget
          rcases not_digit hd with ⟨hd1, hd3⟩ | ⟨hd1, hd3, hd4⟩
          all_goals
            clear hd
            go_wp2
            go_ret2
            exact ⟨by rw [Hr.out]; rfl, Below.refl _ _⟩
      · have hall : NumPure.decTail l most = some n := by
          rw [NumPure.decTail, if_neg (by omega)]
          have := hI
          unfold Spelt at this
          rw [List.take_of_length_le (by omega)] at this
          exact this
        have Hall := Lib.hid hall
        clear hall
        obtain rfl : k = l.length := by omega
        have Hb1 : Hid (-9223372036854775808 ≤ (n : Int)) := Lib.hid (by omega)
        have Hb2 : Hid ((n : Int) ≤ 9223372036854775807) := Lib.hid (by omega)
        clear hlt hk hn12
        by_cases he : Lib.itoa ((n : Int)) = l
        · have Hr : Hid (NumPure.rd l most = some ((n : Int))) := Lib.hid (by
            rw [NumPure.rd, if_neg (hc), Hall.out, Option.bind_some, if_pos he])
          have he2 : (Lib.itoa ((n : Int)) == l) = true := by simpa using he
          clear he
          go_wp2_with fail
          refine (Num.spec_format ((n : Int)) Hb1.out Hb2.out _).mono ?_
          rintro e w1 ⟨rfl, hb1⟩
          go_wp2_with fail
          go_ret2
          exact ⟨by rw [Hr.out]; rfl, hb1⟩
        · have Hr : Hid (NumPure.rd l most = none) := Lib.hid (by
            rw [NumPure.rd, if_neg (hc), Hall.out, Option.bind_some, if_neg he])
          have he2 : (Lib.itoa ((n : Int)) == l) = false := by simpa using he
          clear he
          go_wp2_with fail
          refine (Num.spec_format ((n : Int)) Hb1.out Hb2.out _).mono ?_
          rintro e w1 ⟨rfl, hb1⟩
          go_wp2_with fail
          go_ret2
          exact ⟨by rw [Hr.out]; rfl, hb1⟩

theorem read_any (l : List UInt8) (hl : l.length ≤ 2000000) (most : Nat) (h1 : 1 ≤ most) (h12 : most ≤ 12) (w : World) :
    Calls Tryz.prog 69 #[.string ⟨l.toArray⟩, .int .i64 most] w (RdPost l most w) := by
  match l, hl with
  | [], _ => exact read_empty most w
  | c :: r, hl =>
    by_cases hc : c = 45
    · subst hc
      exact read_neg r (by simp at hl; omega) most h1 h12 w
    · exact read_pos (c :: r) (by simpa using hc) (by simp) hl most h1 h12 w

/-- What ParseInt of the model returns. -/
def IntPost (l : List UInt8) (w : World) (e : Ending) (w' : World) : Prop := RdPost l 12 w e w'
theorem spec_int (l : List UInt8) (hl : l.length ≤ 2000000) (w : World) :
    Calls Tryz.prog 41 #[.string ⟨l.toArray⟩] w (IntPost l w) := by
  go_enter Tryz.func41, Tryz.ntmps41
  go_wp2_with fail
  refine (read_any l hl 12 (by omega) (by omega) _).mono ?_
  rintro e w1 ⟨rfl, hb1⟩
  generalize hx : NumPure.rd l 12 = x
  have Hx := Lib.hid hx
  clear hx
  go_wp2_with fail
  go_ret2
  exact ⟨by rw [Hx.out]; rfl, hb1⟩

/-- What ParseNumber of the model computes. -/
def rdNum (l : List UInt8) : Option Int := (NumPure.rd l 6).filter fun v => decide (0 ≤ v)
def NumPost (l : List UInt8) (w : World) (e : Ending) (w' : World) : Prop :=
  e = .returned (.tuple #[.int .i64 ((rdNum l).getD 0), .bool (rdNum l).isSome]) ∧ Below w.heap.size w w'
end Go.Proofs.YtkdnjebjbadloaaGreatDoor.NumRead
