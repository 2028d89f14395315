/-
  The laws' own markText: a text for each number, the letter m and the digits.
-/
import Derived.Test.YtbpicpapkpomhaaDoorProg
import Derived.Test.YtbpicpapkpomhaaDoorOwn
import Derived.WalkKit
import Derived.Outline
import Derived.LoopTactic
import Derived.Lib.Hide
import Derived.Laws.BytesArg
namespace Go.Proofs.YtbpicpapkpomhaaDoor.Mark
open Go Go.RowKit Mem
set_option maxRecDepth 100000

/-- The digits of u, none for 0. -/
def digs (u : Nat) : List UInt8 := if u = 0 then [] else digs (u / 10) ++ [UInt8.ofNat (48 + u % 10)]
termination_by u
decreasing_by omega
theorem digs_pos (u : Nat) (h : 0 < u) : digs u = digs (u / 10) ++ [UInt8.ofNat (48 + u % 10)] := by rw [digs, if_neg (by omega)]
theorem digs_zero : digs 0 = [] := by rw [digs]; rfl
theorem digs_len : ∀ (f u : Nat), u < 10 ^ f → (digs u).length ≤ f
  | 0, u, h => by have : u = 0 := by omega
                  subst this; rw [digs_zero]; exact Nat.le_refl _
  | f + 1, u, h => by
    by_cases h0 : u = 0
    · subst h0; rw [digs_zero]; exact Nat.zero_le _
    · rw [digs_pos u (by omega), List.length_append]
      have := digs_len f (u / 10) (by rw [Nat.pow_succ] at h; omega)
      simp only [List.length_cons, List.length_nil]
      omega
/-- The text of k. -/
def mt (k : Nat) : List UInt8 := 109 :: digs k
theorem one_byte (v : Int) (w : World) :
    (convert 22 9 (.slice (some ⟨w.heap.size, 0, none⟩) 1 1)).run Tryd.prog (w.alloc (.cells #[.int .u8 v] 5)) = .ok (.string ⟨#[UInt8.ofNat v.toNat]⟩) (w.alloc (.cells #[.int .u8 v] 5)) := by
  have h := run_convert_bytes_arg (P := Tryd.prog) (w.alloc (.cells #[.int .u8 v] 5)) 22 5 Tryd.underlying22 Tryd.underlying5 w.heap.size 0 1 1 [v] rfl (fun i hi => by
    obtain rfl : i = 0 := by omega
    simp) 9 Tryd.underlying9
  rw [h]
  rfl
theorem cat_bytes (c : UInt8) (l : List UInt8) : (⟨#[c]⟩ : ByteArray) ++ ⟨l.toArray⟩ = ⟨(c :: l).toArray⟩ := by
  apply ByteArray.ext
  simp [ByteArray.data_append]

set_option maxRecDepth 100000 in
set_option maxHeartbeats 400000 in
theorem markText (k : Nat) (h1 : 1 ≤ k) (h2 : k ≤ 4000000) (w : World) :
    Calls Tryd.prog 53 #[.int .i64 k] w fun e w' => e = .returned (.string ⟨(mt k).toArray⟩) ∧ Below w.heap.size w w' := by
  have hd : decide ((k : Int) ≤ 0) = false := by simp; omega
  go_enter Tryd.func53, Tryd.ntmps53
  go_wp2_with fail
  go_loopw [0, 3] (fun v t wr => ∃ (m : Nat) (l : List UInt8), m ≤ 4000000 ∧ v = .int .i64 m ∧ t = .string ⟨l.toArray⟩ ∧ digs m ++ l = digs k ∧ Below w.heap.size w wr) (fun v _ _ => (intOf v).toNat)
  case atStart => exact ⟨k, [], by omega, rfl, rfl, by simp, Below.refl _ _⟩
  case round =>
    obtain ⟨m, l, hm, rfl, rfl, hI, hb⟩ := hrel
    have HI := Lib.hid hI
    have hl : l.length ≤ 8 := by
      have := digs_len 8 k (by omega)
      rw [← hI, List.length_append] at this
      omega
    clear hI
    by_cases h0 : 0 < m
    · have kc := one_byte (48 + (m : Int) % 10) wr
      go_wp2
      refine ⟨⟨m / 10, UInt8.ofNat (48 + (m : Int) % 10).toNat :: l, by omega, by simp, by rw [cat_bytes, show (48 + (m : Int) % 10).toNat = 48 + m % 10 by omega, UInt8.ofNat_add]; rfl, ?_, hb.alloc hb.size _⟩, by simp [intOf]; omega⟩
      rw [← HI.out, digs_pos m h0, show (48 + (m : Int) % 10).toNat = 48 + m % 10 by omega]
      simp
    · have hm0 : m = 0 := by omega
      subst hm0
      go_wp2
      go_ret
      refine ⟨?_, hb⟩
      have := HI.out
      rw [digs_zero, List.nil_append] at this
      rw [mt, ← this, ← cat_bytes]
      rfl
end Go.Proofs.YtbpicpapkpomhaaDoor.Mark
