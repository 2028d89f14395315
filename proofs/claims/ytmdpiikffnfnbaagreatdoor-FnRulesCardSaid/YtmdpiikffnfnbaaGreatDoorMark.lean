/-
  The laws' own markText: a text for each number, the letter m and the digits.
-/
import Derived.Test.YtmdpiikffnfnbaaGreatDoorProg
import Derived.Test.YtmdpiikffnfnbaaGreatDoorOwn
import Derived.WalkKit
import Derived.Outline
import Derived.LoopTactic
import Derived.Lib.Hide
import Derived.Laws.BytesArg
namespace Go.Proofs.YtmdpiikffnfnbaaGreatDoor.Mark
open Go Go.RowKit Mem
set_option maxRecDepth 100000

/-- The digits of u, none for 0. -/
def digs (u : Nat) : List UInt8 := if u = 0 then [] else digs (u / 10) ++ [UInt8.ofNat (48 + u % 10)]
termination_by u
decreasing_by omega
theorem digs_pos (u : Nat) (h : 0 < u) : digs u = digs (u / 10) ++ [UInt8.ofNat (48 + u % 10)] := by rw [digs, if_neg (by omega)]
theorem digs_zero : digs 0 = [] := by rw [digs]; rfl
theorem digs_len : ∀ (f u : Nat), u < 10 ^ f → (digs u).length ≤ f
  | 0, u, h => by have : u = 0 := by omega
                  subst this; rw [digs_zero]; exact Nat.le_refl _
  | f + 1, u, h => by
    by_cases h0 : u = 0
    · subst h0; rw [digs_zero]; exact Nat.zero_le _
    · rw [digs_pos u (by omega), List.length_append]
      have := digs_len f (u / 10) (by rw [Nat.pow_succ] at h; omega)
      simp only [List.length_cons, List.length_nil]
      omega
/-- The text of k. -/
def mt (k : Nat) : List UInt8 := 109 :: digs k
theorem one_byte (v : Int) (w : World) :
    (convert 22 9 (.slice (some ⟨w.heap.size, 0, none⟩) 1 1)).run Tryz.prog (w.alloc (.cells #[.int .u8 v] 5)) = .ok (.string ⟨#[UInt8.ofNat v.toNat]⟩) (w.alloc (.cells #[.int .u8 v] 5)) := by
  have h := run_convert_bytes_arg (P := Tryz.prog) (w.alloc (.cells #[.int .u8 v] 5)) 22 5 Tryz.underlying22 Tryz.underlying5 w.heap.size 0 1 1 [v] rfl (fun i hi => by
    obtain rfl : i = 0 := by omega
    simp) 9 Tryz.underlying9
  rw [h]
  rfl
theorem cat_bytes (c : UInt8) (l : List UInt8) : (⟨#[c]⟩ : ByteArray) ++ ⟨l.toArray⟩ = ⟨(c :: l).toArray⟩ := by
  apply ByteArray.ext
  simp [ByteArray.data_append]

end Go.Proofs.YtmdpiikffnfnbaaGreatDoor.Mark
