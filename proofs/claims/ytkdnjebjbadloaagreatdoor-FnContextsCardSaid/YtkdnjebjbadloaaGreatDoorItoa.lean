/-
  FormatInt of the program returns the decimal numeral of every int (by the library's contract of strconv.Itoa). Condition: the table internal/strconv.uint64pow10 holds what the library's text lays.
-/
import Derived.Test.YtkdnjebjbadloaaGreatDoorShelfItoa
import Derived.WalkKit
import Derived.Outline
import Derived.Lib.AppendIntMem
import Derived.Lib.LaidTab
import Derived.Lib.Hide
import Derived.LaidMore
import Derived.Stop.LaidErr
import Derived.Below
namespace Go.Proofs.YtkdnjebjbadloaaGreatDoor.Itoa
open Go Go.RowKit
set_option maxRecDepth 100000

theorem gTab : Tryz.prog.globalNamed "internal/strconv.uint64pow10" = some 4 := by kernel_rfl
theorem gTabType : (Tryz.prog.globals[4]?).map (·.type) = some 152 := by kernel_rfl
theorem cellsT : Tryz.prog.cellsOf 152 = 20 := by kernel_rfl
theorem cellsE : Tryz.prog.cellsOf 135 = 1 := by kernel_rfl

/-- The table of powers is there. -/
def Pow (w : World) : Prop := Lib.TabIs Tryz.prog w "internal/strconv.uint64pow10" .u64 Lib.pow10Tab ∧ 4 < w.heap.size

theorem Pow.of (w : World) (h : Lib.TabIs Tryz.prog w "internal/strconv.uint64pow10" .u64 Lib.pow10Tab) : Pow w := by
  refine ⟨h, ?_⟩
  have h1 := h
  unfold Lib.TabIs World.var? at h1
  rw [gTab] at h1
  simp only [Option.bind_some] at h1
  rcases Nat.lt_or_ge 4 w.heap.size with hlt | hge
  · exact hlt
  · rw [Array.getElem?_eq_none hge] at h1
    cases h1

theorem Pow.below {w w' : World} {B : Nat} (h : Pow w) (hb : Below B w w') (hB : 4 < B) : Pow w' := by
  refine ⟨?_, Nat.lt_of_lt_of_le h.2 hb.size⟩
  have h1 := h.1
  unfold Lib.TabIs World.var? at h1 ⊢
  rw [gTab] at h1 ⊢
  simp only [Option.bind_some] at h1 ⊢
  rw [hb.block _ hB]
  exact h1

theorem impl_format (n : Int) (h0 : -9223372036854775808 ≤ n) (h1 : n ≤ 9223372036854775807) (w : World) (ht : Pow w) :
    Calls Tryz.prog 50 #[.int .i64 n] w fun e w' => e = .returned (.string ⟨(Lib.itoa n).toArray⟩) ∧ Below w.heap.size w w' := by
  have Ht := Lib.hid ht
  clear ht
  go_enter Tryz.func50, Tryz.ntmps50
  go_wp2_with fail
  refine (Tryz.strconv_Itoa n h0 h1 _ Ht.out.1).mono ?_
  rintro e w1 ⟨rfl, k, os, rfl⟩
  go_wp2_with fail
  go_ret
  exact ⟨rfl, Lib.below_grow _ _ (Nat.le_refl _) _ _⟩
end Go.Proofs.YtkdnjebjbadloaaGreatDoor.Itoa
