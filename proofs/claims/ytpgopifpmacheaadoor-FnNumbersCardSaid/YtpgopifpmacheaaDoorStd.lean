/-
  What the rows that list the table of powers and the two errors of strconv give: the table and both errors are there.
-/
import Derived.Test.YtpgopifpmacheaaDoorRows
import Derived.Test.YtpgopifpmacheaaDoorNumParse
import Derived.LaidMore
import Derived.Stop.LaidErr
import Derived.Lib.LaidTab
namespace Go.Proofs.YtpgopifpmacheaaDoor.StdRow
open Go Go.RowKit
theorem star : "*" ++ "errors.errorString" = "*errors.errorString" := by decide
theorem rowS (u : TypeId) (h : Tryd.prog.typeName? 3 u = some "*errors.errorString") : u = 98 :=
  typeName_ptr_named (nm := "errors.errorString") (by rw [star]; kernel_rfl) (by kernel_rfl) (by decide) u (by rw [star]; exact h)
theorem gSynT : (Tryd.prog.globals[1]?).map (·.type) = some 48 := by kernel_rfl
theorem gRngT : (Tryd.prog.globals[2]?).map (·.type) = some 48 := by kernel_rfl
theorem cellsS : Tryd.prog.cellsOf 100 = 1 := by kernel_rfl
theorem cellsT : Tryd.prog.cellsOf 9 = 1 := by kernel_rfl
/-- The list that these rows bear. -/
theorem std {W : World} (h : laidMetH Tryd.prog [("math/bits.deBruijn32tab", Rows.laid_math_bits_deBruijn32tab), ("math/bits.deBruijn64tab", Rows.laid_math_bits_deBruijn64tab), ("internal/strconv.uint64pow10", Rows.laid_internal_strconv_uint64pow10), ("strconv.ErrRange", Rows.laid_strconv_ErrRange), ("strconv.ErrSyntax", Rows.laid_strconv_ErrSyntax)] W) : NumParse.Std W := by
  rw [MakeChecks.laidMetH_plain _ _ _ (by kernel_rfl)] at h
  have hp := Itoa.Pow.of W (Lib.tabIs_of_head (rest := [("strconv.ErrRange", Rows.laid_strconv_ErrRange), ("strconv.ErrSyntax", Rows.laid_strconv_ErrSyntax)]) Itoa.gTab Itoa.gTabType Tryd.underlying84 Tryd.underlying64 Itoa.cellsE Itoa.cellsT h.tail.tail)
  obtain ⟨a0, s0, hv0, _, _, _⟩ := laid_sentinel h.tail.tail.tail NumParse.gRng gRngT Tryd.underlying48 rowS Tryd.underlying98 Tryd.underlying100 rfl rfl Tryd.underlying9 cellsS cellsT
  obtain ⟨a1, s1, hv1, _, _, _⟩ := laid_sentinel h.tail.tail.tail.tail NumParse.gSyn gSynT Tryd.underlying48 rowS Tryd.underlying98 Tryd.underlying100 rfl rfl Tryd.underlying9 cellsS cellsT
  exact ⟨hp, ⟨_, _, hv1⟩, ⟨_, _, hv0⟩⟩
end Go.Proofs.YtpgopifpmacheaaDoor.StdRow
