/-
  What the row of FnContexts lists gives: the table of powers, both errors of strconv, and errors.errorType's handle; and a start at which all of it is laid.
-/
import Derived.Test.YtkdnjebjbadloaaGreatDoorRows
import Derived.Test.YtkdnjebjbadloaaGreatDoorNumParse
import Derived.Test.YtkdnjebjbadloaaGreatDoorAs
import Derived.LaidMore
import Derived.Stop.LaidErr
import Derived.Lib.LaidTab
import Derived.LaidSub
import Derived.LaidHandle
import Derived.Lay
namespace Go.Proofs.YtkdnjebjbadloaaGreatDoor.StdHc
open Go Go.RowKit
set_option maxRecDepth 100000
theorem star : "*" ++ "errors.errorString" = "*errors.errorString" := by decide
theorem rowS (u : TypeId) (h : Tryz.prog.typeName? 3 u = some "*errors.errorString") : u = 157 :=
  typeName_ptr_named (nm := "errors.errorString") (by rw [star]; kernel_rfl) (by kernel_rfl) (by decide) u (by rw [star]; exact h)
theorem gSynT : (Tryz.prog.globals[2]?).map (·.type) = some 56 := by kernel_rfl
theorem gRngT : (Tryz.prog.globals[3]?).map (·.type) = some 56 := by kernel_rfl
theorem cellsS : Tryz.prog.cellsOf 159 = 1 := by kernel_rfl
theorem cellsT : Tryz.prog.cellsOf 9 = 1 := by kernel_rfl
theorem gErr : Tryz.prog.globalNamed "errors.errorType" = some 0 := by kernel_rfl

abbrev plainL : List (String × DataW Unit) := [("math/bits.deBruijn32tab", Rows.laid_math_bits_deBruijn32tab), ("math/bits.deBruijn64tab", Rows.laid_math_bits_deBruijn64tab), ("internal/strconv.uint64pow10", Rows.laid_internal_strconv_uint64pow10), ("unicode/utf8.acceptRanges", Rows.laid_unicode_utf8_acceptRanges), ("strconv.ErrRange", Rows.laid_strconv_ErrRange), ("strconv.ErrSyntax", Rows.laid_strconv_ErrSyntax), ("unicode/utf8.first", Rows.laid_unicode_utf8_first)]
theorem plain_is : (Rows.fnContextsRow.laid.filter fun x => x.2.handleName?.isNone) = plainL := by kernel_rfl
theorem handle_is : (Rows.fnContextsRow.laid.filter fun x => x.2.handleName?.isSome) = [("errors.errorType", Rows.laid_errors_errorType)] := by kernel_rfl
theorem std {W : World} (h : laidMetH Tryz.prog Rows.fnContextsRow.laid W) : NumParse.Std W := by
  have h := (laidMetH_iff.1 h).1
  rw [plain_is] at h
  have hp := Itoa.Pow.of W (Lib.tabIs_of_head (rest := [("unicode/utf8.acceptRanges", Rows.laid_unicode_utf8_acceptRanges), ("strconv.ErrRange", Rows.laid_strconv_ErrRange), ("strconv.ErrSyntax", Rows.laid_strconv_ErrSyntax), ("unicode/utf8.first", Rows.laid_unicode_utf8_first)]) Itoa.gTab Itoa.gTabType Tryz.underlying152 Tryz.underlying135 Itoa.cellsE Itoa.cellsT h.tail.tail)
  obtain ⟨a0, s0, hv0, _, _, _⟩ := laid_sentinel h.tail.tail.tail.tail NumParse.gRng gRngT Tryz.underlying56 rowS Tryz.underlying157 Tryz.underlying159 rfl rfl Tryz.underlying9 cellsS cellsT
  obtain ⟨a1, s1, hv1, _, _, _⟩ := laid_sentinel h.tail.tail.tail.tail.tail NumParse.gSyn gSynT Tryz.underlying56 rowS Tryz.underlying157 Tryz.underlying159 rfl rfl Tryz.underlying9 cellsS cellsT
  exact ⟨hp, ⟨_, _, hv1⟩, ⟨_, _, hv0⟩⟩
theorem named_error : ((List.range Tryz.prog.types.size).all fun t => !Tryz.prog.rowNamed t [101, 114, 114, 111, 114] || t == 56) = true := by kernel_rfl
theorem handle {W : World} (h : laidMetH Tryz.prog Rows.fnContextsRow.laid W) :
    W.cell? ⟨0, 0, none⟩ = some (.iface 101 (.agg #[As.hd 56])) := by
  have h := (laidMetH_iff.1 h).2
  rw [handle_is] at h
  have h := h _ (List.mem_singleton.2 rfl)
  rw [show (Rows.laid_errors_errorType (H := Unit)).funcsIn? = none by kernel_rfl] at h
  obtain ⟨name, u, ty, hn, hu, hty, hrow, hv⟩ := h
  rw [show (Rows.laid_errors_errorType (H := Unit)).handleName? = some [101, 114, 114, 111, 114] by kernel_rfl] at hn
  rw [show (Tryz.prog.cutTypes.find? (·.1 == "internal/reflectlite.rtype")).map (·.2) = some 101 by kernel_rfl] at hu
  cases hn
  cases hu
  have he := List.all_eq_true.1 named_error ty (List.mem_range.2 hty)
  rw [hrow] at he
  have he : ty = 56 := by simpa using he
  subst he
  exact World.var?_cell gErr hv 0
/-- A start: the handle's cell, and the rest by the function. -/
noncomputable def start0 (os : Os) : World := (World.holding Tryz.prog os ⟨#[], #[], []⟩).setCell ⟨0, 0, none⟩ (.iface 101 (.agg #[As.hd 56]))
noncomputable def start (os : Os) : World := (start0 os).layVars Tryz.prog plainL
theorem start_os (os : Os) : (start os).os = os := by unfold start; rw [World.layVars_os]; rfl
theorem plain_met (os : Os) : laidMet Tryz.prog plainL (start os) := by
  have e1 : (plainL.filter fun x => (plainL.map (·.1)).contains x.1) = plainL := List.filter_eq_self.2 fun x hx => List.contains_iff_mem.2 (List.mem_map.2 ⟨x, hx, rfl⟩)
  have e2 : (plainL.filter fun x => !(plainL.map (·.1)).contains x.1) = [] := List.filter_eq_nil_iff.2 fun x hx => by rw [List.contains_iff_mem.2 (List.mem_map.2 ⟨x, hx, rfl⟩)]; simp
  exact laidMet_layVars (w0 := start0 os) (plainL.map (·.1)) [] (by rw [e1]; rfl) (by rw [e1]; kernel_rfl) (by rw [e1]; kernel_rfl) (by rw [e2]; exact LaidIn.none)
theorem met (os : Os) (args : Array Value) : laidMetH Tryz.prog Rows.fnContextsRow.laid ((start os).forCall (fun _ _ => 0) ⟨#[], args, []⟩).memory :=
  laidMetH_of_parts (by rw [plain_is]; exact (plain_met os).of_heap (by simp [World.memory, World.forCall, Input.heap])) (by rw [handle_is]; kernel_rfl)
end Go.Proofs.YtkdnjebjbadloaaGreatDoor.StdHc
