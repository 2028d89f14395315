/-
  Chapter 7 of the model: ReduceContext.
-/
import Derived.Test.YtlomfgbmijhgiaaRedS3
namespace Go.Proofs.Ytlomfgbmijhgiaa.Ctx
open Go Go.RowKit Mem Sets Elems
set_option maxRecDepth 100000

theorem ctx_clarified {a b : Int} {rs l : List Int} (h : clarify a rs = some (b, l)) : isCtx b l = true := by
  unfold clarify at h
  split at h
  · rename_i hc
    have hd := dedTo_ctx hc
    have ht := twins_isSet hd
    rw [dropA, if_pos ⟨hd, ht⟩] at h
    simp only [Option.some.injEq, Prod.mk.injEq] at h
    obtain ⟨rfl, rfl⟩ := h
    exact packRows_ctx hd ht
  · cases h
theorem redO_at {a : Int} {rs : List Int} (h : isCtx a rs = true) {k : Nat} (hk : k < rs.length) : redO a rs k = isCp (fullA a) rs k := by rw [redO, if_pos ⟨h, by omega, by omega⟩, Int.toNat_natCast]
theorem redA_at {a : Int} {rs : List Int} (h : isCtx a rs = true) {k : Nat} (hk : k < a.toNat) : redA a rs k = isCp (fullO rs) (cols a rs) k := by rw [redA, if_pos ⟨h, by omega, by omega⟩, Int.toNat_natCast]
end Go.Proofs.Ytlomfgbmijhgiaa.Ctx
