/-
  Chapter 5 of the program: the concept of an object, of an attribute.
-/
import Derived.Test.YtbpicpapkpomhaaConc3
namespace Go.Proofs.Ytbpicpapkpomhaa.Ctx
open Go Go.RowKit Mem Sets
set_option maxRecDepth 100000
attribute [local go_sem ↓] Go.wp_at_zero Go.wp_at_succ

end Go.Proofs.Ytbpicpapkpomhaa.Ctx
