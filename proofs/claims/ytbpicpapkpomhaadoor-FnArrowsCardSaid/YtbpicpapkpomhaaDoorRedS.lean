/-
  Chapter 7 of the model: rows without some objects, rows without some attributes.
-/
import Derived.Test.YtbpicpapkpomhaaDoorRedP
import Derived.Test.YtbpicpapkpomhaaDoorDerive
import Derived.Deep.RegionHeld3
namespace Go.Proofs.YtbpicpapkpomhaaDoor.Ctx
open Go Go.RowKit Mem Sets Elems
set_option maxRecDepth 100000
attribute [local go_sem ↓] Go.wp_at_zero Go.wp_at_succ

end Go.Proofs.YtbpicpapkpomhaaDoor.Ctx
