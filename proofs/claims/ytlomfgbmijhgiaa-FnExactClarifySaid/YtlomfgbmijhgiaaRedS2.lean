/-
  Chapter 7 of the model: reducible objects and attributes.
-/
import Derived.Test.YtlomfgbmijhgiaaRedS
import Derived.Test.YtlomfgbmijhgiaaAllSets
import Derived.Test.YtlomfgbmijhgiaaPastI
import Derived.Deep.DeepCutAuto
namespace Go.Proofs.Ytlomfgbmijhgiaa.Ctx
open Go Go.RowKit Mem Sets Elems
set_option maxRecDepth 100000

end Go.Proofs.Ytlomfgbmijhgiaa.Ctx
