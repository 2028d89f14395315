/-
  The laws' own helpers over lists of Concept: eq, mark, held, one contract each.
-/
import Derived.Test.YthodmmckekgkdaaPairs
import Derived.Deep.RegionHeld3
namespace Go.Proofs.Ythodmmckekgkdaa.PConcept
open Go Go.RowKit Mem
set_option maxRecDepth 100000

abbrev mk (p : PInt) : Value := .agg #[.int .i64 p.1, .int .i64 p.2]
end Go.Proofs.Ythodmmckekgkdaa.PConcept
