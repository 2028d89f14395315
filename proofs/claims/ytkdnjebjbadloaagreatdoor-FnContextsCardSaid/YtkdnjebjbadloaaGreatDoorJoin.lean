/-
  Join of the program and of the model: a row of strings put together with a separator, and nothing if that is longer than the limit.
-/
import Derived.Test.YtkdnjebjbadloaaGreatDoorJoinS
import Derived.Test.YtkdnjebjbadloaaGreatDoorShelfJoin
import Derived.Lib.AppendStr
import Derived.Lib.Join
import Derived.Laws.BytesArg
namespace Go.Proofs.YtkdnjebjbadloaaGreatDoor.Joins
open Go Go.RowKit Mem Strs
set_option maxRecDepth 100000
end Go.Proofs.YtkdnjebjbadloaaGreatDoor.Joins
