/-
  The laws' own helpers: whether two lists of numbers are the same, whether a number is in one; a big code.
-/
import Derived.Test.YtbpicpapkpomhaaPast
namespace Go.Proofs.Ytbpicpapkpomhaa.Mem
open Go Go.RowKit
set_option maxRecDepth 100000

theorem get_at (xs : List Int) (k : Nat) (h : k < xs.length) : (ints xs)[k]? = some (.int .i64 (xs.getD k 0)) := ints_get xs k h
end Go.Proofs.Ytbpicpapkpomhaa.Mem
