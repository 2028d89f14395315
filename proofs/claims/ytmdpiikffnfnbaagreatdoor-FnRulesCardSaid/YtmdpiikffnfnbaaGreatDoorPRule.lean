/-
  The laws' own helpers over lists of Rule: eq, mark, held, one contract each.
-/
import Derived.Test.YtmdpiikffnfnbaaGreatDoorPairs
import Derived.Deep.RegionHeld3
namespace Go.Proofs.YtmdpiikffnfnbaaGreatDoor.PRule
open Go Go.RowKit Mem
set_option maxRecDepth 100000

abbrev mk (p : PInt) : Value := .agg #[.int .i64 p.1, .int .i64 p.2]
theorem infoT : (Tryz.prog.info? 28).map (fun i => (i.zero, i.size, i.bytes)) = some (some (.agg #[.int .i64 0, .int .i64 0]), 2, 16) := by kernel_rfl
theorem set_pair (xs : List PInt) (ys : List Value) (j : Nat) (x : PInt) (hx : xs.length = j) (hy : j * 2 + 1 < ys.length) :
    ((prs xs ++ ys.drop (j * 2)).set (j * 2) (.int .i64 x.1)).set (j * 2 + 1) (.int .i64 x.2) = prs (xs ++ [x]) ++ ys.drop ((j + 1) * 2) := by
  have hl : (prs xs).length = j * 2 := by rw [prs_length, hx]
  rw [List.drop_eq_getElem_cons (by omega : j * 2 < ys.length), List.drop_eq_getElem_cons (by omega : j * 2 + 1 < ys.length)]
  rw [List.set_append_right _ _ (by omega), hl, Nat.sub_self, List.set_cons_zero, List.set_append_right _ _ (by omega), hl, Nat.add_sub_cancel_left, List.set_cons_succ, List.set_cons_zero, prs_app]
  have e : prs [x] = [.int .i64 x.1, .int .i64 x.2] := rfl
  rw [e, List.append_assoc, show (j + 1) * 2 = j * 2 + 1 + 1 by omega]
  rfl
end Go.Proofs.YtmdpiikffnfnbaaGreatDoor.PRule
