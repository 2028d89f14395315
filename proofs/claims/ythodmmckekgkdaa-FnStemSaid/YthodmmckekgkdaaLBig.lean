/-
  The laws' own question whether a code is too long.
-/
import Derived.Test.YthodmmckekgkdaaOwn
import Derived.Test.YthodmmckekgkdaaProg
import Derived.WalkKit
import Derived.Lib.Hide
namespace Go.Proofs.Ythodmmckekgkdaa.LBig
open Go Go.RowKit Mem
set_option maxRecDepth 100000

theorem isBig (v : Value) (xs : List Value) (B : Nat) (w : World) (hr : Reads w B v xs) :
    Calls Try.prog 10 #[v] w fun e w' => e = .returned (.bool (decide (1048576 < xs.length))) ∧ w' = w := by
  obtain ⟨hl, a, ca, rfl, hca⟩ := hr
  clear hca
  go_enter Try.func10, Try.ntmps10
  go_wp2_with fail
  go_ret
  exact ⟨by
    have : decide ((1048576 : Int) < (xs.length : Int)) = decide (1048576 < xs.length) := by rw [decide_eq_decide]; omega
    rw [← this]; rfl, rfl⟩

end Go.Proofs.Ythodmmckekgkdaa.LBig
