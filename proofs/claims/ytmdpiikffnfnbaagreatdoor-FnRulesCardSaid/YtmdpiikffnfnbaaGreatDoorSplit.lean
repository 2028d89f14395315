/-
  SplitByte of the program and of the model: the parts of a string at one byte, in a new row.
-/
import Derived.Test.YtmdpiikffnfnbaaGreatDoorSplitS
import Derived.Test.YtmdpiikffnfnbaaGreatDoorStrs
import Derived.Test.YtmdpiikffnfnbaaGreatDoorCuts
import Derived.Test.YtmdpiikffnfnbaaGreatDoorMark
import Derived.Test.YtmdpiikffnfnbaaGreatDoorShelfSplit
import Derived.ChangeAgain
namespace Go.Proofs.YtmdpiikffnfnbaaGreatDoor.Split
open Go Go.RowKit Mem Go.Proofs.YtmdpiikffnfnbaaGreatDoor.Mark Strs Cuts
set_option maxRecDepth 100000
theorem shaped_below {w w' : World} (h : w.ShapedOpen Tryz.prog) (hb : Below w.heap.size w w') : w'.ShapedOpen Tryz.prog :=
  h.keptBut (hb.frame (fun _ => False)) (fun _ hp => hp.elim)

set_option maxRecDepth 100000 in
set_option maxHeartbeats 800000 in
theorem impl_split (l : List UInt8) (c : UInt8) (hl : l.length ≤ 1048576) (w : World) (hS : w.ShapedOpen Tryz.prog) :
    Calls Tryz.prog 50 #[.string ⟨l.toArray⟩, .int .u8 c.toNat] w fun e w' => ∃ v, e = .returned v ∧ Own 9 w' w.heap.size w'.heap.size v (strs (cuts c l)) ∧ Below w.heap.size w w' := by
  have kc := Mark.one_byte (c.toNat : Int) w
  have hc : UInt8.ofNat ((c.toNat : Int)).toNat = c := by simp
  rw [hc] at kc
  have hS2 : (w.alloc (.cells #[.int .u8 (c.toNat : Int)] 5)).ShapedOpen Tryz.prog := shaped_below hS ((Below.refl _ _).alloc (Nat.le_refl _) _)
  have e1 := splitB_cuts c ⟨l.toArray⟩
  have e2 := splitB_cuts_len c ⟨l.toArray⟩
  have e0 : (⟨l.toArray⟩ : ByteArray).data.toList = l := by simp
  rw [e0] at e1 e2
  have hlen := cuts_length c l
  have E1 := Lib.hid e1
  have E2 := Lib.hid e2
  clear e1 e2 e0
  go_enter Tryz.func50, Tryz.ntmps50
  go_wp2_with fail
  refine (Tryz.strings_Split_shaped _ _ _ hS2 (by rw [show (⟨l.toArray⟩ : ByteArray).size = l.length by simp [ByteArray.size]]; omega) (show 1 ≤ (⟨#[c]⟩ : ByteArray).size from Nat.le_refl 1)).mono ?_
  rintro e w' ⟨rfl, rfl⟩
  rw [E1.out, E2.out]
  have hown := World.ownsRow_lit (w.alloc (.cells #[.int .u8 (c.toNat : Int)] 5)) (e := 9) (size := 1) (base := w.heap.size) (strs (cuts c l)).toArray (cuts c l).length (by simp) (by unfold maxLen; omega) (by simp)
  have HO := Lib.hid hown
  have hbel := ((Below.refl w.heap.size w).alloc (Nat.le_refl _) (.cells #[.int .u8 (c.toNat : Int)] 5)).alloc (by simp) (.cells (strs (cuts c l)).toArray 9 (0, 0))
  have HB := Lib.hid hbel
  clear hown hbel
  generalize hw2 : (w.alloc (.cells #[.int .u8 (c.toNat : Int)] 5)).alloc (.cells (strs (cuts c l)).toArray 9 (0, 0)) = w2 at HO HB
  go_wp2_with fail
  go_ret
  exact ⟨_, rfl, Own.made (by simpa using HO.out), HB.out⟩
end Go.Proofs.YtmdpiikffnfnbaaGreatDoor.Split
