/-
  Chapter 9 of the program: rules read from their texts.
-/
import Derived.Test.YtmdpiikffnfnbaaGreatDoorRuleV
import Derived.Test.YtmdpiikffnfnbaaGreatDoorParse
import Derived.Test.YtmdpiikffnfnbaaGreatDoorShelfCut
import Derived.ChangeAgain
import Derived.BigQuiet
namespace Go.Proofs.YtmdpiikffnfnbaaGreatDoor.Rule
open Go Go.RowKit Mem Sets Ctx Tab Elems Text Joins Strs Cuts Parse
set_option maxRecDepth 100000

theorem index_at (c : UInt8) (p r : List UInt8) (h : c ∉ p) : Lib.index (p ++ c :: r) [c] = p.length := by
  induction p with
  | nil => rw [List.nil_append, Lib.index]; simp [List.isPrefixOf]
  | cons b p ih =>
    simp only [List.mem_cons, not_or] at h
    have hp : ([c] : List UInt8).isPrefixOf (b :: (p ++ c :: r)) = false := by simp [List.isPrefixOf, h.1]
    have h2 : (((p.length : Int)) == -1) = false := by simp
    rw [List.cons_append, Lib.index, hp, ih h.2, h2]
    simp
theorem index_no (c : UInt8) (l : List UInt8) (h : c ∉ l) : Lib.index l [c] = -1 := by
  induction l with
  | nil => rfl
  | cons b l ih =>
    simp only [List.mem_cons, not_or] at h
    have hp : ([c] : List UInt8).isPrefixOf (b :: l) = false := by simp [List.isPrefixOf, h.1]
    rw [Lib.index, hp, ih h.2]
    simp
theorem cut_at (c : UInt8) {p r : List UInt8} (h : c ∉ p) : Lib.cut (p ++ c :: r) [c] = (p, r, true) := by
  unfold Lib.cut
  rw [index_at c p r h, if_pos (by omega)]
  simp
theorem cut_no (c : UInt8) {l : List UInt8} (h : c ∉ l) : Lib.cut l [c] = (l, [], false) := by
  unfold Lib.cut
  rw [index_no c l h]
  rfl
theorem split_at (c : UInt8) {l : List UInt8} (h : c ∈ l) : ∃ p r, l = p ++ c :: r ∧ c ∉ p := by
  induction l with
  | nil => cases h
  | cons b l ih =>
    by_cases hb : b = c
    · subst hb; exact ⟨[], l, rfl, by simp⟩
    · have : c ∈ l := by
        rcases List.mem_cons.1 h with h | h
        · exact absurd h.symm hb
        · exact h
      obtain ⟨p, r, rfl, hp⟩ := ih this
      exact ⟨b :: p, r, rfl, by simp [hp, Ne.symm hb]⟩
theorem parse_none62 {r : List UInt8} (h : (62 : UInt8) ∈ r) : parse r = none := by
  cases hp : parse r with
  | none => rfl
  | some s => rw [← parse_text hp] at h; exact absurd h (text_no62 s)
theorem parse_nil : parse [] = none := by
  cases hp : parse [] with
  | none => rfl
  | some s =>
    have h := parse_text hp
    unfold parse at hp
    split at hp
    · rename_i hq; exact absurd hq (by decide)
    · cases hp
/-- What the program makes of the two sides of the first sign. -/
theorem parseRule_cut (t : List UInt8) : parseRule t = (parse (Lib.cut t [62]).1).bind fun x => (parse (Lib.cut t [62]).2.1).map fun y => (x, y) := by
  by_cases h : (62 : UInt8) ∈ t
  · obtain ⟨p, r, rfl, hp⟩ := split_at 62 h
    rw [cut_at 62 hp]
    by_cases hr : (62 : UInt8) ∈ r
    · obtain ⟨p2, r2, rfl, hp2⟩ := split_at 62 hr
      have hn := parse_none62 hr
      rw [parseRule_no (by
        rw [cuts_hit 62 p _ hp, cuts_hit 62 p2 r2 hp2]
        have := List.length_pos_iff.2 (cuts_ne 62 r2)
        simp only [List.length_cons]; omega)]
      show none = (parse p).bind fun x => (parse (p2 ++ 62 :: r2)).map fun y => (x, y)
      rw [hn]
      cases parse p <;> rfl
    · exact parseRule_two (by rw [cuts_hit 62 p r hp, cuts_none 62 r hr])
  · rw [cut_no 62 h, parseRule_no (by rw [cuts_none 62 t h]; simp)]
    show none = (parse t).bind fun x => (parse []).map fun y => (x, y)
    rw [parse_nil]
    cases parse t <;> rfl
theorem cut_len (c : UInt8) (l : List UInt8) : (Lib.cut l [c]).1.length ≤ l.length ∧ (Lib.cut l [c]).2.1.length ≤ l.length := by
  by_cases h : c ∈ l
  · obtain ⟨p, r, rfl, hp⟩ := split_at c h
    rw [cut_at c hp]
    simp; omega
  · rw [cut_no c h]; simp
theorem belowDrew {B : Nat} {a w : World} (h : Below B a w) (n : Nat) : Below B a (w.drewN n) := ⟨h.os, h.tape, h.output, h.size, h.block⟩
theorem shapedBelow {w w' : World} (h : w.ShapedOpen Tryz.prog) (hb : Below w.heap.size w w') : w'.ShapedOpen Tryz.prog :=
  h.keptBut (hb.frame (fun _ => False)) (fun _ hp => hp.elim)
set_option maxHeartbeats 1600000 in
theorem impl_parseRule (t : List UInt8) (hl : t.length ≤ 1048576) (w : World) (hS : w.ShapedOpen Tryz.prog) :
    Calls Tryz.prog 51 #[.string ⟨t.toArray⟩] w fun e w' => e = .returned (optR (parseRule t)) ∧ Below w.heap.size w w' := by
  have hW := (Below.refl w.heap.size w).alloc (Nat.le_refl _) (.cells #[.int .i64 0, .int .i64 0] 28)
  have hbx := BoxAt.new w 28 #[.int .i64 0, .int .i64 0]
  have hz : w.heap.size < (w.alloc (.cells #[.int .i64 0, .int .i64 0] 28)).heap.size := by simp
  have hpc := parseRule_cut t
  have hlen := cut_len 62 t
  have hc := Tryz.strings_Cut_shaped ⟨t.toArray⟩ ⟨#[62]⟩ (w.alloc (.cells #[.int .i64 0, .int .i64 0] 28)) (shapedBelow hS hW) (by simp [ByteArray.size]; omega)
  obtain ⟨a, b, f, hcut⟩ : ∃ a b f, Lib.cut t [62] = (a, b, f) := ⟨_, _, _, rfl⟩
  simp only [hcut] at hc
  rw [hcut] at hpc hlen
  obtain ⟨ha, hb⟩ := hlen
  simp only at hpc ha hb
  have HPR := Lib.hid hpc
  have HC := Lib.hid hc
  have HA := Lib.hid fun w => impl_parse a (by omega) w
  have HB := Lib.hid fun w => impl_parse b (by omega) w
  clear hpc hcut hc ha hb hS
  go_enter Tryz.func51, Tryz.ntmps51
  go_wp2_with fail
  refine HC.out.mono ?_
  rintro e _ ⟨rfl, n, rfl⟩
  clear HC
  generalize w.alloc (.cells #[.int .i64 0, .int .i64 0] 28) = W0 at hW hbx hz ⊢
  have hd0 := belowDrew (Below.refl W0.heap.size W0) n
  have hW1 := hW.trans (hd0.mono (by omega))
  have hbx1 := hbx.below hd0 hz
  have hz1 := hbx1.lt
  generalize W0.drewN n = W at hW1 hbx1 hz1 ⊢
  have HBW := Lib.hid hW1
  have HBX := Lib.hid hbx1
  clear hW hbx hz hd0 hW1 hbx1
  have e0 := fun p : Past W => (HBX.out.below p.h hz1).cell 0
  have e1 := fun p : Past W => (HBX.out.below p.h hz1).cell 1
  have f0 := fun p : Past W => (HBX.out.below p.h hz1).free 0
  have f1 := fun p : Past W => (HBX.out.below p.h hz1).free 1
  go_wp2_with fail
  refine ((Past.start W).of (HA.out W)).mono ?_
  rintro e _ ⟨rfl, q, rfl⟩
  go_wp2_with fail
  refine (q.of (HB.out q.w)).mono ?_
  rintro e _ ⟨rfl, z, rfl⟩
  clear HA HB
  have g0 := e0 z
  have g1 := e1 z
  have g2 := f0 z
  have g3 := f1 z
  simp only [List.getElem?_toArray, List.getElem?_cons_zero, List.getElem?_cons_succ] at g0 g1
  have hbb := HBW.out.trans (z.h.mono (by omega))
  cases hpa : parse a with
  | none =>
    have HX : Hid (parseRule t = none) := Lib.hid (by rw [HPR.out, hpa]; rfl)
    clear hpa HPR
    go_wp2_with fail
    refine bodyPost_ret (v := .tuple #[mk (0, 0), .bool false]) (by simp [results, Tryz.results51, go_sem, g0, g1]) rfl ⟨by rw [HX.out]; rfl, (hbb.setCell (p := ⟨w.heap.size, 0, none⟩) (Nat.le_refl _) _).setCell (p := ⟨w.heap.size, 1, none⟩) (Nat.le_refl _) _⟩
  | some x =>
    cases hpb : parse b with
    | none =>
      have HX : Hid (parseRule t = none) := Lib.hid (by rw [HPR.out, hpa, hpb]; rfl)
      clear hpa hpb HPR
      go_wp2_with fail
      refine bodyPost_ret (v := .tuple #[mk (0, 0), .bool false]) (by simp [results, Tryz.results51, go_sem, g0, g1]) rfl ⟨by rw [HX.out]; rfl, (hbb.setCell (p := ⟨w.heap.size, 0, none⟩) (Nat.le_refl _) _).setCell (p := ⟨w.heap.size, 1, none⟩) (Nat.le_refl _) _⟩
    | some y =>
      have HX : Hid (parseRule t = some (x, y)) := Lib.hid (by rw [HPR.out, hpa, hpb]; rfl)
      clear hpa hpb HPR
      go_wp2_with fail
      refine bodyPost_ret (v := .tuple #[mk (x, y), .bool true]) (by simp [results, Tryz.results51, go_sem, g0, g1]) rfl ⟨by rw [HX.out]; rfl, (hbb.setCell (p := ⟨w.heap.size, 0, none⟩) (Nat.le_refl _) _).setCell (p := ⟨w.heap.size, 1, none⟩) (Nat.le_refl _) _⟩
end Go.Proofs.YtmdpiikffnfnbaaGreatDoor.Rule
