/-
  Chapter 9 of the model: rules read from their texts.
-/
import Derived.Test.YtmdpiikffnfnbaaRuleS
import Derived.Test.YtmdpiikffnfnbaaRuleT
import Derived.Test.YtmdpiikffnfnbaaSplitS
import Derived.BigQuiet
namespace Go.Proofs.Ytmdpiikffnfnbaa.Rule
open Go Go.RowKit Mem Sets Ctx Tab Elems Text Joins Strs Cuts Parse
set_option maxRecDepth 100000

def optR (x : Option PInt) : Value := .tuple #[mk (x.getD (0, 0)), .bool x.isSome]
theorem Past.ofStrs2 {W : World} {P : Program} {f : FuncId} {args : Array Value} {xs : List (List UInt8)} {t : TypeId} (p : Past W) (h : Calls P f args p.w fun e w' => ∃ u, e = .returned u ∧ Mem.Own t w' p.w.heap.size w'.heap.size u (strs xs) ∧ Below p.w.heap.size p.w w') :
    Calls P f args p.w fun e w' => ∃ a c, e = .returned (.slice a xs.length c) ∧ ∃ q : Past W, w' = q.w ∧ Reads q.w q.w.heap.size (.slice a xs.length c) (strs xs) :=
  h.mono fun _ w' ⟨u, he, ho, hb⟩ => by
    have hr := ho.reads
    obtain ⟨h1, a, c, rfl, h2⟩ := hr
    have e1 : (strs xs).length = xs.length := by simp
    rw [e1] at he h2
    exact ⟨a, c, he, ⟨w', p.h.trans (hb.mono p.h.size)⟩, rfl, h1, a, c, by rw [e1], by rw [e1]; exact h2⟩
set_option maxHeartbeats 1600000 in
theorem spec_parseRule (t : List UInt8) (hl : t.length ≤ 1048576) (w : World) :
    Calls Try.prog 30 #[.string ⟨t.toArray⟩] w fun e w' => e = .returned (optR (parseRule t)) ∧ Below w.heap.size w w' := by
  have hW := (Below.refl w.heap.size w).alloc (Nat.le_refl _) (.cells #[.int .i64 0, .int .i64 0] 38)
  have hbx := BoxAt.new w 38 #[.int .i64 0, .int .i64 0]
  have hz : w.heap.size < (w.alloc (.cells #[.int .i64 0, .int .i64 0] 38)).heap.size := by simp
  go_enter Try.func30, Try.ntmps30
  go_wp2_with fail
  generalize w.alloc (.cells #[.int .i64 0, .int .i64 0] 38) = W at hW hbx hz ⊢
  have HBW := Lib.hid hW
  have HBX := Lib.hid hbx
  have HS := Lib.hid (Past.ofStrs2 (Past.start W) (Split.spec_split t 62 hl W))
  clear hW hbx
  have e0 := fun p : Past W => (HBX.out.below p.h hz).cell 0
  have e1 := fun p : Past W => (HBX.out.below p.h hz).cell 1
  have f0 := fun p : Past W => (HBX.out.below p.h hz).free 0
  have f1 := fun p : Past W => (HBX.out.below p.h hz).free 1
  refine HS.out.mono ?_
  rintro e _ ⟨pa, pc, rfl, p, rfl, hr⟩
  by_cases h2 : (cuts 62 t).length = 2
  · obtain ⟨a, b, hab⟩ : ∃ a b, cuts 62 t = [a, b] := by
      match hc : cuts 62 t, h2 with
      | [a, b], _ => exact ⟨a, b, rfl⟩
    have ha : a.length ≤ 1048576 := by have := part_le (c := 62) (k := 0) hl; rwa [hab] at this
    have hb : b.length ≤ 1048576 := by have := part_le (c := 62) (k := 1) hl; rwa [hab] at this
    have HPR := Lib.hid (parseRule_two hab)
    rw [hab] at hr ⊢
    obtain ⟨_, _, _, hv, hcells⟩ := hr
    injection hv with i1 i2 i3
    subst i1 i3
    clear i2
    obtain ⟨bk, o, rfl, hbk, hc⟩ := hcells (by simp [strs])
    have d0 : p.w.cell? ⟨bk, o, none⟩ = some (.string ⟨a.toArray⟩) := by have := hc 0 (by simp [strs]); simpa [strs] using this
    have d1 : p.w.cell? ⟨bk, o + 1, none⟩ = some (.string ⟨b.toArray⟩) := by have := hc 1 (by simp [strs]); simpa [strs] using this
    have k1 := fun q : Past p.w => Past.cell d1 (show bk < p.w.heap.size from hbk) q
    have HAp := Lib.hid ((Past.start p.w).of (spec_parse a ha p.w))
    have HB := Lib.hid fun q : Past p.w => q.of (spec_parse b hb q.w)
    have HZ : Hid (∀ q : Past p.w, ∃ z : Past W, z.w = q.w) := Lib.hid fun q => ⟨⟨q.w, p.h.trans (q.h.mono p.size)⟩, rfl⟩
    clear hc hcells h2 hab HS
    go_wp2_with fail
    refine HAp.out.mono ?_
    rintro e _ ⟨rfl, q, rfl⟩
    have kq := k1 q
    go_wp2_with fail
    refine (HB.out q).mono ?_
    rintro e _ ⟨rfl, q2, rfl⟩
    obtain ⟨z, hz2⟩ := HZ.out q2
    rw [← hz2]
    clear HAp HB hz2 k1 kq d0 d1
    cases hpa : parse a with
    | none =>
      have HX : Hid (parseRule t = none) := Lib.hid (by rw [HPR.out, hpa]; rfl)
      clear hpa HPR
      have g0 := e0 z
      have g1 := e1 z
      have g2 := f0 z
      have g3 := f1 z
      simp only [List.getElem?_toArray, List.getElem?_cons_zero, List.getElem?_cons_succ] at g0 g1
      have hbb := HBW.out.trans (z.h.mono (by omega))
      go_wp2_with fail
      refine bodyPost_ret (v := .tuple #[mk (0, 0), .bool false]) (by simp [results, Try.results30, go_sem, g0, g1]) rfl ⟨by rw [HX.out]; rfl, (hbb.setCell (p := ⟨w.heap.size, 0, none⟩) (Nat.le_refl _) _).setCell (p := ⟨w.heap.size, 1, none⟩) (Nat.le_refl _) _⟩
    | some x =>
      cases hpb : parse b with
      | none =>
        have HX : Hid (parseRule t = none) := Lib.hid (by rw [HPR.out, hpa, hpb]; rfl)
        clear hpa hpb HPR
        have g0 := e0 z
        have g1 := e1 z
        have g2 := f0 z
        have g3 := f1 z
        simp only [List.getElem?_toArray, List.getElem?_cons_zero, List.getElem?_cons_succ] at g0 g1
        have hbb := HBW.out.trans (z.h.mono (by omega))
        go_wp2_with fail
        refine bodyPost_ret (v := .tuple #[mk (0, 0), .bool false]) (by simp [results, Try.results30, go_sem, g0, g1]) rfl ⟨by rw [HX.out]; rfl, (hbb.setCell (p := ⟨w.heap.size, 0, none⟩) (Nat.le_refl _) _).setCell (p := ⟨w.heap.size, 1, none⟩) (Nat.le_refl _) _⟩
      | some y =>
        have HX : Hid (parseRule t = some (x, y)) := Lib.hid (by rw [HPR.out, hpa, hpb]; rfl)
        clear hpa hpb HPR
        have g0 := e0 z
        have g1 := e1 z
        have g2 := f0 z
        have g3 := f1 z
        simp only [List.getElem?_toArray, List.getElem?_cons_zero, List.getElem?_cons_succ] at g0 g1
        have hbb := HBW.out.trans (z.h.mono (by omega))
        go_wp2_with fail
        refine bodyPost_ret (v := .tuple #[mk (x, y), .bool true]) (by simp [results, Try.results30, go_sem, g0, g1]) rfl ⟨by rw [HX.out]; rfl, (hbb.setCell (p := ⟨w.heap.size, 0, none⟩) (Nat.le_refl _) _).setCell (p := ⟨w.heap.size, 1, none⟩) (Nat.le_refl _) _⟩
  · have HX : Hid (parseRule t = none) := Lib.hid (parseRule_no h2)
    have hd : (((cuts 62 t).length : Int) != 2) = true := by
      rw [bne_iff_ne]; omega
    generalize (cuts 62 t).length = n at hd hr
    clear hr h2 HS
    have g0 := e0 p
    have g1 := e1 p
    have g2 := f0 p
    have g3 := f1 p
    simp only [List.getElem?_toArray, List.getElem?_cons_zero, List.getElem?_cons_succ] at g0 g1
    have hbb := HBW.out.trans (p.h.mono (by omega))
    go_wp2_with fail
    refine bodyPost_ret (v := .tuple #[mk (0, 0), .bool false]) (by simp [results, Try.results30, go_sem, g0, g1]) rfl ⟨by rw [HX.out]; rfl, (hbb.setCell (p := ⟨w.heap.size, 0, none⟩) (Nat.le_refl _) _).setCell (p := ⟨w.heap.size, 1, none⟩) (Nat.le_refl _) _⟩
theorem newsR (w : World) (p : PInt) (t : TypeId) : ∀ (j : Nat) (u : Value), (prs [p])[j]? = some u → (w.alloc (.cells #[.int .i64 p.1, .int .i64 p.2] t)).cell? ((⟨w.heap.size, 0, none⟩ : Addr).add j) = some u := by
  intro j u hj
  match j, hj with
  | 0, hj => simp [prs] at hj; subst hj; simp [Addr.add]
  | 1, hj => simp [prs] at hj; subst hj; simp [Addr.add]
theorem oneR (p : PInt) : ∀ u ∈ prs [p], u.oneCell' = true := by
  intro u hu
  simp [prs] at hu
  rcases hu with rfl | rfl <;> rfl
end Go.Proofs.Ytmdpiikffnfnbaa.Rule
