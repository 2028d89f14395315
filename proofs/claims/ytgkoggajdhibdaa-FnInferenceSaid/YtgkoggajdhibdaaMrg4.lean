/-
  slices.Grow, Concat, Clone and Delete on lists of rules.
-/
import Derived.Test.YtgkoggajdhibdaaAppR
import Derived.Test.YtgkoggajdhibdaaRuleS
import Derived.Laws.IdiomCopy
import Derived.Lib.SliceRun
import Derived.Test.YtgkoggajdhibdaaInfP
import Derived.Deep.RegionLaw
import Derived.Test.YtgkoggajdhibdaaInfT
import Derived.Test.YtgkoggajdhibdaaRuleF
import Derived.Test.YtgkoggajdhibdaaCloB
import Derived.Deep.RegionHeld3
import Derived.Shelf.Abstract
namespace Go.Proofs.Ytgkoggajdhibdaa.SlP
open Go Go.RowKit Mem Sets Ctx Tab Rule
set_option maxRecDepth 100000

theorem zeroRule (w : World) : (zeroValue 43).run Try.prog w = .ok (.agg #[.int .i64 0, .int .i64 0]) w := by kernel_rfl
theorem grow_row {w : World} {e : TypeId} {n cap : Nat} (hn : n ≤ cap) (hc : cap ≤ maxLen) :
    ((w.drew).alloc (.cells (Builtin.zeroCells (Value.agg #[.int .i64 0, .int .i64 0]).cells n ++ Builtin.zeroCells (Value.agg #[.int .i64 0, .int .i64 0]).cells (cap - n)) e)).ownsRow w.heap.size e 2 (.slice (some ⟨w.heap.size, 0, none⟩) 0 cap) 0 [] := by
  refine World.ownsRow_made (w := w.drew) _ cap (Nat.le_refl _) hc ?_
  rw [Array.size_append, size_zeroCells, size_zeroCells]
  show n * 2 + (cap - n) * 2 = cap * 2
  omega
set_option maxHeartbeats 1600000 in
theorem growR (n : Nat) (w : World) (hn : n ≤ 2097152) :
    Calls Try.prog 146 #[.slice none 0 0, .int .i64 (n : Int)] w fun e w' => ∃ v, e = .returned v ∧ w'.ownsRow w.heap.size 43 2 v 0 [] ∧ Below w.heap.size w w' := by
  obtain ⟨i0, hinf, hz0, hz1, hz2⟩ := info_parts PRule.infoT
  have hw1 : IntKind.i64.wrap ((n : Int) - 0) = (n : Int) := by rw [IntKind.wrap_i64]; omega
  have hlt : decide ((n : Int) < 0) = false := by simp
  by_cases h0 : n = 0
  · subst h0
    go_enter Try.func146, Try.ntmps146
    go_wp2_with fail
    go_ret
    exact ⟨_, rfl, World.ownsRow_nil _ _ _ _, Below.refl _ _⟩
  · have hgt : decide ((0 : Int) < (n : Int)) = true := by simp; omega
    have HRUN := Lib.hid fun ty => Lib.run_append_nil_zeros (P := Try.prog) w 28 3 ty 43 i0 (.agg #[.int .i64 0, .int .i64 0]) .i64 .i64 Try.underlying28 Try.underlying3 hinf hz0 n (by omega) (by omega) (by omega) (by rw [hz2]; omega)
    have hge := grownCap_ge w n 0 43
    have hml := grownCap_le_maxLen w n 0 43 (by unfold maxLen; omega)
    have HROW := Lib.hid (grow_row (w := w) (e := 43) hge hml)
    have HBB := Lib.hid (((Below.refl w.heap.size w).drew).alloc (Nat.le_refl _) (.cells (Builtin.zeroCells (Value.agg #[.int .i64 0, .int .i64 0]).cells n ++ Builtin.zeroCells (Value.agg #[.int .i64 0, .int .i64 0]).cells (grownCap w n 0 43 - n)) 43))
    obtain ⟨V, hV⟩ : ∃ V, (w.drew).alloc (.cells (Builtin.zeroCells (Value.agg #[.int .i64 0, .int .i64 0]).cells n ++ Builtin.zeroCells (Value.agg #[.int .i64 0, .int .i64 0]).cells (grownCap w n 0 43 - n)) 43) = V := ⟨_, rfl⟩
    rw [hV] at HRUN HROW HBB
    generalize grownCap w n 0 43 = cap at HRUN HROW hge hml
    clear hV
    go_enter Try.func146, Try.ntmps146
    go_wp2_with (at_builtin; refine Lib.wpList_append_run _ rfl _ _ _ _ rfl _ _ rfl rfl _ _ (HRUN.out _) ?_)
    go_wp2_with fail
    go_ret
    exact ⟨_, rfl, HROW.out, HBB.out⟩
theorem pair_cases {k : Nat} (h : k < 2) : k = 0 ∨ k = 1 := by omega
/-- What the first k of two lists hold. -/
def upTwo (l1 l2 : List PInt) : Nat → List PInt
  | 0 => []
  | 1 => l1
  | _ => l1 ++ l2
set_option maxHeartbeats 3200000 in
theorem concatR (q : Nat) (a1 a2 : Option Addr) (c1 c2 : Nat) (l1 l2 : List PInt) (B : Nat) (w : World) (h0 : w.cell? ⟨q, 0, none⟩ = some (.slice a1 l1.length c1)) (h1 : w.cell? ⟨q, 1, none⟩ = some (.slice a2 l2.length c2)) (hq : q < w.heap.size)
    (r1 : ReadsP w B (.slice a1 l1.length c1) l1) (r2 : ReadsP w B (.slice a2 l2.length c2) l2) (hB : B ≤ w.heap.size) (hl : l1.length + l2.length ≤ 2097152) :
    Calls Try.prog 117 #[.slice (some ⟨q, 0, none⟩) 2 2] w fun e w' => ∃ u, e = .returned u ∧ OwnP 43 w' w.heap.size w'.heap.size u (l1 ++ l2) ∧ Below w.heap.size w w' := by
  obtain ⟨i0, hinf, hz0, hz1, hz2⟩ := info_parts PRule.infoT
  have k0 := fun p : Past w => Past.cell h0 (by show q < _; omega) p
  have k1 := fun p : Past w => Past.cell h1 (by show q < _; omega) p
  have HR1 := Lib.hid fun p : Past w => r1.below p.h hB
  have HR2 := Lib.hid fun p : Past w => r2.below p.h hB
  have HG := Lib.hid (growR (l1.length + l2.length) w hl)
  have hw1 : IntKind.i64.wrap (0 + (l1.length : Int)) = (l1.length : Int) := by rw [IntKind.wrap_i64]; omega
  have hw2 : IntKind.i64.wrap ((l1.length : Int) + (l2.length : Int)) = ((l1.length + l2.length : Nat) : Int) := by rw [IntKind.wrap_i64]; omega
  have hn1 : decide ((l1.length : Int) < 0) = false := by simp
  have hn2 : decide (((l1.length + l2.length : Nat) : Int) < 0) = false := by simp; omega
  have M1 : Hid (0 + l1.length ≤ maxLen) := Lib.hid (by unfold maxLen; omega)
  have M2 : Hid ((0 + l1.length) * 16 ≤ 140737488355328) := Lib.hid (by omega)
  have M3 : Hid (l1.length + l2.length ≤ maxLen) := Lib.hid (by unfold maxLen; omega)
  have M4 : Hid ((l1.length + l2.length) * 16 ≤ 140737488355328) := Lib.hid (by omega)
  clear r1 r2
  go_enter Try.func117, Try.ntmps117
  go_wp2_with fail
  go_loop [3, 11] (fun sz i => ∃ k : Nat, k ≤ 2 ∧ i = .int .i64 k ∧ sz = .int .i64 ((upTwo l1 l2 k).length : Nat)) (fun _ i => 2 - (intOf i).toNat)
  case atStart => exact ⟨0, by omega, rfl, rfl⟩
  case round =>
    obtain ⟨k, hk, rfl, rfl⟩ := hrel
    by_cases hlt : k < 2
    · rcases pair_cases hlt with rfl | rfl
      · have e0 : ((upTwo l1 l2 0).length : Int) = 0 := rfl
        rw [e0]
        go_wp2_with fail
        go_round
        case rel => exact ⟨1, by omega, rfl, rfl⟩
        case measure => simp [intOf]
      · have e0 : ((upTwo l1 l2 1).length : Int) = (l1.length : Int) := rfl
        rw [e0]
        go_wp2_with fail
        go_round
        case rel => exact ⟨2, by omega, rfl, by rw [show (upTwo l1 l2 2) = l1 ++ l2 from rfl, List.length_append, Int.natCast_add]⟩
        case measure => simp [intOf]
    · have hk2 : k = 2 := by omega
      subst hk2
      rw [show (upTwo l1 l2 2) = l1 ++ l2 from rfl, List.length_append]
      go_wp2_with fail
      refine HG.out.mono ?_
      rintro e w1 ⟨v1, rfl, own1, b1⟩
      have HP1 : Hid (∃ p1 : Past w, p1.w = w1) := Lib.hid ⟨⟨w1, b1⟩, rfl⟩
      have HO1 := Lib.hid own1
      obtain ⟨p1, rfl⟩ := HP1.out
      clear own1 b1 HP1 HG
      go_wp2_with fail
      go_loopw [6, 27] (fun ov i wr => ∃ (k : Nat) (v0 : Value) (p : Past w), k ≤ 2 ∧ i = .int .i64 k ∧ ov = v0 ∧ Hid (p.w.ownsRow w.heap.size 43 2 v0 (upTwo l1 l2 k).length (prs (upTwo l1 l2 k))) ∧ wr = p.w) (fun _ i _ => 2 - (intOf i).toNat)
      case atStart => exact ⟨0, _, p1, by omega, rfl, rfl, HO1, rfl⟩
      case round =>
        obtain ⟨k, v0, p, hk, rfl, rfl, hown, rfl⟩ := hrel
        have kp0 := k0 p
        have kp1 := k1 p
        have hpz := p.size
        by_cases hlt : k < 2
        · rcases pair_cases hlt with rfl | rfl
          · have HO : Hid (p.w.ownsRow w.heap.size 43 2 _ 0 []) := hown
            clear hown
            go_wp2_with (at_builtin; refine wpList_append_reads rfl _ _ _ rfl w.heap.size 43 i0 (.agg #[.int .i64 0, .int .i64 0]) 16 Try.underlying28 hinf hz0 hz1 hz2 rfl _ 0 [] rfl HO.out a1 c1 l1 rfl B (HR1.out p) M1.out M2.out hpz ?_)
            intro v2 w2 own2 grow2
            have HP2 : Hid (∃ p2 : Past w, p2.w = w2) := Lib.hid ⟨⟨w2, p.h.grown grow2 p.size (fun q hq => (HO.out.lt q hq).1)⟩, rfl⟩
            obtain ⟨p2, rfl⟩ := HP2.out
            have HO2 : Hid (p2.w.ownsRow w.heap.size 43 2 v2 (upTwo l1 l2 1).length (prs (upTwo l1 l2 1))) := Lib.hid (by show p2.w.ownsRow _ _ 2 v2 l1.length (prs l1); simpa using own2)
            clear own2 grow2 HP2
            go_wp2_with fail
            go_roundw
            case rel => exact ⟨1, _, p2, by omega, rfl, rfl, HO2, rfl⟩
            case measure => simp [intOf]
          · have HO : Hid (p.w.ownsRow w.heap.size 43 2 _ l1.length (prs l1)) := hown
            clear hown
            go_wp2_with (at_builtin; refine wpList_append_reads rfl _ _ _ rfl w.heap.size 43 i0 (.agg #[.int .i64 0, .int .i64 0]) 16 Try.underlying28 hinf hz0 hz1 hz2 rfl _ _ _ rfl HO.out a2 c2 l2 rfl B (HR2.out p) M3.out M4.out hpz ?_)
            intro v2 w2 own2 grow2
            have HP2 : Hid (∃ p2 : Past w, p2.w = w2) := Lib.hid ⟨⟨w2, p.h.grown grow2 p.size (fun q hq => (HO.out.lt q hq).1)⟩, rfl⟩
            obtain ⟨p2, rfl⟩ := HP2.out
            have HO2 : Hid (p2.w.ownsRow w.heap.size 43 2 v2 (upTwo l1 l2 2).length (prs (upTwo l1 l2 2))) := Lib.hid (by show p2.w.ownsRow _ _ 2 v2 (l1 ++ l2).length (prs (l1 ++ l2)); rw [List.length_append, prs_app]; exact own2)
            clear own2 grow2 HP2
            go_wp2_with fail
            go_roundw
            case rel => exact ⟨2, _, p2, by omega, rfl, rfl, HO2, rfl⟩
            case measure => simp [intOf]
        · have hk2 : k = 2 := by omega
          subst hk2
          have HO := Lib.hid (show OwnP 43 p.w w.heap.size p.w.heap.size _ (l1 ++ l2) from OwnP.made hown.out)
          have hbb := p.h
          obtain ⟨av, cv, hov⟩ := rowP_form hown.out
          subst hov
          go_wp2_with fail
          go_ret
          exact ⟨_, rfl, HO.out, hbb⟩
set_option maxHeartbeats 1600000 in
theorem cloneR (a : Option Addr) (c : Nat) (l : List PInt) (B : Nat) (w : World) (hr : ReadsP w B (.slice a l.length c) l) (hB : B ≤ w.heap.size) (hl : l.length ≤ 2097152) :
    Calls Try.prog 108 #[.slice a l.length c] w fun e w' => ∃ u, e = .returned u ∧ OwnP 43 w' w.heap.size w'.heap.size u l ∧ Below w.heap.size w w' := by
  obtain ⟨i0, hinf, hz0, hz1, hz2⟩ := info_parts PRule.infoT
  have qnil := fun (w : World) (a : Option Addr) (n c n' c' : Nat) => Lib.run_eql_slice_nil (P := Try.prog) w 28 _ a n c n' c' Try.underlying28
  cases a with
  | none =>
    have h0 : l = [] := by
      cases l with
      | nil => rfl
      | cons x xs =>
        obtain ⟨_, a', c', hv, hc⟩ := hr
        injection hv with e1 e2 e3
        subst e1
        obtain ⟨b, o, h1, -⟩ := hc (by simp)
        cases h1
    subst h0
    clear hr
    go_enter Try.func108, Try.ntmps108
    go_wp2_with fail
    go_ret
    exact ⟨_, rfl, OwnP.made (n := 0) (World.ownsRow_nil _ _ _ _), Below.refl _ _⟩
  | some ad =>
    have HL0 := Lib.hid (World.ownsRow_lit (e := 43) (size := 2) w #[] 0 (Nat.le_refl _) (Nat.zero_le _) rfl)
    have HR := Lib.hid (hr.below ((Past.start w).alloc (.cells #[] 43)).h hB)
    have hz := ((Past.start w).alloc (.cells #[] 43)).size
    have M1 : Hid (0 + l.length ≤ maxLen) := Lib.hid (by unfold maxLen; omega)
    have M2 : Hid ((0 + l.length) * 16 ≤ 140737488355328) := Lib.hid (by omega)
    clear hr
    go_enter Try.func108, Try.ntmps108
    go_wp2_with (at_builtin; refine wpList_append_reads rfl _ _ _ rfl w.heap.size 43 i0 (.agg #[.int .i64 0, .int .i64 0]) 16 Try.underlying28 hinf hz0 hz1 hz2 rfl _ 0 [] rfl HL0.out (some ad) c l rfl B HR.out M1.out M2.out hz ?_)
    intro v2 w2 own2 grow2
    have HB := Lib.hid (((Past.start w).alloc (.cells #[] 43)).h.grown grow2 hz (fun q hq => (HL0.out.lt q hq).1))
    have HO : Hid (OwnP 43 w2 w.heap.size w2.heap.size v2 l) := Lib.hid (OwnP.made (n := 0 + l.length) (by simpa using own2))
    clear own2 grow2
    go_wp2_with fail
    go_ret
    exact ⟨_, rfl, HO.out, HB.out⟩
end Go.Proofs.Ytgkoggajdhibdaa.SlP

namespace Go.Proofs.Ytgkoggajdhibdaa.SlP
open Go Go.RowKit Mem Sets Ctx Tab Rule Infer
set_option maxRecDepth 100000

/-- Cells of a row, written one behind the other. -/
def setVals : Array Value → Nat → List Value → Array Value
  | cs, _, [] => cs
  | cs, o, v :: r => setVals (cs.setIfInBounds o v) (o + 1) r
theorem size_setVals : ∀ (vs : List Value) (o : Nat) (cs : Array Value), (setVals cs o vs).size = cs.size
  | [], _, _ => rfl
  | v :: r, o, cs => by rw [setVals, size_setVals r]; simp
theorem box_setCells {g : Nat} {t : TypeId} : ∀ (vs : List Value) (o : Nat) (cs : Array Value) (w : World), BoxAt w g t cs → BoxAt (w.setCells g o vs) g t (setVals cs o vs)
  | [], _, _, _, h => h
  | v :: r, o, _, _, h => box_setCells r (o + 1) _ _ (h.set o v)
theorem below_cells {B g : Nat} (hg : B ≤ g) : ∀ (vs : List Value) (o : Nat) (w0 w : World), Below B w0 w → Below B w0 (w.setCells g o vs)
  | [], _, _, _, h => h
  | v :: r, o, w0, _, h => below_cells hg r (o + 1) w0 _ (h.setCell (p := ⟨g, o, none⟩) hg v)
theorem set_take {L : List Value} {o : Nat} {v : Value} (h : o < L.length) : (L.set o v).take (o + 1) = L.take o ++ [v] := by
  rw [List.take_add_one, List.getElem?_set_self h, List.take_set_of_le (Nat.le_refl _)]; rfl
theorem take_setVals : ∀ (vs : List Value) (o : Nat) (cs : Array Value), o + vs.length ≤ cs.size → (setVals cs o vs).toList.take (o + vs.length) = cs.toList.take o ++ vs
  | [], o, cs, _ => by simp [setVals]
  | v :: r, o, cs, h => by
    have h1 : o + (v :: r).length = o + 1 + r.length := by simp; omega
    rw [h1] at h ⊢
    rw [setVals, take_setVals r (o + 1) _ (by simp; omega), Array.toList_setIfInBounds, set_take (by simp; omega), List.append_assoc]; rfl
theorem take_setVals_low {t : Nat} : ∀ (vs : List Value) (o : Nat) (cs : Array Value), t ≤ o → (setVals cs o vs).toList.take t = cs.toList.take t
  | [], _, _, _ => rfl
  | v :: r, o, cs, h => by rw [setVals, take_setVals_low r (o + 1) _ (by omega), Array.toList_setIfInBounds, List.take_set_of_le h]
/-- clear(s) on one element of two cells. -/
theorem run_clear_two {P : Program} (w : World) (t e ty : TypeId) (ht : P.underlying t = some (.slice e)) (hv : ∀ w, (zeroValue e).run P w = .ok (.agg #[.int .i64 0, .int .i64 0]) w) (b o c : Nat)
    (hc : ∀ j, j < 2 → (w.cell? ⟨b, o + j, none⟩).isSome = true) (hf : ∀ j, j < 2 → w.frozen? ⟨b, o + j, none⟩ = false) :
    (Builtin.clear_ #[t] ty #[.slice (some ⟨b, o, none⟩) 1 c]).run P w = .ok (.tuple #[]) (w.setCells b o [.int .i64 0, .int .i64 0]) := by
  have hzc : (Builtin.zeroCells (Value.agg #[.int .i64 0, .int .i64 0]).cells 1).toList = [.int .i64 0, .int .i64 0] := by kernel_rfl
  have hst := run_storeCells_cells (P := P) b o [.int .i64 0, .int .i64 0] 0 w (by simpa using hc) (by simpa using hf) (by intro v hv'; simp at hv'; rw [hv']; rfl)
  simp only [Nat.add_zero] at hst
  simp [Builtin.clear_, run_underlying ht, hv, hzc, hst]
/-- What is left of a row when one of its elements is taken out. -/
theorem row_without {w w1 : World} {lo g cap : Nat} {e : TypeId} {l : List PInt} {k : Nat} (ho : w.ownsRow lo e 2 (.slice (some ⟨g, 0, none⟩) l.length cap) l.length (prs l)) (hk : k < l.length)
    (hw : w1 = (w.drew.setCells g (0 + k * 2) (prs (l.drop (k + 1)))).setCells g ((l.length - 1) * 2) [.int .i64 0, .int .i64 0]) :
    w1.ownsRow lo e 2 (.slice (some ⟨g, 0, none⟩) (l.length - 1) cap) (l.length - 1) (prs (without l k)) ∧ Below lo w w1 := by
  obtain ⟨hl, h⟩ := ho
  rcases h with ⟨h1, h2⟩ | ⟨g', cap', cur, hv, hlo, hb, hn, hm, hs, ht⟩
  · cases h1
  · injection hv with e1 e2 e3
    injection e1 with e1
    injection e1 with e1
    subst e1 e3
    have hbx : BoxAt w g e cur := hb
    have hlen := without_len hk
    have hdl : (prs (l.drop (k + 1))).length = (l.length - (k + 1)) * 2 := by rw [prs_length, List.length_drop]
    have b1 := box_setCells (prs (l.drop (k + 1))) (0 + k * 2) cur w.drew hbx
    have b2 := box_setCells [.int .i64 0, .int .i64 0] ((l.length - 1) * 2) _ _ b1
    rw [← hw] at b2
    refine ⟨⟨by rw [prs_length, hlen], .inr ⟨g, cap, _, rfl, hlo, b2, by omega, hm, by rw [size_setVals, size_setVals, hs], ?_⟩⟩, ?_⟩
    · rw [take_setVals_low _ _ _ (Nat.le_refl _)]
      have h3 := take_setVals (prs (l.drop (k + 1))) (0 + k * 2) cur (by rw [hdl, hs]; omega)
      rw [hdl, show 0 + k * 2 + (l.length - (k + 1)) * 2 = (l.length - 1) * 2 by omega] at h3
      rw [h3, without, prs_app]
      congr 1
      have h4 : (prs l).take (k * 2) = prs (l.take k) := by
        conv => lhs; rw [← List.take_append_drop k l, prs_app]
        rw [List.take_append_of_le_length (by rw [prs_length, List.length_take]; omega), List.take_of_length_le (by rw [prs_length, List.length_take]; omega)]
      rw [← h4, ← ht, List.take_take, Nat.zero_add, Nat.min_eq_left (by omega)]
    · rw [hw]
      exact below_cells hlo _ _ _ _ (below_cells hlo _ _ _ _ ((Below.refl lo w).drew))
set_option maxHeartbeats 3200000 in
theorem deleteR (g cap : Nat) (l : List PInt) (k lo hi : Nat) (w : World) (ho : OwnP 43 w lo hi (.slice (some ⟨g, 0, none⟩) l.length cap) l) (hk : k < l.length) (hlen : l.length ≤ 2097152) :
    Calls Try.prog 109 #[.slice (some ⟨g, 0, none⟩) l.length cap, .int .i64 (k : Int), .int .i64 ((k : Int) + 1)] w fun e w' => e = .returned (.slice (some ⟨g, 0, none⟩) (l.length - 1) cap) ∧ OwnP 43 w' lo hi (.slice (some ⟨g, 0, none⟩) (l.length - 1) cap) (without l k) ∧ Below lo w w' := by
  obtain ⟨i0, hinf, hz0, hz1, hz2⟩ := info_parts PRule.infoT
  have HRW := Lib.hid fun w1 h => row_without (w1 := w1) ho.1 hk h
  have hhi : g < hi := ho.2 g rfl
  have hcap : l.length ≤ cap := by
    rcases ho.1.2 with ⟨h1, _⟩ | ⟨g', cap', cur, hv, _, _, hn, _⟩
    · cases h1
    · injection hv with e1 e2 e3; omega
  have hcm : cap ≤ 9223372036854775807 := by
    rcases ho.1.2 with ⟨h1, _⟩ | ⟨g', cap', cur, hv, _, _, _, hm, _⟩
    · cases h1
    · injection hv with e1 e2 e3; unfold maxLen at hm; omega
  have HT2 : Hid ((prs (l.drop (k + 1))).length = (l.length - (k + 1)) * 2) := Lib.hid (by rw [prs_length, List.length_drop])
  have HCL := Lib.hid fun j (hj : j < l.length) => ho.1.cellAt (j * 2) (by omega)
  have HCE : Hid (∀ j, j < l.length * 2 → (w.drew.cell? ⟨g, j, none⟩).isSome = true ∧ w.drew.frozen? ⟨g, j, none⟩ = false) := Lib.hid fun j hj => by
    refine ⟨?_, ho.1.frozenAt j⟩
    show (w.cell? ⟨g, j, none⟩).isSome = true
    rw [ho.1.cellAt j hj, List.getElem?_eq_getElem (by rw [prs_length]; exact hj)]; rfl
  have HSP : Hid (∀ j, j < (prs (l.drop (k + 1))).length → (w.drew.cell? ⟨g, 0 + k * 2 + j, none⟩).isSome = true ∧ w.drew.frozen? ⟨g, 0 + k * 2 + j, none⟩ = false) := Lib.hid fun j hj => by
    rw [HT2.out] at hj
    exact HCE.out _ (by omega)
  have HNEW : Hid (∀ j u, (prs (l.drop (k + 1)))[j]? = some u → w.drew.cell? ((⟨g, (k + 1) * 2, none⟩ : Addr).add j) = some u) := Lib.hid fun j u hu => by
    have hcs : ∀ j, j < l.length → w.drew.cell? ⟨g, 0 + j * 2, none⟩ = some (.int .i64 (l.getD j (0, 0)).1) ∧ w.drew.cell? ⟨g, 0 + j * 2 + 1, none⟩ = some (.int .i64 (l.getD j (0, 0)).2) := fun j hj => by
      rw [Nat.zero_add]
      have h2 := prs_get l j hj
      exact ⟨(ho.1.cellAt (j * 2) (by omega)).trans h2.1, (ho.1.cellAt (j * 2 + 1) (by omega)).trans h2.2⟩
    have := cut_news (q := k + 1) hcs drop_at j u hu
    rw [Nat.zero_add] at this
    exact this
  obtain ⟨W1, hW1⟩ : ∃ W1, W1 = w.drew.setCells g (0 + k * 2) (prs (l.drop (k + 1))) := ⟨_, rfl⟩
  have HW1 := Lib.hid hW1
  have hb1 : ∀ j, j < l.length * 2 → (W1.cell? ⟨g, j, none⟩).isSome = true ∧ W1.frozen? ⟨g, j, none⟩ = false := fun j hj => by
    rw [hW1]
    refine ⟨?_, by rw [World.frozen?_setCells]; exact (HCE.out j hj).2⟩
    by_cases hin : k * 2 ≤ j ∧ j < k * 2 + (prs (l.drop (k + 1))).length
    · obtain ⟨d, rfl⟩ : ∃ d, j = 0 + k * 2 + d := ⟨j - k * 2, by omega⟩
      rw [World.cell?_setCells_in g _ _ _ (fun i hi => (HSP.out i hi).1) d (by omega)]; rfl
    · rw [World.cell?_setCells_out g _ _ _ _ (fun _ _ => by show j < 0 + k * 2 ∨ 0 + k * 2 + _ ≤ j; omega)]
      exact (HCE.out j hj).1
  have HCLR := Lib.hid fun ty => run_clear_two (P := Try.prog) W1 28 43 ty Try.underlying28 zeroRule g ((l.length - 1) * 2) (cap - (l.length - 1)) (fun j hj => (hb1 _ (by omega)).1) (fun j hj => (hb1 _ (by omega)).2)
  have HRES0 := HRW.out ((W1.setCells g ((l.length - 1) * 2) [.int .i64 0, .int .i64 0])) (by rw [hW1])
  have HRES : Hid (OwnP 43 (W1.setCells g ((l.length - 1) * 2) [.int .i64 0, .int .i64 0]) lo hi (.slice (some ⟨g, 0, none⟩) (l.length - 1) cap) (without l k)) := Lib.hid ⟨by rw [without_len hk]; exact HRES0.1, fun q hq => by cases hq; exact hhi⟩
  have HRES2 := Lib.hid HRES0.2
  have HRM : Hid (k + (l.length - (k + 1)) ≤ cap) := Lib.hid (by omega)
  have hkm : k + (l.length - (k + 1)) = l.length - 1 := by omega
  have hone : l.length - (l.length - 1) = 1 := by omega
  have hkl : k + 1 ≤ l.length := hk
  have hkq : k ≤ cap := by omega
  have hkq1 : k + 1 ≤ cap := by omega
  have htn : ((k : Int) + 1).toNat = k + 1 := by omega
  have hi0 : (0 : Int) ≤ (k : Int) + 1 := by omega
  have hi1 : (k : Int) + 1 ≤ (l.length : Int) := by omega
  have hi2 : (k : Int) ≤ (k : Int) + 1 := by omega
  have hne : ((k : Int) == (k : Int) + 1) = false := by simp; omega
  have hll : l.length - 1 ≤ l.length := by omega
  have hlc : l.length - 1 ≤ cap := by omega
  have hli : ((l.length - 1 : Nat) : Int) ≤ (l.length : Int) := by omega
  have hcl : ¬ cap = l.length - 1 := by omega
  have hcl2 : ¬ l.length - 1 = cap := by omega
  clear ho hb1 hW1 HRW HRES0 HCL HCE
  by_cases hqk : cap = k + 1
  · have hdr : l.drop (k + 1) = [] := List.drop_of_length_le (by omega)
    subst hqk
    have hlk : l.length - 1 = k := by omega
    have hW0 : W1 = w.drew := by rw [HW1.out, hdr]; rfl
    have HC1 : Hid (∀ ty, (Builtin.clear_ #[28] ty #[.slice (some ⟨g, k * 2, none⟩) (l.length - k) 1]).run Try.prog w.drew = .ok (.tuple #[]) (W1.setCells g ((l.length - 1) * 2) [.int .i64 0, .int .i64 0])) := Lib.hid fun ty => by
      have := HCLR.out ty
      rw [hlk] at this ⊢
      rw [hW0] at this ⊢
      rw [show k + 1 - k = 1 by omega] at this
      rw [show l.length - k = 1 by omega]
      exact this
    clear hlk hW0
    go_enter Try.func109, Try.ntmps109
    go_wp2_with fail
    go_region_law (first | (refine step_append_room (by rfl) _ _ 28 (by rfl) 43 i0 2 Try.underlying28 hinf hz1 g 0 k cap (by rfl) ⟨g, 0, none⟩ (l.length - (k + 1)) (cap - (k + 1)) (prs (l.drop (k + 1))) (by rfl) HT2.out (fun j u hj => by rw [hdr] at hj; simp [prs] at hj) (prs_one _) HRM.out HSP.out ?_; rw [← HW1.out]) | fail)
    have hclr := HC1.out
    go_wp2_with fail
    go_ret
    exact ⟨by rw [show l.length - 1 = k by omega]; rfl, HRES.out, HRES2.out⟩
  · have hqk2 : ¬ k + 1 = cap := fun h => hqk h.symm
    go_enter Try.func109, Try.ntmps109
    go_wp2_with fail
    go_region_law (first | (refine step_append_room (by rfl) _ _ 28 (by rfl) 43 i0 2 Try.underlying28 hinf hz1 g 0 k cap (by rfl) ⟨g, (k + 1) * 2, none⟩ (l.length - (k + 1)) (cap - (k + 1)) (prs (l.drop (k + 1))) (by rfl) HT2.out HNEW.out (prs_one _) HRM.out HSP.out ?_; rw [← HW1.out]) | fail)
    have hclr := HCLR.out
    go_wp2_with fail
    go_ret
    exact ⟨rfl, HRES.out, HRES2.out⟩
end Go.Proofs.Ytgkoggajdhibdaa.SlP

namespace Go.Proofs.Ytgkoggajdhibdaa.Infer
open Go Go.RowKit Mem Sets Ctx Tab Rule Stem Lectic
set_option maxRecDepth 100000

theorem follows_isR {l : List PInt} {r : PInt} (h : follows l r = true) : isR 8 r = true := by
  rw [follows, Bool.and_eq_true, Bool.and_eq_true] at h; exact h.1.2
theorem follows_in {l : List PInt} {r : PInt} (h : follows l r = true) : allIn 8 l = true := by
  rw [follows, Bool.and_eq_true, Bool.and_eq_true] at h; exact h.1.1
theorem all_follows_in {a b : List PInt} (h : a.all (follows b) = true) : allIn 8 a = true := List.all_eq_true.2 fun r hr => follows_isR (List.all_eq_true.1 h r hr)
/-- Asked of every rule of both lists: the same. -/
theorem equiv_prog (a b : List PInt) : equiv a b = (b.all (follows a) && a.all (follows b)) := by
  have one : ∀ {x y : List PInt}, allIn 8 x = true → allIn 8 y = true → x.all (follows y) = allFollow x y := fun {x y} hx hy => by
    unfold allFollow
    rw [Bool.eq_iff_iff, List.all_eq_true, List.all_eq_true]
    refine forall_congr' fun r => forall_congr' fun hr => ?_
    rw [follows_eq hy (List.all_eq_true.1 hx r hr)]
  cases ha : allIn 8 a with
  | false =>
    rw [equiv_no1 ha]
    cases h : a.all (follows b) with
    | true => rw [all_follows_in h] at ha; cases ha
    | false => rw [Bool.and_false]
  | true =>
    cases hb : allIn 8 b with
    | false =>
      rw [equiv_no2 hb]
      cases h : b.all (follows a) with
      | true => rw [all_follows_in h] at hb; cases hb
      | false => rfl
    | true => rw [equiv_yes ha hb, one ha hb, one hb ha, Bool.and_comm]
set_option maxHeartbeats 1600000 in
theorem impl_equiv (v1 v2 : Value) (a b : List PInt) (B : Nat) (w : World) (h1 : ReadsP w B v1 a) (h2 : ReadsP w B v2 b) (hB : B ≤ w.heap.size) :
    Calls Try.prog 53 #[v1, v2] w fun e w' => e = .returned (.bool (equiv a b)) ∧ Below w.heap.size w w' := by
  have H1 := Lib.hid ((Past.start w).of (impl_allFollow v1 v2 a b B w h1 h2 hB))
  have H2 := Lib.hid fun p : Past w => p.of (impl_allFollow v2 v1 b a B p.w (h2.below p.h hB) (h1.below p.h hB) (Nat.le_trans hB p.size))
  have HX := Lib.hid (equiv_prog a b)
  obtain ⟨d1, hd1⟩ : ∃ d, b.all (follows a) = d := ⟨_, rfl⟩
  obtain ⟨d2, hd2⟩ : ∃ d, a.all (follows b) = d := ⟨_, rfl⟩
  rw [hd1] at H1 HX
  rw [hd2] at H2 HX
  clear h1 h2 hd1 hd2
  cases d1 with
  | false =>
    go_enter Try.func53, Try.ntmps53
    go_wp2_with fail
    refine H1.out.mono ?_
    rintro e _ ⟨rfl, p, rfl⟩
    have hbb := p.h
    go_wp2_with fail
    go_ret
    exact ⟨by rw [HX.out]; rfl, hbb⟩
  | true =>
    go_enter Try.func53, Try.ntmps53
    go_wp2_with fail
    refine H1.out.mono ?_
    rintro e _ ⟨rfl, p, rfl⟩
    go_wp2_with fail
    refine (H2.out p).mono ?_
    rintro e _ ⟨rfl, p2, rfl⟩
    have hbb := p2.h
    go_wp2_with fail
    go_ret
    exact ⟨by rw [HX.out]; rfl, hbb⟩
theorem readsP_take {w : World} {B b o n c k : Nat} {l : List PInt} (h : ReadsP w B (.slice (some ⟨b, o, none⟩) n c) l) (hk : k ≤ l.length) (c' : Nat) : ReadsP w B (.slice (some ⟨b, o, none⟩) k c') (l.take k) := by
  obtain ⟨h1, a, cap, h2, h3⟩ := h
  injection h2 with e1 e2 e3
  subst e1
  have hl : (l.take k).length = k := by rw [List.length_take]; omega
  refine ⟨by omega, _, c', by rw [hl], fun hne => ?_⟩
  obtain ⟨b', o', ha, hb, hc⟩ := h3 (by rintro rfl; simp at hne)
  refine ⟨b', o', ha, hb, fun j hj => ?_⟩
  have h4 := take_at hk j hj
  rw [Nat.zero_add] at h4
  rw [← h4.2]; exact hc j h4.1
theorem readsP_drop {w : World} {B b o n c q : Nat} {l : List PInt} (h : ReadsP w B (.slice (some ⟨b, o, none⟩) n c) l) (c' : Nat) : ReadsP w B (.slice (some ⟨b, o + q * 2, none⟩) (l.length - q) c') (l.drop q) := by
  obtain ⟨h1, a, cap, h2, h3⟩ := h
  injection h2 with e1 e2 e3
  subst e1
  have hl : (l.drop q).length = l.length - q := List.length_drop
  refine ⟨by omega, _, c', by rw [hl], fun hne => ?_⟩
  obtain ⟨b', o', ha, hb, hc⟩ := h3 (by rintro rfl; simp at hne)
  injection ha with ha
  injection ha with e4 e5
  subst e4 e5
  refine ⟨b, o + q * 2, rfl, hb, fun j hj => ?_⟩
  have h4 := drop_at j hj
  rw [← h4.2, show o + q * 2 + j * 2 = o + (q + j) * 2 by omega]; exact hc _ h4.1
theorem readsP_none {w : World} {B : Nat} (a : Option Addr) (c : Nat) {l : List PInt} (h : l = []) : ReadsP w B (.slice a l.length c) l := ⟨by subst h; simp, a, c, rfl, fun hne => absurd h hne⟩
set_option maxHeartbeats 3200000 in
theorem impl_redundant (a : Option Addr) (c : Nat) (l : List PInt) (k : Int) (B : Nat) (w : World) (hr : ReadsP w B (.slice a l.length c) l) (hB : B ≤ w.heap.size) (hcap : l.length ≤ c) (hlen : l.length ≤ 1048576) :
    Calls Try.prog 55 #[.slice a l.length c, .int .i64 k] w fun e w' => e = .returned (.bool (redundant l k)) ∧ Below w.heap.size w w' := by
  by_cases h : 0 ≤ k ∧ k ≤ (l.length : Int) - 1
  · obtain ⟨n, rfl⟩ := Int.eq_ofNat_of_zero_le h.1
    have hn : n < l.length := by omega
    have HX : Hid (redundant l (n : Int) = follows (without l n) (rl l n)) := Lib.hid (by rw [redundant_nat, isRed_at hn])
    obtain ⟨b, o, rfl, hb, h0, h1⟩ := readsP_at hr hn
    have c0 := fun q : Past w => Past.cell h0 (by show b < _; omega) q
    have c1 := fun q : Past w => Past.cell h1 (by show b < _; omega) q
    have d1 : decide ((n : Int) < 0) = false := by simp
    have d2 : decide ((l.length : Int) ≤ (n : Int)) = false := by simp; omega
    have hkq : n ≤ c := by omega
    have hkl : n + 1 ≤ l.length := hn
    have hkq1 : n + 1 ≤ c := by omega
    have hwr : IntKind.i64.wrap ((n : Int) + 1) = (n : Int) + 1 := by rw [IntKind.wrap_i64]; omega
    have htn : ((n : Int) + 1).toNat = n + 1 := by omega
    have hi0 : (0 : Int) ≤ (n : Int) + 1 := by omega
    have hi1 : (n : Int) + 1 ≤ (l.length : Int) := by omega
    have hnl : (n : Int) < (l.length : Int) := by omega
    have htl : (l.take n).length = n := by rw [List.length_take]; omega
    have hdl : (l.drop (n + 1)).length = l.length - (n + 1) := List.length_drop
    -- the two parts, laid in a list
    have key : ∀ (a2 : Option Addr) (m2 c2 : Nat), (l.drop (n + 1)).length = m2 → (∀ W : World, ReadsP W B (.slice (some ⟨b, o, none⟩) l.length c) l → ReadsP W B (.slice a2 (l.drop (n + 1)).length c2) (l.drop (n + 1))) → Hid (
        Calls Try.prog 117 #[.slice (some ⟨w.heap.size, 0, none⟩) 2 2] ((w.alloc (.cells #[.slice (some ⟨b, o, none⟩) n c, .slice a2 m2 c2] 28)).drew) fun e w' => ∃ au cu, e = .returned (.slice au (without l n).length cu) ∧ ∃ q : Past w, w' = q.w ∧ ReadsP q.w q.w.heap.size (.slice au (without l n).length cu) (without l n)) := fun a2 m2 c2 hm2 h2 => by
      have hrd := hr.below ((Past.start w).alloc (.cells #[.slice (some ⟨b, o, none⟩) n c, .slice a2 m2 c2] 28)).drew.h hB
      have hbx := (BoxAt.new w 28 #[.slice (some ⟨b, o, none⟩) n c, .slice a2 m2 c2]).drew
      have hc := SlP.concatR w.heap.size (some ⟨b, o, none⟩) a2 c c2 (l.take n) (l.drop (n + 1)) B ((w.alloc (.cells #[.slice (some ⟨b, o, none⟩) n c, .slice a2 m2 c2] 28)).drew)
        (by rw [htl]; exact hbx.cell 0) (by rw [hm2]; exact hbx.cell 1) hbx.lt
        (by rw [htl]; exact readsP_take hrd (by omega) c) (h2 _ hrd) (Nat.le_trans hB ((Past.start w).alloc (.cells #[.slice (some ⟨b, o, none⟩) n c, .slice a2 m2 c2] 28)).drew.size) (by rw [htl, hdl]; omega)
      exact Lib.hid (((Past.start w).alloc (.cells #[.slice (some ⟨b, o, none⟩) n c, .slice a2 m2 c2] 28)).drew.ofPairs hc)
    by_cases hqk : c = n + 1
    · have hdr : l.drop (n + 1) = [] := List.drop_of_length_le (by omega)
      have HCON := key (some ⟨b, o, none⟩) 0 0 (by rw [hdr]; rfl) (fun W _ => readsP_none _ _ hdr)
      clear hr h h0 h1 key
      subst hqk
      generalize rl l n = r at c0 c1 HX
      obtain ⟨x, y⟩ := r
      have HF := Lib.hid fun (q : Past w) (v : Value) (hq : ReadsP q.w q.w.heap.size v (without l n)) => q.of (impl_follows v (without l n) (x, y) q.w.heap.size q.w hq (Nat.le_refl _))
      generalize follows (without l n) (x, y) = d at HF HX
      go_enter Try.func55, Try.ntmps55
      go_wp2_with fail
      go_region_with (first | (go_at_call 117; (with_reducible refine HCON.out.mono ?_); rintro e _ ⟨au, cu, rfl, q, rfl, HRQ⟩) | fail)
      have HFQ := Lib.hid (HF.out q _ HRQ)
      have cq0 := c0 q
      have cq1 := c1 q
      clear HRQ
      go_wp2_with fail
      refine HFQ.out.mono ?_
      rintro e _ ⟨rfl, q2, rfl⟩
      have hbb := q2.h
      go_wp2_with fail
      go_ret
      exact ⟨by rw [HX.out]; rfl, hbb⟩
    · have hqk2 : ¬ n + 1 = c := fun h => hqk h.symm
      have HCON := key (some ⟨b, o + (n + 1) * 2, none⟩) (l.length - (n + 1)) (c - (n + 1)) hdl (fun W hW => by rw [hdl]; exact readsP_drop hW _)
      clear hr h h0 h1 key
      generalize rl l n = r at c0 c1 HX
      obtain ⟨x, y⟩ := r
      have HF := Lib.hid fun (q : Past w) (v : Value) (hq : ReadsP q.w q.w.heap.size v (without l n)) => q.of (impl_follows v (without l n) (x, y) q.w.heap.size q.w hq (Nat.le_refl _))
      generalize follows (without l n) (x, y) = d at HF HX
      go_enter Try.func55, Try.ntmps55
      go_wp2_with fail
      go_region_with (first | (go_at_call 117; (with_reducible refine HCON.out.mono ?_); rintro e _ ⟨au, cu, rfl, q, rfl, HRQ⟩) | fail)
      have HFQ := Lib.hid (HF.out q _ HRQ)
      have cq0 := c0 q
      have cq1 := c1 q
      clear HRQ
      go_wp2_with fail
      refine HFQ.out.mono ?_
      rintro e _ ⟨rfl, q2, rfl⟩
      have hbb := q2.h
      go_wp2_with fail
      go_ret
      exact ⟨by rw [HX.out]; rfl, hbb⟩
  · have HX := Lib.hid (redundant_no h)
    by_cases h0 : k < 0
    · have d1 : decide (k < 0) = true := decide_eq_true h0
      clear hr h
      go_enter Try.func55, Try.ntmps55
      go_wp2_with fail
      go_ret
      exact ⟨by rw [HX.out]; rfl, Below.refl _ _⟩
    · have d1 : decide (k < 0) = false := decide_eq_false h0
      have d2 : decide ((l.length : Int) ≤ k) = true := by simp; omega
      clear hr h
      go_enter Try.func55, Try.ntmps55
      go_wp2_with fail
      go_ret
      exact ⟨by rw [HX.out]; rfl, Below.refl _ _⟩
end Go.Proofs.Ytgkoggajdhibdaa.Infer

namespace Go.Proofs.Ytgkoggajdhibdaa.Infer
open Go Go.RowKit Mem Sets Ctx Tab Rule Stem Lectic
set_option maxRecDepth 100000

set_option maxHeartbeats 3200000 in
theorem impl_minimal (a : Option Addr) (c : Nat) (l : List PInt) (B : Nat) (w : World) (hr : ReadsP w B (.slice a l.length c) l) (hB : B ≤ w.heap.size) (hlen : l.length ≤ 1048576) :
    Calls Try.prog 41 #[.slice a l.length c] w fun e w' => ∃ u, e = .returned u ∧ OwnP 43 w' w.heap.size w'.heap.size u (minimal l) ∧ Below w.heap.size w w' := by
  have HL := Lib.hid ((Past.start w).of (areRulesOf 8 (.slice a l.length c) l B w hr hB))
  cases h8 : allIn 8 l with
  | false =>
    have HX := Lib.hid (minimal_no h8)
    rw [h8] at HL
    clear h8 hr
    go_enter Try.func41, Try.ntmps41
    go_wp2_with fail
    refine HL.out.mono ?_
    rintro e _ ⟨rfl, p, rfl⟩
    have HO := Lib.hid (OwnP.made (l := []) (n := 0) (World.ownsRow_nil p.w w.heap.size 43 2))
    have hbb := p.h
    go_wp2_with fail
    go_ret
    exact ⟨_, rfl, by rw [HX.out]; exact HO.out, hbb⟩
  | true =>
    have HX := Lib.hid (minimal_yes h8)
    rw [h8] at HL
    have HRD := Lib.hid fun q : Past w => q.ofB' (SlP.cloneR a c l B q.w (hr.below q.h hB) (Nat.le_trans hB q.size) (by omega))
    clear h8 hr
    go_enter Try.func41, Try.ntmps41
    go_wp2_with fail
    refine HL.out.mono ?_
    rintro e _ ⟨rfl, p, rfl⟩
    have hzp := p.size
    go_wp2_with fail
    refine (HRD.out p).mono ?_
    rintro e _ ⟨a1, c1, rfl, p1, rfl, o1⟩
    have HO1 := Lib.hid (o1.mono (lo' := w.heap.size) hzp (Nat.le_refl _))
    clear o1 HRD HL
    go_wp2_with fail
    go_loopw [3, 4] (fun ov kv wr => ∃ (l' : List PInt) (k : Nat) (au : Option Addr) (cu : Nat) (p : Past w), k ≤ l'.length ∧ kv = .int .i64 k ∧ ov = .slice au l'.length cu ∧ Hid (minF (l'.length - k) l' k = minimal l) ∧ l'.length ≤ l.length ∧ Hid (OwnP 43 p.w w.heap.size p.w.heap.size (.slice au l'.length cu) l') ∧ wr = p.w) (fun ov kv _ => lenV ov - (intOf kv).toNat)
    case atStart => exact ⟨l, 0, a1, c1, p1, Nat.zero_le _, rfl, rfl, HX, Nat.le_refl _, HO1, rfl⟩
    case round =>
      obtain ⟨l', k, au, cu, p2, hk, rfl, rfl, HM, hl2, HO2, rfl⟩ := hrel
      by_cases hlt : k < l'.length
      · have HC := Lib.hid (p2.ofB (impl_redundant au cu l' (k : Int) p2.w.heap.size p2.w HO2.out.reads (Nat.le_refl _) (capP HO2.out) (by omega)))
        rw [redundant_nat] at HC
        have HR := Lib.hid (minF_red hlt)
        have HN := Lib.hid (minF_next hlt)
        have hz2p := p2.size
        cases hd : isRed l' k with
        | true =>
          have HE := Lib.hid ((HR.out hd).symm.trans HM.out)
          have hwl := without_len hlt
          rw [hd] at HC
          clear hd HR HN
          go_wp2_with fail
          refine HC.out.mono ?_
          rintro e _ ⟨rfl, p3, rfl, b3⟩
          have HO3 := Lib.hid ((HO2.out.below b3 (Nat.le_refl _)).mono (Nat.le_refl _) b3.size)
          obtain ⟨g, rfl⟩ : ∃ g, au = some ⟨g, 0, none⟩ := by
            rcases HO3.out.1.2 with ⟨h1, h2⟩ | ⟨g, cap, cur, hv, _⟩
            · omega
            · injection hv with e1 e2 e3; exact ⟨g, e1⟩
          have HW := Lib.hid (SlP.deleteR g cu l' k w.heap.size p3.w.heap.size p3.w HO3.out hlt (by omega))
          clear b3
          go_wp2_with fail
          refine HW.out.mono ?_
          rintro e w4 ⟨rfl, o4, b4⟩
          have HP4 : Hid (∃ p4 : Past w, p4.w = w4) := Lib.hid ⟨⟨w4, p3.h.trans b4⟩, rfl⟩
          have HO4 := Lib.hid (o4.mono (Nat.le_refl _) b4.size)
          obtain ⟨p4, rfl⟩ := HP4.out
          clear o4 b4 HP4
          go_wp2_with fail
          go_roundw
          case rel => exact ⟨without l' k, k, _, cu, p4, by omega, rfl, by rw [hwl], HE, by omega, by rw [hwl]; exact HO4, rfl⟩
          case measure => simp [intOf, lenV]; omega
        | false =>
          have HE := Lib.hid ((HN.out hd).symm.trans HM.out)
          rw [hd] at HC
          clear hd HR HN
          go_wp2_with fail
          refine HC.out.mono ?_
          rintro e _ ⟨rfl, p3, rfl, b3⟩
          have HO3 := Lib.hid ((HO2.out.below b3 (Nat.le_refl _)).mono (Nat.le_refl _) b3.size)
          clear b3
          go_wp2_with fail
          go_roundw
          case rel => exact ⟨l', k + 1, au, cu, p3, hlt, by simp, rfl, HE, hl2, HO3, rfl⟩
          case measure => simp [intOf, lenV]; omega
      · have HE := Lib.hid ((minF_end (l := l') (k := k) (by omega)).symm.trans HM.out)
        have hbb := p2.h
        go_wp2_with fail
        go_ret
        exact ⟨_, rfl, by rw [← HE.out]; exact HO2.out, hbb⟩
/-- The shortest list is what going through all sets in lectic order finds. -/
theorem shortN_up {n : Nat} {l : List PInt} (hn : n ≤ 8) : Up (shortN n l) := by
  have h1 := sortPs_asc (cl := clN n l) hn
  unfold Up shortN shortP
  rw [List.pairwise_map]
  refine List.Pairwise.imp_of_mem (fun {x y} hx hy h => ?_) h1
  obtain ⟨u, hu, rfl⟩ := (sortPs_mem hn).1 hx
  obtain ⟨v, hv, rfl⟩ := (sortPs_mem hn).1 hy
  have := ps_256 hn hu
  have := ps_256 hn hv
  unfold key at h
  rw [Int.toNat_natCast, Int.toNat_natCast] at h ⊢
  rw [mirror_mir u (by omega), mirror_mir v (by omega)] at h
  exact h
theorem short_lec {n : Nat} {l : List PInt} (hn : n ≤ 6) : shortN n l = (lecN n).filter (isPs (clN n l) n) := by
  have hb := shortN_base (n := n) (l := l) (by omega)
  refine up_unique _ _ (shortN_up (by omega)) (List.Pairwise.sublist List.filter_sublist (lecN_up hn)) fun x => ?_
  rw [hb.mem, List.mem_filter, lecN_mem hn]
  unfold isPs
  rw [decide_eq_true_eq]
  exact ⟨fun h => ⟨ps_lt h, h⟩, fun h => h.2⟩
theorem short_all {n : Nat} {l : List PInt} (hn : n ≤ 6) : stemTo (clN n l) (lecN n) (2 ^ n) = shortOf n l := by
  rw [stemTo_eq hn _ (Nat.le_refl _), List.take_of_length_le (by rw [lecN_len]; exact Nat.le_refl _), ← short_lec hn]; rfl
theorem closedBy_N {n x : Nat} {l : List PInt} (h : areR (n : Int) l = true) (hx : x < 2 ^ n) : closedBy l (x : Int) = ((clN n l x : Nat) : Int) := by
  have hn := (areR_lt h).1
  have h8 := pow_le8 (n := n) (by omega)
  rw [closedBy, if_pos ⟨allIn_to8 (areR_all h), isSet8_true (by omega)⟩, Int.toNat_natCast, clN_eq hx]
theorem short_fn (v : Value) (l : List PInt) (x : Int) (B b : Nat) (w : World) (hr : ReadsP w B v l) (hB : B ≤ w.heap.size) (h0 : w.cell? ⟨b, 0, none⟩ = some v) :
    Calls Try.prog 111 #[.int .i64 x, .pointer (some ⟨b, 0, none⟩)] w fun e w' => e = .returned (.int .i64 (closedBy l x)) ∧ Below w.heap.size w w' := by
  have HC := Lib.hid (impl_closedBy v l x B w hr hB)
  obtain ⟨aa, ca, rfl⟩ := hr.form
  clear hr
  go_enter Try.func111, Try.ntmps111
  go_wp2_with fail
  refine HC.out.mono ?_
  rintro e w' ⟨rfl, hbb⟩
  go_wp2_with fail
  go_ret
  exact ⟨rfl, hbb⟩
set_option maxHeartbeats 3200000 in
theorem impl_shortR (n : Int) (v : Value) (l : List PInt) (B : Nat) (w : World) (hr : ReadsP w B v l) (hB : B ≤ w.heap.size) :
    Calls Try.prog 43 #[.int .i64 n, v] w fun e w' => ∃ u, e = .returned (.tuple #[u, .bool (areR n l)]) ∧ OwnP 43 w' w.heap.size w'.heap.size u (shortRules n l) ∧ Below w.heap.size w w' := by
  obtain ⟨aa, ca, rfl⟩ := hr.form
  have hW := (Below.refl w.heap.size w).alloc (Nat.le_refl _) (.cells #[.slice aa l.length ca] 28)
  have HR1 := Lib.hid (hr.below hW hB)
  have q0 : (w.alloc (.cells #[.slice aa l.length ca] 28)).cell? ⟨w.heap.size, 0, none⟩ = some (.slice aa l.length ca) := by simp
  have hz : w.heap.size < (w.alloc (.cells #[.slice aa l.length ca] 28)).heap.size := by simp
  clear hr
  go_enter Try.func43, Try.ntmps43
  go_wp2_with fail
  generalize w.alloc (.cells #[.slice aa l.length ca] 28) = W at HR1 hW q0 hz ⊢
  have hBW : B ≤ W.heap.size := by omega
  have k0 := fun p : Past W => Past.cell q0 (by show w.heap.size < _; omega) p
  have HBW := Lib.hid hW
  clear q0 hW
  refine ((Past.start W).of (impl_areRules n _ l B W HR1.out hBW)).mono ?_
  rintro e _ ⟨rfl, p, rfl⟩
  have kp0 := k0 p
  have hbb := HBW.out.trans (p.h.mono (by omega))
  have hpz := p.size
  cases ha : areR n l with
  | false =>
    have HX : Hid (shortRules n l = []) := Lib.hid (by rw [shortRules, if_neg (by rw [ha]; decide)])
    have HO := Lib.hid (ownP_nil 43 p.w w.heap.size)
    have HA := Lib.hid ha
    clear ha
    go_wp2_with fail
    go_ret2
    exact ⟨_, by rw [HA.out]; rfl, by rw [HX.out]; exact HO.out, hbb⟩
  | true =>
    have hnn := areR_nn ha
    obtain ⟨m, rfl⟩ := Int.eq_ofNat_of_zero_le hnn.1
    have hm6 : m ≤ 6 := by omega
    have HX : Hid (shortRules (m : Int) l = shortOf m l) := Lib.hid (by rw [shortRules, if_pos ha, Int.toNat_natCast])
    have HB := impl_closureBase m hm6 111 #[.pointer (some ⟨w.heap.size, 0, none⟩)] (clN m l) (clN_ok ha) p.w (enters_of Try.func111 (by kernel_rfl) rfl) (fun q x hx => by
      have := short_fn (.slice aa l.length ca) l (x : Int) B w.heap.size q.w (HR1.out.below (p.h.trans (q.h.mono p.size)) hBW) (Nat.le_trans hBW (up p q).size) (k0 (up p q))
      rw [closedBy_N ha hx] at this
      exact this)
    rw [short_all hm6, ← HX.out] at HB
    have HBH := Lib.hid HB
    have HA := Lib.hid ha
    clear ha hnn HB HR1 HX
    go_wp2_with fail
    refine HBH.out.mono ?_
    rintro e w2 ⟨u, rfl, o, b2⟩
    have hb2 := hbb.trans (b2.mono (by omega))
    have HO := Lib.hid (o.mono (lo' := w.heap.size) (by omega) (Nat.le_refl _))
    clear o b2
    go_wp2_with fail
    go_ret2
    exact ⟨_, by rw [HA.out]; rfl, HO.out, hb2⟩
end Go.Proofs.Ytgkoggajdhibdaa.Infer
