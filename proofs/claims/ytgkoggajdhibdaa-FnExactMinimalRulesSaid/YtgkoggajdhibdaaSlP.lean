/-
  slices.Grow, Concat, Clone and Delete on lists of rules.
-/
import Derived.Test.YtgkoggajdhibdaaAppR
import Derived.Test.YtgkoggajdhibdaaRuleS
import Derived.Laws.IdiomCopy
import Derived.Lib.SliceRun
namespace Go.Proofs.Ytgkoggajdhibdaa.SlP
open Go Go.RowKit Mem Sets Ctx Tab Rule
set_option maxRecDepth 100000

theorem zeroRule (w : World) : (zeroValue 43).run Try.prog w = .ok (.agg #[.int .i64 0, .int .i64 0]) w := by kernel_rfl
theorem grow_row {w : World} {e : TypeId} {n cap : Nat} (hn : n ≤ cap) (hc : cap ≤ maxLen) :
    ((w.drew).alloc (.cells (Builtin.zeroCells (Value.agg #[.int .i64 0, .int .i64 0]).cells n ++ Builtin.zeroCells (Value.agg #[.int .i64 0, .int .i64 0]).cells (cap - n)) e)).ownsRow w.heap.size e 2 (.slice (some ⟨w.heap.size, 0, none⟩) 0 cap) 0 [] := by
  refine World.ownsRow_made (w := w.drew) _ cap (Nat.le_refl _) hc ?_
  rw [Array.size_append, size_zeroCells, size_zeroCells]
  show n * 2 + (cap - n) * 2 = cap * 2
  omega
set_option maxHeartbeats 1600000 in
theorem growR (n : Nat) (w : World) (hn : n ≤ 2097152) :
    Calls Try.prog 146 #[.slice none 0 0, .int .i64 (n : Int)] w fun e w' => ∃ v, e = .returned v ∧ w'.ownsRow w.heap.size 43 2 v 0 [] ∧ Below w.heap.size w w' := by
  obtain ⟨i0, hinf, hz0, hz1, hz2⟩ := info_parts PRule.infoT
  have hw1 : IntKind.i64.wrap ((n : Int) - 0) = (n : Int) := by rw [IntKind.wrap_i64]; omega
  have hlt : decide ((n : Int) < 0) = false := by simp
  by_cases h0 : n = 0
  · subst h0
    go_enter Try.func146, Try.ntmps146
    go_wp2_with fail
    go_ret
    exact ⟨_, rfl, World.ownsRow_nil _ _ _ _, Below.refl _ _⟩
  · have hgt : decide ((0 : Int) < (n : Int)) = true := by simp; omega
    have HRUN := Lib.hid fun ty => Lib.run_append_nil_zeros (P := Try.prog) w 28 3 ty 43 i0 (.agg #[.int .i64 0, .int .i64 0]) .i64 .i64 Try.underlying28 Try.underlying3 hinf hz0 n (by omega) (by omega) (by omega) (by rw [hz2]; omega)
    have hge := grownCap_ge w n 0 43
    have hml := grownCap_le_maxLen w n 0 43 (by unfold maxLen; omega)
    have HROW := Lib.hid (grow_row (w := w) (e := 43) hge hml)
    have HBB := Lib.hid (((Below.refl w.heap.size w).drew).alloc (Nat.le_refl _) (.cells (Builtin.zeroCells (Value.agg #[.int .i64 0, .int .i64 0]).cells n ++ Builtin.zeroCells (Value.agg #[.int .i64 0, .int .i64 0]).cells (grownCap w n 0 43 - n)) 43))
    obtain ⟨V, hV⟩ : ∃ V, (w.drew).alloc (.cells (Builtin.zeroCells (Value.agg #[.int .i64 0, .int .i64 0]).cells n ++ Builtin.zeroCells (Value.agg #[.int .i64 0, .int .i64 0]).cells (grownCap w n 0 43 - n)) 43) = V := ⟨_, rfl⟩
    rw [hV] at HRUN HROW HBB
    generalize grownCap w n 0 43 = cap at HRUN HROW hge hml
    clear hV
    go_enter Try.func146, Try.ntmps146
    go_wp2_with (at_builtin; refine Lib.wpList_append_run _ rfl _ _ _ _ rfl _ _ rfl rfl _ _ (HRUN.out _) ?_)
    go_wp2_with fail
    go_ret
    exact ⟨_, rfl, HROW.out, HBB.out⟩
theorem pair_cases {k : Nat} (h : k < 2) : k = 0 ∨ k = 1 := by omega
/-- What the first k of two lists hold. -/
def upTwo (l1 l2 : List PInt) : Nat → List PInt
  | 0 => []
  | 1 => l1
  | _ => l1 ++ l2
set_option maxHeartbeats 3200000 in
theorem concatR (q : Nat) (a1 a2 : Option Addr) (c1 c2 : Nat) (l1 l2 : List PInt) (B : Nat) (w : World) (h0 : w.cell? ⟨q, 0, none⟩ = some (.slice a1 l1.length c1)) (h1 : w.cell? ⟨q, 1, none⟩ = some (.slice a2 l2.length c2)) (hq : q < w.heap.size)
    (r1 : ReadsP w B (.slice a1 l1.length c1) l1) (r2 : ReadsP w B (.slice a2 l2.length c2) l2) (hB : B ≤ w.heap.size) (hl : l1.length + l2.length ≤ 2097152) :
    Calls Try.prog 117 #[.slice (some ⟨q, 0, none⟩) 2 2] w fun e w' => ∃ u, e = .returned u ∧ OwnP 43 w' w.heap.size w'.heap.size u (l1 ++ l2) ∧ Below w.heap.size w w' := by
  obtain ⟨i0, hinf, hz0, hz1, hz2⟩ := info_parts PRule.infoT
  have k0 := fun p : Past w => Past.cell h0 (by show q < _; omega) p
  have k1 := fun p : Past w => Past.cell h1 (by show q < _; omega) p
  have HR1 := Lib.hid fun p : Past w => r1.below p.h hB
  have HR2 := Lib.hid fun p : Past w => r2.below p.h hB
  have HG := Lib.hid (growR (l1.length + l2.length) w hl)
  have hw1 : IntKind.i64.wrap (0 + (l1.length : Int)) = (l1.length : Int) := by rw [IntKind.wrap_i64]; omega
  have hw2 : IntKind.i64.wrap ((l1.length : Int) + (l2.length : Int)) = ((l1.length + l2.length : Nat) : Int) := by rw [IntKind.wrap_i64]; omega
  have hn1 : decide ((l1.length : Int) < 0) = false := by simp
  have hn2 : decide (((l1.length + l2.length : Nat) : Int) < 0) = false := by simp; omega
  have M1 : Hid (0 + l1.length ≤ maxLen) := Lib.hid (by unfold maxLen; omega)
  have M2 : Hid ((0 + l1.length) * 16 ≤ 140737488355328) := Lib.hid (by omega)
  have M3 : Hid (l1.length + l2.length ≤ maxLen) := Lib.hid (by unfold maxLen; omega)
  have M4 : Hid ((l1.length + l2.length) * 16 ≤ 140737488355328) := Lib.hid (by omega)
  clear r1 r2
  go_enter Try.func117, Try.ntmps117
  go_wp2_with fail
  go_loop [3, 11] (fun sz i => ∃ k : Nat, k ≤ 2 ∧ i = .int .i64 k ∧ sz = .int .i64 ((upTwo l1 l2 k).length : Nat)) (fun _ i => 2 - (intOf i).toNat)
  case atStart => exact ⟨0, by omega, rfl, rfl⟩
  case round =>
    obtain ⟨k, hk, rfl, rfl⟩ := hrel
    by_cases hlt : k < 2
    · rcases pair_cases hlt with rfl | rfl
      · have e0 : ((upTwo l1 l2 0).length : Int) = 0 := rfl
        rw [e0]
        go_wp2_with fail
        go_round
        case rel => exact ⟨1, by omega, rfl, rfl⟩
        case measure => simp [intOf]
      · have e0 : ((upTwo l1 l2 1).length : Int) = (l1.length : Int) := rfl
        rw [e0]
        go_wp2_with fail
        go_round
        case rel => exact ⟨2, by omega, rfl, by rw [show (upTwo l1 l2 2) = l1 ++ l2 from rfl, List.length_append, Int.natCast_add]⟩
        case measure => simp [intOf]
    · have hk2 : k = 2 := by omega
      subst hk2
      rw [show (upTwo l1 l2 2) = l1 ++ l2 from rfl, List.length_append]
      go_wp2_with fail
      refine HG.out.mono ?_
      rintro e w1 ⟨v1, rfl, own1, b1⟩
      have HP1 : Hid (∃ p1 : Past w, p1.w = w1) := Lib.hid ⟨⟨w1, b1⟩, rfl⟩
      have HO1 := Lib.hid own1
      obtain ⟨p1, rfl⟩ := HP1.out
      clear own1 b1 HP1 HG
      go_wp2_with fail
      go_loopw [6, 27] (fun ov i wr => ∃ (k : Nat) (v0 : Value) (p : Past w), k ≤ 2 ∧ i = .int .i64 k ∧ ov = v0 ∧ Hid (p.w.ownsRow w.heap.size 43 2 v0 (upTwo l1 l2 k).length (prs (upTwo l1 l2 k))) ∧ wr = p.w) (fun _ i _ => 2 - (intOf i).toNat)
      case atStart => exact ⟨0, _, p1, by omega, rfl, rfl, HO1, rfl⟩
      case round =>
        obtain ⟨k, v0, p, hk, rfl, rfl, hown, rfl⟩ := hrel
        have kp0 := k0 p
        have kp1 := k1 p
        have hpz := p.size
        by_cases hlt : k < 2
        · rcases pair_cases hlt with rfl | rfl
          · have HO : Hid (p.w.ownsRow w.heap.size 43 2 _ 0 []) := hown
            clear hown
            go_wp2_with (at_builtin; refine wpList_append_reads rfl _ _ _ rfl w.heap.size 43 i0 (.agg #[.int .i64 0, .int .i64 0]) 16 Try.underlying28 hinf hz0 hz1 hz2 rfl _ 0 [] rfl HO.out a1 c1 l1 rfl B (HR1.out p) M1.out M2.out hpz ?_)
            intro v2 w2 own2 grow2
            have HP2 : Hid (∃ p2 : Past w, p2.w = w2) := Lib.hid ⟨⟨w2, p.h.grown grow2 p.size (fun q hq => (HO.out.lt q hq).1)⟩, rfl⟩
            obtain ⟨p2, rfl⟩ := HP2.out
            have HO2 : Hid (p2.w.ownsRow w.heap.size 43 2 v2 (upTwo l1 l2 1).length (prs (upTwo l1 l2 1))) := Lib.hid (by show p2.w.ownsRow _ _ 2 v2 l1.length (prs l1); simpa using own2)
            clear own2 grow2 HP2
            go_wp2_with fail
            go_roundw
            case rel => exact ⟨1, _, p2, by omega, rfl, rfl, HO2, rfl⟩
            case measure => simp [intOf]
          · have HO : Hid (p.w.ownsRow w.heap.size 43 2 _ l1.length (prs l1)) := hown
            clear hown
            go_wp2_with (at_builtin; refine wpList_append_reads rfl _ _ _ rfl w.heap.size 43 i0 (.agg #[.int .i64 0, .int .i64 0]) 16 Try.underlying28 hinf hz0 hz1 hz2 rfl _ _ _ rfl HO.out a2 c2 l2 rfl B (HR2.out p) M3.out M4.out hpz ?_)
            intro v2 w2 own2 grow2
            have HP2 : Hid (∃ p2 : Past w, p2.w = w2) := Lib.hid ⟨⟨w2, p.h.grown grow2 p.size (fun q hq => (HO.out.lt q hq).1)⟩, rfl⟩
            obtain ⟨p2, rfl⟩ := HP2.out
            have HO2 : Hid (p2.w.ownsRow w.heap.size 43 2 v2 (upTwo l1 l2 2).length (prs (upTwo l1 l2 2))) := Lib.hid (by show p2.w.ownsRow _ _ 2 v2 (l1 ++ l2).length (prs (l1 ++ l2)); rw [List.length_append, prs_app]; exact own2)
            clear own2 grow2 HP2
            go_wp2_with fail
            go_roundw
            case rel => exact ⟨2, _, p2, by omega, rfl, rfl, HO2, rfl⟩
            case measure => simp [intOf]
        · have hk2 : k = 2 := by omega
          subst hk2
          have HO := Lib.hid (show OwnP 43 p.w w.heap.size p.w.heap.size _ (l1 ++ l2) from OwnP.made hown.out)
          have hbb := p.h
          obtain ⟨av, cv, hov⟩ := rowP_form hown.out
          subst hov
          go_wp2_with fail
          go_ret
          exact ⟨_, rfl, HO.out, hbb⟩
set_option maxHeartbeats 1600000 in
theorem cloneR (a : Option Addr) (c : Nat) (l : List PInt) (B : Nat) (w : World) (hr : ReadsP w B (.slice a l.length c) l) (hB : B ≤ w.heap.size) (hl : l.length ≤ 2097152) :
    Calls Try.prog 108 #[.slice a l.length c] w fun e w' => ∃ u, e = .returned u ∧ OwnP 43 w' w.heap.size w'.heap.size u l ∧ Below w.heap.size w w' := by
  obtain ⟨i0, hinf, hz0, hz1, hz2⟩ := info_parts PRule.infoT
  have qnil := fun (w : World) (a : Option Addr) (n c n' c' : Nat) => Lib.run_eql_slice_nil (P := Try.prog) w 28 _ a n c n' c' Try.underlying28
  cases a with
  | none =>
    have h0 : l = [] := by
      cases l with
      | nil => rfl
      | cons x xs =>
        obtain ⟨_, a', c', hv, hc⟩ := hr
        injection hv with e1 e2 e3
        subst e1
        obtain ⟨b, o, h1, -⟩ := hc (by simp)
        cases h1
    subst h0
    clear hr
    go_enter Try.func108, Try.ntmps108
    go_wp2_with fail
    go_ret
    exact ⟨_, rfl, OwnP.made (n := 0) (World.ownsRow_nil _ _ _ _), Below.refl _ _⟩
  | some ad =>
    have HL0 := Lib.hid (World.ownsRow_lit (e := 43) (size := 2) w #[] 0 (Nat.le_refl _) (Nat.zero_le _) rfl)
    have HR := Lib.hid (hr.below ((Past.start w).alloc (.cells #[] 43)).h hB)
    have hz := ((Past.start w).alloc (.cells #[] 43)).size
    have M1 : Hid (0 + l.length ≤ maxLen) := Lib.hid (by unfold maxLen; omega)
    have M2 : Hid ((0 + l.length) * 16 ≤ 140737488355328) := Lib.hid (by omega)
    clear hr
    go_enter Try.func108, Try.ntmps108
    go_wp2_with (at_builtin; refine wpList_append_reads rfl _ _ _ rfl w.heap.size 43 i0 (.agg #[.int .i64 0, .int .i64 0]) 16 Try.underlying28 hinf hz0 hz1 hz2 rfl _ 0 [] rfl HL0.out (some ad) c l rfl B HR.out M1.out M2.out hz ?_)
    intro v2 w2 own2 grow2
    have HB := Lib.hid (((Past.start w).alloc (.cells #[] 43)).h.grown grow2 hz (fun q hq => (HL0.out.lt q hq).1))
    have HO : Hid (OwnP 43 w2 w.heap.size w2.heap.size v2 l) := Lib.hid (OwnP.made (n := 0 + l.length) (by simpa using own2))
    clear own2 grow2
    go_wp2_with fail
    go_ret
    exact ⟨_, rfl, HO.out, HB.out⟩
end Go.Proofs.Ytgkoggajdhibdaa.SlP
