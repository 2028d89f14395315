/-
  The laws' own helpers over []string, one contract each: eqStringS compares, markStringS writes, heldStringS reads back.
-/
import Derived.Test.YtbpicpapkpomhaaDoorProg
import Derived.Test.YtbpicpapkpomhaaDoorOwn
import Derived.Test.YtbpicpapkpomhaaDoorMark
import Derived.WalkKit
import Derived.Outline
import Derived.LoopTactic
import Derived.RegionTactic
import Derived.Deep.RegionHeld3
import Derived.Lib.Hide
import Derived.OwnWalk
namespace Go.Proofs.YtbpicpapkpomhaaDoor.Strs
open Go.Proofs.YtbpicpapkpomhaaDoor.Mark
set_option maxRecDepth 100000
open Go Go.RowKit Mem

theorem infoS : (Tryd.prog.info? 9).map (fun i => (i.zero, i.size, i.bytes)) = some (some (.string ByteArray.empty), 1, 16) := by kernel_rfl
/-- Cells of strings. -/
abbrev strs (xs : List (List UInt8)) : List Value := xs.map fun l => .string ⟨l.toArray⟩
theorem strs_get (xs : List (List UInt8)) (j : Nat) (hj : j < xs.length) : (strs xs)[j]? = some (.string ⟨(xs.getD j []).toArray⟩) := by
  simp [strs, List.getD, List.getElem?_eq_getElem hj]
theorem take_both {xs ys : List (List UInt8)} {k : Nat} (hl : xs.length = ys.length) (hk : k < xs.length) (h : xs.take k = ys.take k) (he : xs.getD k [] = ys.getD k []) : xs.take (k + 1) = ys.take (k + 1) := by
  rw [List.take_add_one, List.take_add_one, h, List.getElem?_eq_getElem hk, List.getElem?_eq_getElem (by omega : k < ys.length)]
  simp only [List.getD, List.getElem?_eq_getElem hk, List.getElem?_eq_getElem (by omega : k < ys.length), Option.getD_some] at he
  rw [he]
theorem ne_at {xs ys : List (List UInt8)} {j : Nat} (h : ¬ xs.getD j [] = ys.getD j []) : (xs == ys) = false := by
  rw [beq_eq_false_iff_ne]; rintro rfl; exact h rfl
theorem eq_all {xs ys : List (List UInt8)} {k : Nat} (hl : xs.length = ys.length) (hk : k = xs.length) (h : xs.take k = ys.take k) : (xs == ys) = true := by
  rw [beq_iff_eq]
  rwa [List.take_of_length_le (by omega), List.take_of_length_le (by omega)] at h
theorem ne_len {xs ys : List (List UInt8)} (h : ¬ xs.length = ys.length) : (xs == ys) = false := by
  rw [beq_eq_false_iff_ne]; rintro rfl; exact h rfl

/-- Two rows of strings are compared. -/
theorem eqStrs (va vb : Value) (xs ys : List (List UInt8)) (Ba Bb : Nat) (w : World) (ha : Reads w Ba va (strs xs)) (hb : Reads w Bb vb (strs ys)) (hBa : Ba ≤ w.heap.size) (hBb : Bb ≤ w.heap.size) :
    Calls Tryd.prog 24 #[va, vb] w fun e w' => e = .returned (.bool (xs == ys)) ∧ Below w.heap.size w w' := by
  obtain ⟨hla, a, ca, rfl, hca⟩ := ha
  obtain ⟨hlb, b, cb, rfl, hcb⟩ := hb
  simp only [strs, List.length_map] at hla hlb hca hcb ⊢
  by_cases hl : xs.length = ys.length
  · by_cases hne : xs = []
    · subst hne
      have hy : ys = [] := List.length_eq_zero_iff.1 hl.symm
      subst hy
      clear hca hcb
      go_enter Tryd.func24, Tryd.ntmps24
      go_wp2_with fail
      refine wp_loop_rounds 1 ?_
      rw [rounds_succ]
      go_wp2
      go_ret
      exact ⟨rfl, Below.refl _ _⟩
    · have hney : ys ≠ [] := by rintro rfl; exact hne (List.length_eq_zero_iff.1 (by simpa using hl))
      obtain ⟨ba, oa, rfl, hba, gca⟩ := hca (by simpa using hne)
      obtain ⟨bb, ob, rfl, hbb, gcb⟩ := hcb (by simpa using hney)
      have hq : ((xs.length : Int) != (ys.length : Int)) = false := by simp [hl]
      have Hla : xs.length ≤ 9223372036854775807 := by unfold maxLen at hla; omega
      have Hlb : ys.length ≤ 9223372036854775807 := by unfold maxLen at hlb; omega
      have HA := Lib.hid gca
      have HB := Lib.hid gcb
      clear hca hcb gca gcb hla hlb
      have Hl := Lib.hid hl
      go_enter Tryd.func24, Tryd.ntmps24
      go_wp2_with fail
      go_loopw [5] (fun i wr => ∃ k : Nat, k ≤ xs.length ∧ i = .int .i64 k ∧ xs.take k = ys.take k ∧ Below w.heap.size w wr) (fun i _ => xs.length - (intOf i).toNat)
      case atStart => exact ⟨0, Nat.zero_le _, rfl, rfl, Below.refl _ _⟩
      case round =>
        obtain ⟨k, hk, rfl, heq, hb⟩ := hrel
        by_cases hlt : k < xs.length
        · have c1 : wr.cell? ⟨ba, oa + k, none⟩ = some (.string ⟨(xs.getD k []).toArray⟩) := (hb.cell (p := ⟨ba, oa + k, none⟩) (by show ba < _; omega)).trans ((HA.out k (by simpa using hlt)).trans (strs_get xs k hlt))
          have c2 : wr.cell? ⟨bb, ob + k, none⟩ = some (.string ⟨(ys.getD k []).toArray⟩) := (hb.cell (p := ⟨bb, ob + k, none⟩) (by show bb < _; omega)).trans ((HB.out k (by simpa using (by omega : k < ys.length))).trans (strs_get ys k (by omega)))
          have Hq := Lib.hid heq
          have hlt2 : k < ys.length := by omega
          clear heq
          by_cases hxy : xs.getD k [] = ys.getD k []
          · have hd : (xs.getD k [] == ys.getD k []) = true := by simp only [hxy, beq_self_eq_true]
            have Hxy := Lib.hid hxy
            clear hxy
            generalize hgx : xs.getD k [] = x at c1 hd
            generalize hgy : ys.getD k [] = y at c2 hd
            have Gx := Lib.hid hgx
            have Gy := Lib.hid hgy
            clear hgx hgy
            go_wp2
            go_region
            all_goals go_wp2
            all_goals go_roundw
            case rel => exact ⟨k + 1, by omega, by simp, take_both Hl.out hlt Hq.out Hxy.out, hb.drew⟩
            case measure => simp [intOf]; omega
          · have hd : (xs.getD k [] == ys.getD k []) = false := by simp only [beq_eq_false_iff_ne, ne_eq]; exact hxy
            have Hxy := Lib.hid hxy
            clear hxy
            generalize hgx : xs.getD k [] = x at c1 hd
            generalize hgy : ys.getD k [] = y at c2 hd
            have Gx := Lib.hid hgx
            have Gy := Lib.hid hgy
            clear hgx hgy
            go_wp2
            go_region
            all_goals go_wp2
            all_goals go_ret
            all_goals exact ⟨by rw [ne_at (j := k) Hxy.out]; rfl, hb.drew⟩
        · have hkn : k = xs.length := by omega
          have Hq := Lib.hid heq
          clear heq
          go_wp2
          go_ret
          exact ⟨by rw [eq_all Hl.out hkn Hq.out]; rfl, hb⟩
  · have hq : ((xs.length : Int) != (ys.length : Int)) = true := by simp; omega
    clear hca hcb
    go_enter Tryd.func24, Tryd.ntmps24
    go_wp2_with fail
    go_ret
    exact ⟨by rw [ne_len hl]; rfl, Below.refl _ _⟩

/-- The texts of the numbers from k on. -/
def seqS (k n : Nat) : List (List UInt8) := (List.range n).map fun i => mt (k + i)
theorem seqS_length (k n : Nat) : (seqS k n).length = n := by simp [seqS]
theorem seqS_get (k n j : Nat) (hj : j < n) : (seqS k n).getD j [] = mt (k + j) := by simp [seqS, List.getD, hj]
theorem seqS_set (k : Nat) (xs : List (List UInt8)) (j : Nat) (hj : j < xs.length) : (strs (seqS k j ++ xs.drop j)).set j (.string ⟨(mt (k + j)).toArray⟩) = strs (seqS k (j + 1) ++ xs.drop (j + 1)) := by
  apply List.ext_getElem?
  intro i
  rw [List.getElem?_set]
  simp only [strs, List.length_map, List.length_append, seqS_length, List.length_drop, List.getElem?_map]
  by_cases h : j = i
  · subst h
    rw [if_pos rfl, if_pos (by omega), List.getElem?_append_left (by rw [seqS_length]; omega)]
    simp [seqS]
  · rw [if_neg h]
    by_cases h1 : i < j
    · rw [List.getElem?_append_left (by rw [seqS_length]; omega), List.getElem?_append_left (by rw [seqS_length]; omega)]
      simp [seqS, h1, show i < j + 1 by omega]
    · rw [List.getElem?_append_right (by rw [seqS_length]; omega), List.getElem?_append_right (by rw [seqS_length]; omega)]
      simp only [seqS_length, List.getElem?_drop]
      rw [show j + (i - j) = i by omega, show j + 1 + (i - (j + 1)) = i by omega]

set_option maxHeartbeats 400000 in
/-- A row of one's own is written over with the texts of the numbers from k on. -/
theorem markStrs (v : Value) (xs : List (List UInt8)) (k : Nat) (lo hi : Nat) (w : World) (ho : Own 9 w lo hi v (strs xs)) (h1 : 1 ≤ k) (hk : k + xs.length ≤ 4000000) (hh : hi ≤ w.heap.size) :
    Calls Tryd.prog 27 #[v, .int .i64 k] w fun e w' => e = .returned (.int .i64 ((k + xs.length : Nat) : Int)) ∧ Own 9 w' lo hi v (strs (seqS k xs.length)) ∧ Apart lo hi w w' := by
  by_cases hne : xs = []
  · subst hne
    obtain ⟨_, a, ca, rfl, hca⟩ := ho.reads
    clear hca
    go_enter Tryd.func27, Tryd.ntmps27
    go_wp2_with fail
    refine wp_loop_rounds 1 ?_
    rw [rounds_succ]
    go_wp2
    go_ret
    exact ⟨by simp, ho, Apart.refl _ _ _⟩
  · have hv : ∃ g cap, v = .slice (some ⟨g, 0, none⟩) xs.length cap := by
      rcases ho.1.2 with ⟨_, h2⟩ | ⟨g, cap, cur, rfl, _⟩
      · exact absurd (List.length_eq_zero_iff.1 (by simpa [strs] using h2)) hne
      · exact ⟨g, cap, by simp [strs]⟩
    obtain ⟨g, cap, rfl⟩ := hv
    have HO := Lib.hid ho
    clear ho hne
    go_enter Tryd.func27, Tryd.ntmps27
    go_wp2_with fail
    go_loopw [1, 5] (fun m i wr => ∃ j : Nat, j ≤ xs.length ∧ i = .int .i64 j ∧ m = .int .i64 ((k + j : Nat) : Int) ∧ Own 9 wr lo hi (.slice (some ⟨g, 0, none⟩) xs.length cap) (strs (seqS k j ++ xs.drop j)) ∧ Apart lo hi w wr) (fun _ i _ => xs.length - (intOf i).toNat)
    case atStart => exact ⟨0, Nat.zero_le _, rfl, by simp, by simpa [seqS] using HO.out, Apart.refl _ _ _⟩
    case round =>
      obtain ⟨j, hj, rfl, rfl, hown, hap⟩ := hrel
      by_cases hlt : j < xs.length
      · have hlen : (strs (seqS k j ++ xs.drop j)).length = xs.length := by simp [strs, seqS_length]; omega
        have HP := Lib.hid hap
        have hsz := hap.size
        have HN := Lib.hid hown
        clear hown hap
        go_wp2_with fail
        refine (markText (k + j) (by omega) (by omega) _).mono ?_
        rintro e w1 ⟨rfl, b1⟩
        have hown := HN.out.below b1 (by omega)
        have hc : w1.cell? ⟨g, j, none⟩ = some (.string ⟨((seqS k j ++ xs.drop j).getD j []).toArray⟩) := by
          have := hown.1
          rw [hlen] at this
          rw [this.cellAt j (by omega), strs_get _ _ (by simpa [strs] using (by omega : j < (strs (seqS k j ++ xs.drop j)).length))]
        have hf : w1.frozen? ⟨g, j, none⟩ = false := by
          have := hown.1
          rw [hlen] at this
          exact this.frozenAt j
        have hlo := hown.1.lt g rfl
        have hhi := hown.2 g rfl
        have HN1 := Lib.hid hown
        have B1 := Lib.hid b1
        clear hown b1
        go_wp2
        go_roundw
        case rel =>
          have st := (hlen ▸ HN1.out.1).stored j (.string ⟨(mt (k + j)).toArray⟩)
          refine ⟨j + 1, by omega, by simp, by simp; omega, ⟨?_, fun q hq => HN1.out.2 q hq⟩, (HP.out.trans (Apart.of_below B1.out (by omega))).trans (Apart.grown st.2 fun q hq => by cases hq; omega)⟩
          have := st.1
          rw [seqS_set k xs j hlt] at this
          have hl2 : (strs (seqS k (j + 1) ++ xs.drop (j + 1))).length = xs.length := by simp [strs, seqS_length]; omega
          rw [hl2]
          simpa using this
        case measure => simp [intOf]; omega
      · have hjn : j = xs.length := by omega
        subst hjn
        have HN := Lib.hid hown
        clear hown
        go_wp2
        go_ret
        exact ⟨by simp, by simpa using HN.out, hap⟩

theorem keep1 {w wx w' : World} {p : Addr} {u : Value} (hp : p.block < w.heap.size) (h : wx.cell? p = some u ∧ Below w.heap.size w wx) (hb : Below wx.heap.size wx w') : w'.cell? p = some u ∧ Below w.heap.size w w' :=
  ⟨(hb.cell (Nat.lt_of_lt_of_le hp h.2.size)).trans h.1, h.2.trans (hb.mono h.2.size)⟩

set_option maxHeartbeats 400000 in
/-- A row is read back against the texts of the numbers from k on. -/
theorem heldStrs (v : Value) (xs : List (List UInt8)) (k n : Nat) (B : Nat) (w : World) (hr : Reads w B v (strs xs)) (hB : B ≤ w.heap.size) (hx : xs = seqS k n) (h1 : 1 ≤ k) (hk : k + n ≤ 4000000) :
    Calls Tryd.prog 28 #[v, .int .i64 k] w fun e w' => e = .returned (.int .i64 ((k + n : Nat) : Int)) ∧ Below w.heap.size w w' := by
  have hn : xs.length = n := by rw [hx, seqS_length]
  obtain ⟨hla, a, ca, rfl, hca⟩ := hr
  simp only [strs, List.length_map] at hla hca ⊢
  rw [hn]
  by_cases hne : xs = []
  · have h0 : n = 0 := by rw [← hn, hne]; rfl
    subst h0
    clear hca
    go_enter Tryd.func28, Tryd.ntmps28
    go_wp2_with fail
    refine wp_loop_rounds 1 ?_
    rw [rounds_succ]
    go_wp2
    go_ret
    exact ⟨by simp, Below.refl _ _⟩
  · obtain ⟨b, o, rfl, hb, gca⟩ := hca (by simpa using hne)
    have HC := Lib.hid gca
    have HX := Lib.hid hx
    have HL := Lib.hid hn
    clear hca gca hx hn hne hla
    go_enter Tryd.func28, Tryd.ntmps28
    go_wp2_with fail
    go_loopw [1, 5] (fun m i wr => ∃ j : Nat, j ≤ n ∧ i = .int .i64 j ∧ m = .int .i64 ((k + j : Nat) : Int) ∧ Below w.heap.size w wr) (fun _ i _ => n - (intOf i).toNat)
    case atStart => exact ⟨0, Nat.zero_le _, rfl, by simp, Below.refl _ _⟩
    case round =>
      obtain ⟨j, hj, rfl, rfl, hbel⟩ := hrel
      by_cases hlt : j < n
      · have hc : wr.cell? ⟨b, o + j, none⟩ = some (.string ⟨(mt (k + j)).toArray⟩) := by
          rw [hbel.cell (p := ⟨b, o + j, none⟩) (by show b < _; omega), HC.out j (by rw [HL.out]; exact hlt), ← strs, strs_get xs j (by rw [HL.out]; exact hlt), HX.out, seqS_get k n j hlt]
        have HB := Lib.hid hbel
        have hsz := hbel.size
        have HM := Lib.hid (markText (k + j) (by omega) (by omega))
        clear hbel
        generalize mt (k + j) = l at hc HM
        have hd : (l == l) = true := by simp
        go_wp2_with fail
        go_region_held3 (fun wx => wx.cell? ⟨b, o + j, none⟩ = some (.string ⟨l.toArray⟩) ∧ Below wr.heap.size wr wx) (first | exact ⟨hc, (Below.refl _ _).drew⟩ | exact keep1 (wx := wr.drew) (p := ⟨b, o + j, none⟩) (by show b < _; omega) ⟨hc, (Below.refl _ _).drew⟩ (by assumption) | exact keep1 (p := ⟨b, o + j, none⟩) (by show b < _; omega) ⟨by assumption, by assumption⟩ (by assumption))
          (first | (go_at_call 53; refine (HM.out _).mono ?_; rintro e w' ⟨rfl, hbx⟩))
        all_goals
          have hfin := HB.out.drew.trans (hbx.mono hsz)
          have HF := Lib.hid hfin
          clear hbx hfin
          go_wp2
          go_roundw
          case rel => exact ⟨j + 1, by omega, by simp, by simp; omega, HF.out⟩
          case measure => simp [intOf]; omega
      · have hjn : j = n := by omega
        subst hjn
        go_wp2
        go_ret
        exact ⟨by simp, hbel⟩


theorem copy_step (xs : List (List UInt8)) (ys : List Value) (j : Nat) (hj : j < xs.length) (hl : ys.length = xs.length) :
    (strs (xs.take j) ++ ys.drop j).set j (.string ⟨(xs.getD j []).toArray⟩) = strs (xs.take (j + 1)) ++ ys.drop (j + 1) := by
  rw [List.set_append_right _ _ (by simp [strs]; omega), List.drop_eq_getElem_cons (by omega : j < ys.length), List.take_add_one, List.getElem?_eq_getElem hj]
  have h1 : (strs (xs.take j)).length = j := by simp [strs]; omega
  rw [h1, Nat.sub_self, List.set_cons_zero]
  simp only [strs, List.getD, List.getElem?_eq_getElem hj, Option.getD_some, Option.toList_some, List.map_append, List.map_cons, List.map_nil, List.append_assoc, List.singleton_append]


/-- How much is left when rows of strings are counted off: none if there are more. -/
def lens (xs : List (List UInt8)) : Nat := (xs.map (·.length)).sum
theorem lens_take (xs : List (List UInt8)) (k : Nat) (h : k < xs.length) : lens (xs.take (k + 1)) = lens (xs.take k) + (xs.getD k []).length := by
  rw [List.take_add_one, List.getElem?_eq_getElem h]
  simp only [lens, List.getD, List.getElem?_eq_getElem h, Option.toList_some, List.map_append, List.sum_append, List.map_cons, List.map_nil, List.sum_cons, List.sum_nil, Nat.add_zero, Option.getD_some]
theorem lens_mono (xs : List (List UInt8)) (k : Nat) : lens (xs.take k) ≤ lens xs := by
  conv => rhs; rw [← List.take_append_drop k xs]
  simp only [lens, List.map_append, List.sum_append]
  omega
theorem lens_each (xs : List (List UInt8)) (j : Nat) (h : j < xs.length) : (xs.getD j []).length ≤ lens xs := by
  have h1 := lens_take xs j h
  have h2 := lens_mono xs (j + 1)
  omega
end Go.Proofs.YtbpicpapkpomhaaDoor.Strs
