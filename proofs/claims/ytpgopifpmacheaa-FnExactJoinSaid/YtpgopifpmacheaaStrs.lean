/-
  The laws' own helpers over []string, one contract each: eqStringS compares, markStringS writes, heldStringS reads back.
-/
import Derived.Test.YtpgopifpmacheaaProg
import Derived.Test.YtpgopifpmacheaaOwn
import Derived.WalkKit
import Derived.Outline
import Derived.LoopTactic
import Derived.RegionTactic
import Derived.Deep.RegionHeld3
import Derived.Lib.Hide
import Derived.OwnWalk
namespace Go.Proofs.Ytpgopifpmacheaa.Strs
open Go Go.RowKit Mem

theorem infoS : (Try.prog.info? 9).map (fun i => (i.zero, i.size, i.bytes)) = some (some (.string ByteArray.empty), 1, 16) := by kernel_rfl
/-- Cells of strings. -/
abbrev strs (xs : List (List UInt8)) : List Value := xs.map fun l => .string ⟨l.toArray⟩
theorem strs_get (xs : List (List UInt8)) (j : Nat) (hj : j < xs.length) : (strs xs)[j]? = some (.string ⟨(xs.getD j []).toArray⟩) := by
  simp [strs, List.getD, List.getElem?_eq_getElem hj]
theorem take_both {xs ys : List (List UInt8)} {k : Nat} (hl : xs.length = ys.length) (hk : k < xs.length) (h : xs.take k = ys.take k) (he : xs.getD k [] = ys.getD k []) : xs.take (k + 1) = ys.take (k + 1) := by
  rw [List.take_add_one, List.take_add_one, h, List.getElem?_eq_getElem hk, List.getElem?_eq_getElem (by omega : k < ys.length)]
  simp only [List.getD, List.getElem?_eq_getElem hk, List.getElem?_eq_getElem (by omega : k < ys.length), Option.getD_some] at he
  rw [he]
theorem ne_at {xs ys : List (List UInt8)} {j : Nat} (h : ¬ xs.getD j [] = ys.getD j []) : (xs == ys) = false := by
  rw [beq_eq_false_iff_ne]; rintro rfl; exact h rfl
theorem eq_all {xs ys : List (List UInt8)} {k : Nat} (hl : xs.length = ys.length) (hk : k = xs.length) (h : xs.take k = ys.take k) : (xs == ys) = true := by
  rw [beq_iff_eq]
  rwa [List.take_of_length_le (by omega), List.take_of_length_le (by omega)] at h
theorem ne_len {xs ys : List (List UInt8)} (h : ¬ xs.length = ys.length) : (xs == ys) = false := by
  rw [beq_eq_false_iff_ne]; rintro rfl; exact h rfl

/-- Two rows of strings are compared. -/
theorem eqStrs (va vb : Value) (xs ys : List (List UInt8)) (Ba Bb : Nat) (w : World) (ha : Reads w Ba va (strs xs)) (hb : Reads w Bb vb (strs ys)) (hBa : Ba ≤ w.heap.size) (hBb : Bb ≤ w.heap.size) :
    Calls Try.prog 8 #[va, vb] w fun e w' => e = .returned (.bool (xs == ys)) ∧ Below w.heap.size w w' := by
  obtain ⟨hla, a, ca, rfl, hca⟩ := ha
  obtain ⟨hlb, b, cb, rfl, hcb⟩ := hb
  simp only [strs, List.length_map] at hla hlb hca hcb ⊢
  by_cases hl : xs.length = ys.length
  · by_cases hne : xs = []
    · subst hne
      have hy : ys = [] := List.length_eq_zero_iff.1 hl.symm
      subst hy
      clear hca hcb
      go_enter Try.func8, Try.ntmps8
      go_wp2_with fail
      refine wp_loop_rounds 1 ?_
      rw [rounds_succ]
      go_wp2
      go_ret
      exact ⟨rfl, Below.refl _ _⟩
    · have hney : ys ≠ [] := by rintro rfl; exact hne (List.length_eq_zero_iff.1 (by simpa using hl))
      obtain ⟨ba, oa, rfl, hba, gca⟩ := hca (by simpa using hne)
      obtain ⟨bb, ob, rfl, hbb, gcb⟩ := hcb (by simpa using hney)
      have hq : ((xs.length : Int) != (ys.length : Int)) = false := by simp [hl]
      have Hla : xs.length ≤ 9223372036854775807 := by unfold maxLen at hla; omega
      have Hlb : ys.length ≤ 9223372036854775807 := by unfold maxLen at hlb; omega
      have HA := Lib.hid gca
      have HB := Lib.hid gcb
      clear hca hcb gca gcb hla hlb
      have Hl := Lib.hid hl
      go_enter Try.func8, Try.ntmps8
      go_wp2_with fail
      go_loopw [5] (fun i wr => ∃ k : Nat, k ≤ xs.length ∧ i = .int .i64 k ∧ xs.take k = ys.take k ∧ Below w.heap.size w wr) (fun i _ => xs.length - (intOf i).toNat)
      case atStart => exact ⟨0, Nat.zero_le _, rfl, rfl, Below.refl _ _⟩
      case round =>
        obtain ⟨k, hk, rfl, heq, hb⟩ := hrel
        by_cases hlt : k < xs.length
        · have c1 : wr.cell? ⟨ba, oa + k, none⟩ = some (.string ⟨(xs.getD k []).toArray⟩) := (hb.cell (p := ⟨ba, oa + k, none⟩) (by show ba < _; omega)).trans ((HA.out k (by simpa using hlt)).trans (strs_get xs k hlt))
          have c2 : wr.cell? ⟨bb, ob + k, none⟩ = some (.string ⟨(ys.getD k []).toArray⟩) := (hb.cell (p := ⟨bb, ob + k, none⟩) (by show bb < _; omega)).trans ((HB.out k (by simpa using (by omega : k < ys.length))).trans (strs_get ys k (by omega)))
          have Hq := Lib.hid heq
          have hlt2 : k < ys.length := by omega
          clear heq
          by_cases hxy : xs.getD k [] = ys.getD k []
          · have hd : (xs.getD k [] == ys.getD k []) = true := by simp only [hxy, beq_self_eq_true]
            have Hxy := Lib.hid hxy
            clear hxy
            generalize hgx : xs.getD k [] = x at c1 hd
            generalize hgy : ys.getD k [] = y at c2 hd
            have Gx := Lib.hid hgx
            have Gy := Lib.hid hgy
            clear hgx hgy
            go_wp2
            go_region
            all_goals go_wp2
            all_goals go_roundw
            case rel => exact ⟨k + 1, by omega, by simp, take_both Hl.out hlt Hq.out Hxy.out, hb.drew⟩
            case measure => simp [intOf]; omega
          · have hd : (xs.getD k [] == ys.getD k []) = false := by simp only [beq_eq_false_iff_ne, ne_eq]; exact hxy
            have Hxy := Lib.hid hxy
            clear hxy
            generalize hgx : xs.getD k [] = x at c1 hd
            generalize hgy : ys.getD k [] = y at c2 hd
            have Gx := Lib.hid hgx
            have Gy := Lib.hid hgy
            clear hgx hgy
            go_wp2
            go_region
            all_goals go_wp2
            all_goals go_ret
            all_goals exact ⟨by rw [ne_at (j := k) Hxy.out]; rfl, hb.drew⟩
        · have hkn : k = xs.length := by omega
          have Hq := Lib.hid heq
          clear heq
          go_wp2
          go_ret
          exact ⟨by rw [eq_all Hl.out hkn Hq.out]; rfl, hb⟩
  · have hq : ((xs.length : Int) != (ys.length : Int)) = true := by simp; omega
    clear hca hcb
    go_enter Try.func8, Try.ntmps8
    go_wp2_with fail
    go_ret
    exact ⟨by rw [ne_len hl]; rfl, Below.refl _ _⟩




theorem copy_step (xs : List (List UInt8)) (ys : List Value) (j : Nat) (hj : j < xs.length) (hl : ys.length = xs.length) :
    (strs (xs.take j) ++ ys.drop j).set j (.string ⟨(xs.getD j []).toArray⟩) = strs (xs.take (j + 1)) ++ ys.drop (j + 1) := by
  rw [List.set_append_right _ _ (by simp [strs]; omega), List.drop_eq_getElem_cons (by omega : j < ys.length), List.take_add_one, List.getElem?_eq_getElem hj]
  have h1 : (strs (xs.take j)).length = j := by simp [strs]; omega
  rw [h1, Nat.sub_self, List.set_cons_zero]
  simp only [strs, List.getD, List.getElem?_eq_getElem hj, Option.getD_some, Option.toList_some, List.map_append, List.map_cons, List.map_nil, List.append_assoc, List.singleton_append]

/-- A row of strings is copied into a new one. -/
theorem toStrs (v : Value) (xs : List (List UInt8)) (B : Nat) (w : World) (hr : Reads w B v (strs xs)) (hB : B ≤ w.heap.size) (hlen : xs.length ≤ 1048576) :
    Calls Try.prog 6 #[v] w fun e w' => ∃ u, e = .returned u ∧ Own 9 w' w.heap.size w'.heap.size u (strs xs) ∧ Below w.heap.size w w' := by
  obtain ⟨i0, hi, hz0, hz1, hz2⟩ := info_parts infoS
  obtain ⟨hla, a, ca, rfl, hca⟩ := hr
  simp only [strs, List.length_map] at hla hca ⊢
  by_cases hne : xs = []
  · subst hne
    clear hca
    go_enter Try.func6, Try.ntmps6
    go_wp2_with (at_make; refine wpList_make_full _ rfl _ _ 22 rfl w.heap.size 9 i0 (.string ByteArray.empty) 1 Try.underlying22 hi hz0 hz1 .i64 .i64 _ _ 0 rfl rfl rfl rfl (by omega) (by unfold maxLen; omega) (Nat.le_refl _) ?_; intro w0 hown0 hgrow0)
    refine wp_loop_rounds 1 ?_
    rw [rounds_succ]
    go_wp2
    go_ret
    exact ⟨_, rfl, Own.made (by simpa [madeCells] using hown0), (Below.refl _ _).grown hgrow0 (Nat.le_refl _) (fun q hq => by cases hq)⟩
  · obtain ⟨b, o, rfl, hb, gca⟩ := hca (by simpa using hne)
    have HC := Lib.hid gca
    have Hne := Lib.hid hne
    clear hca gca hla hne
    go_enter Try.func6, Try.ntmps6
    go_wp2_with (at_make; refine wpList_make_full _ rfl _ _ 22 rfl w.heap.size 9 i0 (.string ByteArray.empty) 1 Try.underlying22 hi hz0 hz1 .i64 .i64 _ _ xs.length rfl rfl rfl rfl (by rw [hz2]; omega) (by unfold maxLen; omega) (Nat.le_refl _) ?_; intro w0 hown0 hgrow0)
    have H0 := Lib.hid hown0
    have HG := Lib.hid hgrow0
    clear hown0 hgrow0
    have hsz : (madeCells (Value.string ByteArray.empty).cells (xs.length * 1)).toList.length = xs.length := by simp [size_madeCells]
    go_loopw [4] (fun i wr => ∃ j : Nat, j ≤ xs.length ∧ i = .int .i64 j ∧ wr.ownsRow w.heap.size 9 1 (.slice (some ⟨w.heap.size, 0, none⟩) xs.length xs.length) xs.length (strs (xs.take j) ++ (madeCells (Value.string ByteArray.empty).cells (xs.length * 1)).toList.drop j) ∧ Below w.heap.size w wr) (fun i _ => xs.length - (intOf i).toNat)
    case atStart => exact ⟨0, Nat.zero_le _, rfl, by simpa using H0.out, (Below.refl _ _).grown HG.out (Nat.le_refl _) (fun q hq => by cases hq)⟩
    case round =>
      obtain ⟨j, hj, rfl, hown, hbel⟩ := hrel
      have HN := Lib.hid hown
      have HP := Lib.hid hbel
      by_cases hlt : j < xs.length
      · have c1 : wr.cell? ⟨b, o + j, none⟩ = some (.string ⟨(xs.getD j []).toArray⟩) := (hbel.cell (p := ⟨b, o + j, none⟩) (by show b < _; omega)).trans ((HC.out j hlt).trans (strs_get xs j hlt))
        have hsome : ∃ u, wr.cell? ⟨w.heap.size, j, none⟩ = some u := by
          rw [hown.cellAt j (by omega)]
          have : j < (strs (xs.take j) ++ (madeCells (Value.string ByteArray.empty).cells (xs.length * 1)).toList.drop j).length := by
            rw [List.length_append, List.length_drop, hsz]; simp [strs]; omega
          exact ⟨_, List.getElem?_eq_getElem this⟩
        obtain ⟨u, c2⟩ := hsome
        have hf : wr.frozen? ⟨w.heap.size, j, none⟩ = false := hown.frozenAt j
        clear hown hbel
        generalize hgx : xs.getD j [] = x at c1
        have Hgx := Lib.hid hgx
        clear hgx
        go_wp2
        go_roundw
        case rel =>
          have hgx := Hgx.out
          subst hgx
          have st := HN.out.stored j (.string ⟨(xs.getD j []).toArray⟩)
          refine ⟨j + 1, by omega, by simp, ?_, HP.out.grown st.2 HP.out.size fun q hq => by cases hq; omega⟩
          have := st.1
          rw [copy_step xs _ j hlt hsz] at this
          simpa using this
        case measure => simp [intOf]; omega
      · have hjn : j = xs.length := by omega
        subst hjn
        clear hown hbel
        go_wp2
        go_ret
        refine ⟨_, rfl, Own.made (n := xs.length) ?_, HP.out⟩
        have := HN.out
        rw [List.take_length, List.drop_of_length_le (by rw [hsz]; omega), List.append_nil] at this
        exact this

/-- How much is left when rows of strings are counted off: none if there are more. -/
def lens (xs : List (List UInt8)) : Nat := (xs.map (·.length)).sum
theorem lens_take (xs : List (List UInt8)) (k : Nat) (h : k < xs.length) : lens (xs.take (k + 1)) = lens (xs.take k) + (xs.getD k []).length := by
  rw [List.take_add_one, List.getElem?_eq_getElem h]
  simp only [lens, List.getD, List.getElem?_eq_getElem h, Option.toList_some, List.map_append, List.sum_append, List.map_cons, List.map_nil, List.sum_cons, List.sum_nil, Nat.add_zero, Option.getD_some]
theorem lens_mono (xs : List (List UInt8)) (k : Nat) : lens (xs.take k) ≤ lens xs := by
  conv => rhs; rw [← List.take_append_drop k xs]
  simp only [lens, List.map_append, List.sum_append]
  omega
theorem lens_each (xs : List (List UInt8)) (j : Nat) (h : j < xs.length) : (xs.getD j []).length ≤ lens xs := by
  have h1 := lens_take xs j h
  have h2 := lens_mono xs (j + 1)
  omega
theorem szStrs (v : Value) (xs : List (List UInt8)) (B : Nat) (w : World) (hr : Reads w B v (strs xs)) (hx : ∀ j, j < xs.length → (xs.getD j []).length ≤ 9223372036854775807) :
    Calls Try.prog 4 #[v, .int .i64 1048576] w fun e w' => e = .returned (.int .i64 (if xs.length + lens xs ≤ 1048576 then 1048576 - ((xs.length + lens xs : Nat) : Int) else -1)) ∧ w' = w := by
  obtain ⟨hla, a, ca, rfl, hca⟩ := hr
  simp only [strs, List.length_map] at hla hca ⊢
  have hm : xs.length ≤ 9223372036854775807 := by unfold maxLen at hla; omega
  by_cases hbig : 1048576 < xs.length
  · have hd : decide ((1048576 : Int) - (xs.length : Int) < 0) = true := by simp; omega
    rw [if_neg (by omega)]
    clear hca hla
    go_enter Try.func4, Try.ntmps4
    go_wp2_with fail
    go_ret
    exact ⟨rfl, rfl⟩
  · have hd : decide ((1048576 : Int) - (xs.length : Int) < 0) = false := by simp; omega
    have HC : Hid (∀ j, j < xs.length → ∃ b o, a = some ⟨b, o, none⟩ ∧ w.cell? ⟨b, o + j, none⟩ = some (.string ⟨(xs.getD j []).toArray⟩)) := Lib.hid fun j hj => by
      obtain ⟨b, o, ha, hb, hc⟩ := hca (by simp; rintro rfl; simp at hj)
      exact ⟨b, o, ha, (hc j hj).trans (strs_get xs j hj)⟩
    have HX := Lib.hid hx
    clear hca hla hx
    go_enter Try.func4, Try.ntmps4
    go_wp2_with fail
    go_loop [1, 5] (fun t i => ∃ k : Nat, k ≤ xs.length ∧ i = .int .i64 k ∧ xs.length + lens (xs.take k) ≤ 1048576 ∧ t = .int .i64 (1048576 - ((xs.length + lens (xs.take k) : Nat) : Int))) (fun _ i => xs.length - (intOf i).toNat)
    case atStart => exact ⟨0, Nat.zero_le _, rfl, by simp [lens]; omega, by simp [lens]⟩
    case round =>
      obtain ⟨k, hk, rfl, hs, rfl⟩ := hrel
      by_cases hlt : k < xs.length
      · obtain ⟨b, o, rfl, hc⟩ := HC.out k hlt
        have hxk := HX.out k hlt
        have HT := Lib.hid (lens_take xs k hlt)
        have HM := Lib.hid (lens_mono xs (k + 1))
        generalize hgx : xs.getD k [] = x at hc hxk HT
        have hxsz : (⟨x.toArray⟩ : ByteArray).size = x.length := by simp [ByteArray.size]
        generalize hgs : lens (xs.take k) = s at hs HT
        clear hgx hgs
        by_cases hb2 : xs.length + s + x.length ≤ 1048576
        · go_wp2_with fail
          go_round
          case rel => exact ⟨k + 1, by omega, by simp, by rw [HT.out]; omega, by rw [HT.out]; congr 1; omega⟩
          case measure => simp [intOf]; omega
        · have hfin : ¬ (xs.length + lens xs ≤ 1048576) := by have := HT.out; have := HM.out; omega
          have HF := Lib.hid hfin
          clear hfin
          go_wp2_with fail
          go_ret
          exact ⟨by first | rfl | (rw [if_neg HF.out]; rfl), rfl⟩
      · have hkn : k = xs.length := by omega
        have HK := Lib.hid hkn
        have hfin : xs.length + lens xs ≤ 1048576 := by rw [hkn, List.take_length] at hs; exact hs
        have HF := Lib.hid hfin
        have HL : Hid (lens (xs.take k) = lens xs) := Lib.hid (by rw [hkn, List.take_length])
        generalize hgs : lens (xs.take k) = s at hs HL
        clear hkn hfin hgs
        go_wp2_with fail
        go_ret
        exact ⟨by first | (rw [← HL.out]; rfl) | (rw [if_pos HF.out, ← HL.out]; rfl), rfl⟩
end Go.Proofs.Ytpgopifpmacheaa.Strs
