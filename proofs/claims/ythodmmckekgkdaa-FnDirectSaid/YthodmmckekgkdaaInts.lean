/-
  The laws' own helpers over []int, one contract each: eqIntS compares, markIntS writes, heldIntS reads back, toIntS copies.
-/
import Derived.Test.YthodmmckekgkdaaProg
import Derived.Test.YthodmmckekgkdaaOwn
import Derived.WalkKit
import Derived.Outline
import Derived.LoopTactic
import Derived.RegionTactic
import Derived.Lib.Hide
import Derived.OwnWalk
namespace Go.Proofs.Ythodmmckekgkdaa.Ints
open Go Go.RowKit Mem
set_option maxRecDepth 100000

theorem info : (Try.prog.info? 3).map (fun i => (i.zero, i.size, i.bytes)) = some (some (.int .i64 0), 1, 8) := by kernel_rfl

theorem take_both {xs ys : List Int} {k : Nat} (hl : xs.length = ys.length) (hk : k < xs.length) (h : xs.take k = ys.take k) (he : xs.getD k 0 = ys.getD k 0) : xs.take (k + 1) = ys.take (k + 1) := by
  rw [List.take_add_one, List.take_add_one, h, List.getElem?_eq_getElem hk, List.getElem?_eq_getElem (by omega : k < ys.length)]
  simp only [List.getD, List.getElem?_eq_getElem hk, List.getElem?_eq_getElem (by omega : k < ys.length), Option.getD_some] at he
  rw [he]
theorem ne_at {xs ys : List Int} {j : Nat} (h : ¬ xs.getD j 0 = ys.getD j 0) : (xs == ys) = false := by
  rw [beq_eq_false_iff_ne]; rintro rfl; exact h rfl
theorem eq_all {xs ys : List Int} {k : Nat} (hl : xs.length = ys.length) (hk : k = xs.length) (h : xs.take k = ys.take k) : (xs == ys) = true := by
  rw [beq_iff_eq]
  rwa [List.take_of_length_le (by omega), List.take_of_length_le (by omega)] at h
theorem ne_len {xs ys : List Int} (h : ¬ xs.length = ys.length) : (xs == ys) = false := by
  rw [beq_eq_false_iff_ne]; rintro rfl; exact h rfl

theorem copy_step (xs : List Int) (ys : List Value) (j : Nat) (hj : j < xs.length) (hl : ys.length = xs.length) :
    (ints (xs.take j) ++ ys.drop j).set j (.int .i64 (xs.getD j 0)) = ints (xs.take (j + 1)) ++ ys.drop (j + 1) := by
  rw [List.set_append_right _ _ (by simp [ints]; omega), List.drop_eq_getElem_cons (by omega : j < ys.length), List.take_add_one, List.getElem?_eq_getElem hj]
  have h1 : (ints (xs.take j)).length = j := by simp [ints]; omega
  rw [h1, Nat.sub_self, List.set_cons_zero]
  simp only [ints, List.getD, List.getElem?_eq_getElem hj, Option.getD_some, Option.toList_some, List.map_append, List.map_cons, List.map_nil, List.append_assoc, List.singleton_append]

/-- Two rows are compared. -/
theorem eqInts (va vb : Value) (xs ys : List Int) (Ba Bb : Nat) (w : World) (ha : Reads w Ba va (ints xs)) (hb : Reads w Bb vb (ints ys)) (hBa : Ba ≤ w.heap.size) (hBb : Bb ≤ w.heap.size) :
    Calls Try.prog 43 #[va, vb] w fun e w' => e = .returned (.bool (xs == ys)) ∧ Below w.heap.size w w' := by
  obtain ⟨hla, a, ca, rfl, hca⟩ := ha
  obtain ⟨hlb, b, cb, rfl, hcb⟩ := hb
  simp only [ints, List.length_map] at hla hlb hca hcb ⊢
  by_cases hl : xs.length = ys.length
  · by_cases hne : xs = []
    · subst hne
      have hy : ys = [] := List.length_eq_zero_iff.1 hl.symm
      subst hy
      clear hca hcb
      go_enter Try.func43, Try.ntmps43
      go_wp2_with fail
      refine wp_loop_rounds 1 ?_
      rw [rounds_succ]
      go_wp2
      go_ret
      exact ⟨rfl, Below.refl _ _⟩
    · have hney : ys ≠ [] := by rintro rfl; exact hne (List.length_eq_zero_iff.1 (by simpa using hl))
      obtain ⟨ba, oa, rfl, hba, gca⟩ := hca (by simpa using hne)
      obtain ⟨bb, ob, rfl, hbb, gcb⟩ := hcb (by simpa using hney)
      have hq : ((xs.length : Int) != (ys.length : Int)) = false := by simp [hl]
      have Hla : xs.length ≤ 9223372036854775807 := by unfold maxLen at hla; omega
      have Hlb : ys.length ≤ 9223372036854775807 := by unfold maxLen at hlb; omega
      have HA := Lib.hid gca
      have HB := Lib.hid gcb
      clear hca hcb gca gcb hla hlb
      have Hl := Lib.hid hl
      go_enter Try.func43, Try.ntmps43
      go_wp2_with fail
      go_loopw [5] (fun i wr => ∃ k : Nat, k ≤ xs.length ∧ i = .int .i64 k ∧ xs.take k = ys.take k ∧ Below w.heap.size w wr) (fun i _ => xs.length - (intOf i).toNat)
      case atStart => exact ⟨0, Nat.zero_le _, rfl, rfl, Below.refl _ _⟩
      case round =>
        obtain ⟨k, hk, rfl, heq, hb⟩ := hrel
        by_cases hlt : k < xs.length
        · have c1 : wr.cell? ⟨ba, oa + k, none⟩ = some (.int .i64 (xs.getD k 0)) := (hb.cell (p := ⟨ba, oa + k, none⟩) (by show ba < _; omega)).trans ((HA.out k (by simpa using hlt)).trans (ints_get xs k hlt))
          have c2 : wr.cell? ⟨bb, ob + k, none⟩ = some (.int .i64 (ys.getD k 0)) := (hb.cell (p := ⟨bb, ob + k, none⟩) (by show bb < _; omega)).trans ((HB.out k (by simpa using (by omega : k < ys.length))).trans (ints_get ys k (by omega)))
          have Hq := Lib.hid heq
          have hlt2 : k < ys.length := by omega
          clear heq
          by_cases hxy : xs.getD k 0 = ys.getD k 0
          · have hd : (xs.getD k 0 != ys.getD k 0) = false := by simp only [hxy, bne_self_eq_false]
            have Hxy := Lib.hid hxy
            clear hxy
            generalize hgx : xs.getD k 0 = x at c1 hd
            generalize hgy : ys.getD k 0 = y at c2 hd
            have Gx := Lib.hid hgx
            have Gy := Lib.hid hgy
            clear hgx hgy
            go_wp2
            go_region
            all_goals go_wp2
            all_goals go_roundw
            case rel => exact ⟨k + 1, by omega, by simp, take_both Hl.out hlt Hq.out Hxy.out, hb.drew⟩
            case measure => simp [intOf]; omega
          · have hd : (xs.getD k 0 != ys.getD k 0) = true := by simp only [bne_iff_ne, ne_eq]; exact hxy
            have Hxy := Lib.hid hxy
            clear hxy
            generalize hgx : xs.getD k 0 = x at c1 hd
            generalize hgy : ys.getD k 0 = y at c2 hd
            have Gx := Lib.hid hgx
            have Gy := Lib.hid hgy
            clear hgx hgy
            go_wp2
            go_region
            all_goals go_wp2
            all_goals go_ret
            all_goals exact ⟨by rw [ne_at (j := k) Hxy.out]; rfl, hb.drew⟩
        · have hkn : k = xs.length := by omega
          have Hq := Lib.hid heq
          clear heq
          go_wp2
          go_ret
          exact ⟨by rw [eq_all Hl.out hkn Hq.out]; rfl, hb⟩
  · have hq : ((xs.length : Int) != (ys.length : Int)) = true := by simp; omega
    clear hca hcb
    go_enter Try.func43, Try.ntmps43
    go_wp2_with fail
    go_ret
    exact ⟨by rw [ne_len hl]; rfl, Below.refl _ _⟩

/-- A row of one's own is written over with the numbers from k on. -/
theorem markInts (v : Value) (xs : List Int) (k : Nat) (lo hi : Nat) (w : World) (ho : Own 3 w lo hi v (ints xs)) (hk : k + xs.length ≤ 9223372036854775807) :
    Calls Try.prog 46 #[v, .int .i64 k] w fun e w' => e = .returned (.int .i64 ((k + xs.length : Nat) : Int)) ∧ Own 3 w' lo hi v (ints (seq k xs.length)) ∧ Apart lo hi w w' := by
  by_cases hne : xs = []
  · subst hne
    obtain ⟨_, a, ca, rfl, hca⟩ := ho.reads
    clear hca
    go_enter Try.func46, Try.ntmps46
    go_wp2_with fail
    refine wp_loop_rounds 1 ?_
    rw [rounds_succ]
    go_wp2
    go_ret
    exact ⟨by simp, ho, Apart.refl _ _ _⟩
  · have hv : ∃ g cap, v = .slice (some ⟨g, 0, none⟩) xs.length cap := by
      rcases ho.1.2 with ⟨_, h2⟩ | ⟨g, cap, cur, rfl, _⟩
      · exact absurd (List.length_eq_zero_iff.1 (by simpa [ints] using h2)) hne
      · exact ⟨g, cap, by simp [ints]⟩
    obtain ⟨g, cap, rfl⟩ := hv
    have HO := Lib.hid ho
    clear ho hne
    go_enter Try.func46, Try.ntmps46
    go_wp2_with fail
    go_loopw [1, 5] (fun m i wr => ∃ j : Nat, j ≤ xs.length ∧ i = .int .i64 j ∧ m = .int .i64 ((k + j : Nat) : Int) ∧ Own 3 wr lo hi (.slice (some ⟨g, 0, none⟩) xs.length cap) (ints (seq k j ++ xs.drop j)) ∧ Apart lo hi w wr) (fun _ i _ => xs.length - (intOf i).toNat)
    case atStart => exact ⟨0, Nat.zero_le _, rfl, by simp, by simpa [seq] using HO.out, Apart.refl _ _ _⟩
    case round =>
      obtain ⟨j, hj, rfl, rfl, hown, hap⟩ := hrel
      by_cases hlt : j < xs.length
      · have HN := Lib.hid hown
        have HP := Lib.hid hap
        have hlen : (ints (seq k j ++ xs.drop j)).length = xs.length := by simp [ints, seq_length]; omega
        have hc : wr.cell? ⟨g, j, none⟩ = some (.int .i64 ((seq k j ++ xs.drop j).getD j 0)) := by
          have := hown.1
          rw [hlen] at this
          rw [this.cellAt j (by omega), ints_get _ _ (by simpa [ints] using (by omega : j < (ints (seq k j ++ xs.drop j)).length))]
        have hf : wr.frozen? ⟨g, j, none⟩ = false := by
          have := hown.1
          rw [hlen] at this
          exact this.frozenAt j
        have hlo := hown.1.lt g rfl
        have hhi := hown.2 g rfl
        clear hown hap
        go_wp2
        go_roundw
        case rel =>
          have st := (hlen ▸ HN.out.1).stored j (.int .i64 ((k + j : Nat) : Int))
          refine ⟨j + 1, by omega, by simp, by simp; omega, ⟨?_, fun q hq => HN.out.2 q hq⟩, HP.out.trans (Apart.grown st.2 fun q hq => by cases hq; omega)⟩
          have := st.1
          rw [seq_set k xs j hlt] at this
          have hl2 : (ints (seq k (j + 1) ++ xs.drop (j + 1))).length = xs.length := by simp [ints, seq_length]; omega
          rw [hl2]
          simpa using this
        case measure => simp [intOf]; omega
      · have hjn : j = xs.length := by omega
        subst hjn
        have HN := Lib.hid hown
        clear hown
        go_wp2
        go_ret
        exact ⟨by simp, by simpa using HN.out, hap⟩

/-- A row is read back against the numbers from k on. -/
theorem heldInts (v : Value) (xs : List Int) (k n : Nat) (B : Nat) (w : World) (hr : Reads w B v (ints xs)) (hx : xs = seq k n) (hk : k + n ≤ 9223372036854775807) :
    Calls Try.prog 47 #[v, .int .i64 k] w fun e w' => e = .returned (.int .i64 ((k + n : Nat) : Int)) ∧ w' = w := by
  have hn : xs.length = n := by rw [hx, seq_length]
  obtain ⟨hla, a, ca, rfl, hca⟩ := hr
  simp only [ints, List.length_map] at hla hca ⊢
  rw [hn]
  by_cases hne : xs = []
  · have h0 : n = 0 := by rw [← hn, hne]; rfl
    subst h0
    clear hca
    go_enter Try.func47, Try.ntmps47
    go_wp2_with fail
    refine wp_loop_rounds 1 ?_
    rw [rounds_succ]
    go_wp2
    go_ret
    exact ⟨by simp, rfl⟩
  · obtain ⟨b, o, rfl, hb, gca⟩ := hca (by simpa using hne)
    have HC := Lib.hid gca
    have HX := Lib.hid hx
    have HL := Lib.hid hn
    clear hca gca hx hn hne hla
    go_enter Try.func47, Try.ntmps47
    go_wp2_with fail
    go_loop [1, 5] (fun m i => ∃ j : Nat, j ≤ n ∧ i = .int .i64 j ∧ m = .int .i64 ((k + j : Nat) : Int)) (fun _ i => n - (intOf i).toNat)
    case atStart => exact ⟨0, Nat.zero_le _, rfl, by simp⟩
    case round =>
      obtain ⟨j, hj, rfl, rfl⟩ := hrel
      by_cases hlt : j < n
      · have hc : w.cell? ⟨b, o + j, none⟩ = some (.int .i64 ((k + j : Nat) : Int)) := by
          rw [HC.out j (by rw [HL.out]; exact hlt), ← ints, ints_get xs j (by rw [HL.out]; exact hlt), HX.out, seq_get k n j hlt]
        have hd : ((((k + j : Nat) : Int)) != ((k + j : Nat) : Int)) = false := by simp
        go_wp2
        go_round
        case rel => exact ⟨j + 1, by omega, by simp, by simp; omega⟩
        case measure => simp [intOf]; omega
      · have hjn : j = n := by omega
        subst hjn
        go_wp2
        go_ret
        exact ⟨by simp, rfl⟩

/-- A row is copied into a new one. -/
theorem toInts (v : Value) (xs : List Int) (B : Nat) (w : World) (hr : Reads w B v (ints xs)) (hB : B ≤ w.heap.size) (hlen : xs.length ≤ 1048576) :
    Calls Try.prog 92 #[v] w fun e w' => ∃ u, e = .returned u ∧ Own 3 w' w.heap.size w'.heap.size u (ints xs) ∧ Below w.heap.size w w' := by
  obtain ⟨i0, hi, hz0, hz1, hz2⟩ := info_parts info
  obtain ⟨hla, a, ca, rfl, hca⟩ := hr
  simp only [ints, List.length_map] at hla hca ⊢
  by_cases hne : xs = []
  · subst hne
    clear hca
    go_enter Try.func92, Try.ntmps92
    go_wp2_with (at_make; refine wpList_make_full _ rfl _ _ 24 rfl w.heap.size 3 i0 (.int .i64 0) 1 Try.underlying24 hi hz0 hz1 .i64 .i64 _ _ 0 rfl rfl rfl rfl (by omega) (by unfold maxLen; omega) (Nat.le_refl _) ?_; intro w0 hown0 hgrow0)
    refine wp_loop_rounds 1 ?_
    rw [rounds_succ]
    go_wp2
    go_ret
    exact ⟨_, rfl, Own.made (by simpa [madeCells] using hown0), (Below.refl _ _).grown hgrow0 (Nat.le_refl _) (fun q hq => by cases hq)⟩
  · obtain ⟨b, o, rfl, hb, gca⟩ := hca (by simpa using hne)
    have HC := Lib.hid gca
    have Hne := Lib.hid hne
    clear hca gca hla hne
    go_enter Try.func92, Try.ntmps92
    go_wp2_with (at_make; refine wpList_make_full _ rfl _ _ 24 rfl w.heap.size 3 i0 (.int .i64 0) 1 Try.underlying24 hi hz0 hz1 .i64 .i64 _ _ xs.length rfl rfl rfl rfl (by rw [hz2]; omega) (by unfold maxLen; omega) (Nat.le_refl _) ?_; intro w0 hown0 hgrow0)
    have H0 := Lib.hid hown0
    have HG := Lib.hid hgrow0
    clear hown0 hgrow0
    have hsz : (madeCells (Value.int .i64 0).cells (xs.length * 1)).toList.length = xs.length := by simp [size_madeCells]
    go_loopw [4] (fun i wr => ∃ j : Nat, j ≤ xs.length ∧ i = .int .i64 j ∧ wr.ownsRow w.heap.size 3 1 (.slice (some ⟨w.heap.size, 0, none⟩) xs.length xs.length) xs.length (ints (xs.take j) ++ (madeCells (Value.int .i64 0).cells (xs.length * 1)).toList.drop j) ∧ Below w.heap.size w wr) (fun i _ => xs.length - (intOf i).toNat)
    case atStart => exact ⟨0, Nat.zero_le _, rfl, by simpa using H0.out, (Below.refl _ _).grown HG.out (Nat.le_refl _) (fun q hq => by cases hq)⟩
    case round =>
      obtain ⟨j, hj, rfl, hown, hbel⟩ := hrel
      have HN := Lib.hid hown
      have HP := Lib.hid hbel
      by_cases hlt : j < xs.length
      · have c1 : wr.cell? ⟨b, o + j, none⟩ = some (.int .i64 (xs.getD j 0)) := (hbel.cell (p := ⟨b, o + j, none⟩) (by show b < _; omega)).trans ((HC.out j hlt).trans (ints_get xs j hlt))
        have hsome : ∃ u, wr.cell? ⟨w.heap.size, j, none⟩ = some u := by
          rw [hown.cellAt j (by omega)]
          have : j < (ints (xs.take j) ++ (madeCells (Value.int .i64 0).cells (xs.length * 1)).toList.drop j).length := by
            rw [List.length_append, List.length_drop, hsz]; simp [ints]; omega
          exact ⟨_, List.getElem?_eq_getElem this⟩
        obtain ⟨u, c2⟩ := hsome
        have hf : wr.frozen? ⟨w.heap.size, j, none⟩ = false := hown.frozenAt j
        clear hown hbel
        generalize hgx : xs.getD j 0 = x at c1
        have Hgx := Lib.hid hgx
        clear hgx
        go_wp2
        go_roundw
        case rel =>
          have hgx := Hgx.out
          subst hgx
          have st := HN.out.stored j (.int .i64 (xs.getD j 0))
          refine ⟨j + 1, by omega, by simp, ?_, HP.out.grown st.2 HP.out.size fun q hq => by cases hq; omega⟩
          have := st.1
          rw [copy_step xs _ j hlt hsz] at this
          simpa using this
        case measure => simp [intOf]; omega
      · have hjn : j = xs.length := by omega
        subst hjn
        clear hown hbel
        go_wp2
        go_ret
        refine ⟨_, rfl, Own.made (n := xs.length) ?_, HP.out⟩
        have := HN.out
        rw [List.take_length, List.drop_of_length_le (by rw [hsz]; omega), List.append_nil] at this
        exact this

end Go.Proofs.Ythodmmckekgkdaa.Ints
