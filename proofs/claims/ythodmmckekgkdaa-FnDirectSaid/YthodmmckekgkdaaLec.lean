/-
  Chapter 10 of the program: all sets of n elements in lectic order.
-/
import Derived.Test.YthodmmckekgkdaaMrg1
import Derived.Test.YthodmmckekgkdaaDual
import Derived.Laws.CopyOwn
namespace Go.Proofs.Ythodmmckekgkdaa.Stem
open Go Go.RowKit Mem Sets Ctx Tab Rule Lectic
set_option maxRecDepth 100000

/-- Cells of numbers, told by a function. -/
def cellsN (N : Nat) (f : Nat → Nat) : List Value := (List.range N).map fun i => .int .i64 ((f i : Nat) : Int)
theorem cellsN_len (N : Nat) (f : Nat → Nat) : (cellsN N f).length = N := by simp [cellsN]
theorem cellsN_get {N : Nat} (f : Nat → Nat) {i : Nat} (h : i < N) : (cellsN N f)[i]? = some (.int .i64 ((f i : Nat) : Int)) := by
  rw [cellsN, List.getElem?_map, List.getElem?_range h]; rfl
theorem cellsN_ext {N : Nat} {f g : Nat → Nat} (h : ∀ j, j < N → f j = g j) : cellsN N f = cellsN N g := by
  unfold cellsN
  refine List.map_congr_left fun j hj => ?_
  rw [h j (List.mem_range.1 hj)]
theorem cellsN_set {N i v : Nat} {f g : Nat → Nat} (hi : i < N) (h1 : g i = v) (h2 : ∀ j, j < N → j ≠ i → g j = f j) : (cellsN N f).toArray.setIfInBounds i (.int .i64 ((v : Nat) : Int)) = (cellsN N g).toArray := by
  rw [List.setIfInBounds_toArray]
  congr 1
  apply List.ext_getElem?
  intro j
  rw [List.getElem?_set, cellsN_len]
  by_cases hj : j < N
  · rw [cellsN_get g hj]
    by_cases he : i = j
    · subst he; rw [if_pos rfl, if_pos hi, h1]
    · rw [if_neg he, cellsN_get f hj, h2 j hj (Ne.symm he)]
  · rw [List.getElem?_eq_none (by rw [cellsN_len]; omega), List.getElem?_eq_none (by rw [cellsN_len]; omega)]
    split
    · rename_i h; omega
    · rfl
theorem cellsN_splice {N s : Nat} {f g : Nat → Nat} (h : 2 * s ≤ N) (h2 : ∀ j, j < N → g j = if s ≤ j ∧ j < 2 * s then f (j - s) else f j) : splice (cellsN N f) s ((cellsN N f).take s) = cellsN N g := by
  have hl : ((cellsN N f).take s).length = s := by rw [List.length_take, cellsN_len]; omega
  apply List.ext_getElem?
  intro j
  unfold splice
  rw [hl]
  by_cases hj : j < N
  · rw [cellsN_get g hj, h2 j hj]
    by_cases h3 : j < s
    · rw [List.getElem?_append_left (by rw [hl]; exact h3), List.getElem?_take, if_pos h3, cellsN_get f hj, if_neg (by omega)]
    · rw [List.getElem?_append_right (by rw [hl]; omega), hl]
      by_cases h4 : j < 2 * s
      · rw [List.getElem?_append_left (by rw [hl]; omega), List.getElem?_take, if_pos (by omega), cellsN_get f (by omega), if_pos (by omega)]
      · rw [List.getElem?_append_right (by rw [hl]; omega), hl, List.getElem?_drop, show s + s + (j - s - s) = j by omega, cellsN_get f hj, if_neg (by omega)]
  · rw [List.getElem?_eq_none, List.getElem?_eq_none]
    · rw [cellsN_len]; omega
    · rw [List.length_append, List.length_append, List.length_drop, hl, cellsN_len]; omega
theorem cellsN_made (N : Nat) : (madeCells (Value.int .i64 0).cells (N * 1)).toList = cellsN N fun _ => 0 := by
  apply List.ext_getElem?
  intro j
  rw [Nat.mul_one, Array.getElem?_toList]
  by_cases hj : j < N
  · rw [cellsN_get _ hj]
    simp [madeCells, hj, Value.cells, Nat.mod_one]
  · rw [List.getElem?_eq_none (by rw [cellsN_len]; omega), Array.getElem?_eq_none (by rw [size_madeCells]; omega)]
theorem box_of_row {w : World} {lo g N : Nat} {e : TypeId} {xs : List Value} (h : w.ownsRow lo e 1 (.slice (some ⟨g, 0, none⟩) N N) N xs) : BoxAt w g e xs.toArray := by
  obtain ⟨h1, h2⟩ := h
  rcases h2 with ⟨h2, -⟩ | ⟨g', cap, cur, hv, -, hk, -, -, h5, h6⟩
  · cases h2
  · injection hv with e1 e2 e3
    injection e1 with e1
    injection e1 with e1
    subst e1 e3
    have : cur.toList.take (N * 1) = cur.toList := List.take_of_length_le (by rw [Array.length_toList]; omega)
    rw [this] at h6
    unfold BoxAt
    rw [← h6, Array.toArray_toList]
    exact hk
/-- The list while a doubling is under way: k sets of the second half have the element. -/
def midTo (n t k i : Nat) : Nat := if i < 2 ^ t then layTo n t i else if i < 2 ^ t + k then layTo n t (i - 2 ^ t) ||| 2 ^ (n - 1 - t) else if i < 2 ^ (t + 1) then layTo n t (i - 2 ^ t) else 0
theorem layTo_far (n : Nat) : ∀ {t i : Nat}, 2 ^ t ≤ i → layTo n t i = 0
  | 0, _, _ => rfl
  | t + 1, i, h => by
    have : 2 ^ (t + 1) = 2 ^ t + 2 ^ t := by rw [Nat.pow_succ]; omega
    unfold layTo
    rw [if_neg (by omega), if_neg (by omega)]
theorem mid_first {n t N : Nat} (h : 2 * 2 ^ t ≤ N) : splice (cellsN N (layTo n t)) (2 ^ t) ((cellsN N (layTo n t)).take (2 ^ t)) = cellsN N (midTo n t 0) := by
  have hp : 2 ^ (t + 1) = 2 ^ t + 2 ^ t := by rw [Nat.pow_succ]; omega
  refine cellsN_splice h fun j hj => ?_
  unfold midTo
  by_cases h1 : j < 2 ^ t
  · rw [if_pos h1, if_neg (by omega)]
  · rw [if_neg h1, if_neg (by omega)]
    by_cases h2 : j < 2 ^ (t + 1)
    · rw [if_pos h2, if_pos (by omega)]
    · rw [if_neg h2, if_neg (by omega), layTo_far n (by omega)]
theorem mid_step {n t k N : Nat} (h : 2 * 2 ^ t ≤ N) (hk : k < 2 ^ t) : (cellsN N (midTo n t k)).toArray.setIfInBounds (2 ^ t + k) (.int .i64 ((layTo n t k ||| 2 ^ (n - 1 - t) : Nat) : Int)) = (cellsN N (midTo n t (k + 1))).toArray := by
  refine cellsN_set (by omega) ?_ fun j hj hne => ?_
  · unfold midTo
    rw [if_neg (by omega), if_pos (by omega), show 2 ^ t + k - 2 ^ t = k by omega]
  · unfold midTo
    by_cases h1 : j < 2 ^ t
    · rw [if_pos h1, if_pos h1]
    · rw [if_neg h1, if_neg h1]
      by_cases h2 : j < 2 ^ t + k
      · rw [if_pos (by omega), if_pos h2]
      · rw [if_neg (by omega), if_neg h2]
theorem mid_at {n t k : Nat} (hk : k < 2 ^ t) : midTo n t k (2 ^ t + k) = layTo n t k := by
  have hp : 2 ^ (t + 1) = 2 ^ t + 2 ^ t := by rw [Nat.pow_succ]; omega
  unfold midTo
  rw [if_neg (by omega), if_neg (by omega), if_pos (by omega), show 2 ^ t + k - 2 ^ t = k by omega]
theorem mid_last {n t N : Nat} : cellsN N (midTo n t (2 ^ t)) = cellsN N (layTo n (t + 1)) := by
  have hp : 2 ^ (t + 1) = 2 ^ t + 2 ^ t := by rw [Nat.pow_succ]; omega
  refine cellsN_ext fun j hj => ?_
  unfold midTo layTo
  by_cases h1 : j < 2 ^ t
  · rw [if_pos h1, if_pos h1]; cases t <;> rfl
  · rw [if_neg h1, if_neg h1, ← hp]
    by_cases h2 : j < 2 ^ (t + 1)
    · rw [if_pos h2, if_pos h2]; cases t <;> rfl
    · rw [if_neg h2, if_neg h2, if_neg h2]
set_option maxHeartbeats 1600000 in
theorem impl_lectic (n : Nat) (w : World) (hn : n ≤ 6) :
    Calls Try.prog 77 #[.int .i64 (n : Int)] w fun e w' => ∃ g c, e = .returned (.slice (some ⟨g, 0, none⟩) (2 ^ n) c) ∧ w.heap.size ≤ g ∧ g < w'.heap.size ∧ (∀ j, j < 2 ^ n → w'.cell? ⟨g, j, none⟩ = some (.int .i64 (((lecN n).getD j 0 : Nat) : Int))) ∧ Below w.heap.size w w' := by
  obtain ⟨i0, hi, hz0, hz1, hz2⟩ := info_parts Ints.info
  obtain ⟨N, hN⟩ : ∃ N, 2 ^ n = N := ⟨_, rfl⟩
  have hN64 : N ≤ 64 := by rw [← hN]; exact pow6 hn
  have hw : wrap64 (2 ^ n) = ((N : Nat) : Int) := by
    rw [← IntWalk.wrap64_in ((N : Nat) : Int) ⟨by omega, by omega⟩, ← hN]; simp
  have HN := Lib.hid hN
  rw [hN]
  clear hN
  go_enter Try.func77, Try.ntmps77
  go_wp2_with (at_make; refine wpList_make_full _ rfl _ _ 24 rfl w.heap.size 3 i0 (.int .i64 0) 1 Try.underlying24 hi hz0 hz1 .i64 .i64 _ _ N rfl rfl hw hw (by rw [hz2]; omega) (by unfold maxLen; omega) (Nat.le_refl _) ?_; intro w0 hown0 hgrow0)
  have HB0 : Hid (BoxAt w0 w.heap.size 3 (cellsN N (layTo n 0)).toArray) := Lib.hid (by
    have := box_of_row hown0
    rw [cellsN_made] at this
    exact this)
  have HW0 := Lib.hid ((Below.refl w.heap.size w).grown hgrow0 (Nat.le_refl _) (fun q hq => by cases hq))
  clear hown0 hgrow0 hw
  go_loopw [4, 5] (fun sz e wr => ∃ t s : Nat, t ≤ n ∧ sz = .int .i64 s ∧ e = .int .i64 ((n : Int) - 1 - (t : Int)) ∧ s ≤ 64 ∧ Hid (2 ^ t = s) ∧ Hid (BoxAt wr w.heap.size 3 (cellsN N (layTo n t)).toArray) ∧ Hid (Below w.heap.size w wr)) (fun _ e _ => (intOf e + 1).toNat)
  case atStart => exact ⟨0, 1, Nat.zero_le _, rfl, by simp, by omega, Lib.hid rfl, HB0, HW0⟩
  case round =>
    obtain ⟨t, s, ht, rfl, rfl, hs64, HS, HB, HW⟩ := hrel
    by_cases hlt : t < n
    · obtain ⟨q, hq⟩ : ∃ q : Nat, (n : Int) - 1 - (t : Int) = (q : Int) := Int.eq_ofNat_of_zero_le (by omega)
      have h2s : 2 * s ≤ N := by
        rw [← HS.out, ← HN.out]
        have := Nat.pow_le_pow_right (n := 2) (by omega) (show t + 1 ≤ n by omega)
        rw [Nat.pow_succ] at this; omega
      have hs0 : 0 < s := by rw [← HS.out]; exact Nat.pow_pos (by omega)
      rw [hq]
      have HQ := Lib.hid hq
      have hq8 : q < 8 := by omega
      clear hq
      have HCS : Hid (((cellsN N (layTo n t)).take s).length = s) := Lib.hid (by rw [List.length_take, cellsN_len]; omega)
      have HSP : Hid (splice (cellsN N (layTo n t)) s ((cellsN N (layTo n t)).take s) = cellsN N (midTo n t 0)) := Lib.hid (by have := mid_first (n := n) (t := t) (N := N) (by rw [HS.out]; exact h2s); rwa [HS.out] at this)
      have hbz : w.heap.size < wr.heap.size := HB.out.lt
      have HSRC : Hid (∀ j v, ((cellsN N (layTo n t)).take s)[j]? = some v → wr.cell? ((⟨w.heap.size, 0, none⟩ : Addr).add j) = some v) := Lib.hid fun j v hv => by
        rw [Go.WideShapes.add_plain, Nat.zero_add, HB.out.cell j, List.getElem?_toArray]
        rw [List.getElem?_take] at hv
        split at hv
        · exact hv
        · cases hv
      have HHN : Hid (((cellsN N (layTo n t)).take s).length = Nat.min s (2 * s - s)) := Lib.hid (by rw [HCS.out, show 2 * s - s = s by omega]; exact (Nat.min_self s).symm)
      have HFT : Hid (s + ((cellsN N (layTo n t)).take s).length ≤ (cellsN N (layTo n t)).length) := Lib.hid (by rw [HCS.out, cellsN_len]; omega)
      have HON : Hid (∀ v ∈ (cellsN N (layTo n t)).take s, v.oneCell' = true) := Lib.hid fun v hv => by obtain ⟨i, -, rfl⟩ := List.mem_map.1 (List.mem_of_mem_take hv); rfl
      have HPO : Hid (0 < ((cellsN N (layTo n t)).take s).length → (some ⟨w.heap.size, s, none⟩ : Option Addr) = some ⟨w.heap.size, s, none⟩ ∧ ∃ ad, (some ⟨w.heap.size, 0, none⟩ : Option Addr) = some ad ∧ ∀ j v, ((cellsN N (layTo n t)).take s)[j]? = some v → wr.cell? (ad.add j) = some v) := Lib.hid fun _ => ⟨rfl, _, rfl, HSRC.out⟩
      have HSZ : (Try.prog.info? 3).map (·.size) = some 1 := by rw [hi]; simp [hz1]
      go_wp2_with (refine wpList_copy_splice (o := ⟨some 26, _, _, _, _, _⟩) rfl (.tmp 22) (.tmp 25) 24 24 rfl 3 Try.underlying24 HSZ _ _ _ _ _ _ (by rfl) (by rfl) w.heap.size s (cellsN N (layTo n t)) 3 HB.out ((cellsN N (layTo n t)).take s) HHN.out HPO.out HFT.out HON.out w.heap.size w HW.out (Nat.le_refl _) ?_; intro w2 HG2 hB2)
      have HB2 : Hid (BoxAt w2 w.heap.size 3 (cellsN N (midTo n t 0)).toArray) := Lib.hid (by have := HG2.out; rw [HSP.out] at this; exact this)
      have HW2 := Lib.hid hB2
      clear HG2 hB2 HHN HFT HON HPO HSZ HSRC HSP HCS
      rw [show 2 * s - s = s by omega]
      go_loopw [29] (fun i wr => ∃ k : Nat, k ≤ s ∧ i = .int .i64 k ∧ Hid (BoxAt wr w.heap.size 3 (cellsN N (midTo n t k)).toArray) ∧ Hid (Below w.heap.size w wr)) (fun i _ => s - (intOf i).toNat)
      case atStart => exact ⟨0, Nat.zero_le _, rfl, HB2, HW2⟩
      case round =>
        obtain ⟨k, hk, rfl, HBk, HWk⟩ := hrel
        by_cases hkl : k < s
        · have hx := layTo_lt (n := n) (t := t) (i := k) ht
          have hx6 := pow6 hn
          have hc := HBk.out.cell (s + k)
          rw [List.getElem?_toArray, cellsN_get _ (show s + k < N by omega)] at hc
          have hma := mid_at (n := n) (t := t) (k := k) (by rw [HS.out]; exact hkl)
          rw [HS.out] at hma
          rw [hma] at hc
          have hf := HBk.out.free (s + k)
          have HSTEP := Lib.hid fun h => mid_step (n := n) (t := t) (k := k) (N := N) h (by rw [HS.out]; exact hkl)
          rw [HS.out, show n - 1 - t = q by have := HQ.out; omega] at HSTEP
          generalize layTo n t k = x at hx hc HSTEP
          have hx256 : x < 256 := by omega
          have hor := or_pow x q hx256 hq8
          have HBS := Lib.hid fun u => HBk.out.set (s + k) u
          have HWS := Lib.hid fun u => HWk.out.setCell (p := ⟨w.heap.size, s + k, none⟩) (Nat.le_refl _) u
          clear hma hx hx6 hx256
          go_wp2_with fail
          go_region
          go_wp2_with fail
          go_roundw
          case rel => exact ⟨k + 1, by omega, by simp, Lib.hid (by have := HBS.out (.int .i64 ((x ||| 2 ^ q : Nat) : Int)); rw [HSTEP.out h2s] at this; exact this), Lib.hid (HWS.out _).drew⟩
          case measure => simp [intOf]; omega
        · have HK := Lib.hid (show k = s by omega)
          have HB3 : Hid (BoxAt wr w.heap.size 3 (cellsN N (layTo n (t + 1))).toArray) := Lib.hid (by have := HBk.out; rw [HK.out, ← HS.out, mid_last] at this; exact this)
          have HS3 : Hid (2 ^ (t + 1) = 2 * s) := Lib.hid (by rw [Nat.pow_succ, HS.out]; omega)
          have he := HQ.out
          have HE : Hid ((q : Int) - 1 = (n : Int) - 1 - ((t + 1 : Nat) : Int)) := Lib.hid (by omega)
          clear he
          go_wp2_with fail
          go_roundw
          case rel => exact ⟨t + 1, s * 2, by omega, rfl, by rw [← HE.out], by omega, Lib.hid (by rw [HS3.out]; omega), HB3, HWk⟩
          case measure => simp [intOf]
    · have HT := Lib.hid (show t = n by omega)
      have hneg : decide ((0 : Int) ≤ (n : Int) - 1 - (t : Int)) = false := by simp; omega
      have HF := Lib.hid HB.out.lt
      have HCELL : Hid (∀ j, j < N → wr.cell? ⟨w.heap.size, j, none⟩ = some (.int .i64 (((lecN n).getD j 0 : Nat) : Int))) := Lib.hid fun j hj => by
        rw [HB.out.cell j, List.getElem?_toArray, cellsN_get _ hj, HT.out, lecN_get (by rw [HN.out]; exact hj)]
      go_wp2_with fail
      go_ret
      exact ⟨_, _, rfl, Nat.le_refl _, HF.out, HCELL.out, HW.out⟩
end Go.Proofs.Ythodmmckekgkdaa.Stem
