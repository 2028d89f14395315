/-
  SortLectic of the program: a copy, sorted by the library and freed of repetitions by it.
-/
import Derived.Test.YthjhcofmeogekaaAllSets
import Derived.Test.YthjhcofmeogekaaLectic
import Derived.Test.YthjhcofmeogekaaShelfSort
import Derived.Test.YthjhcofmeogekaaShelfCompact
import Derived.Sort.OwnSortedInts
import Derived.Laws.CopyOwn
import Derived.Lib.RowBridge
namespace Go.Proofs.Ythjhcofmeogekaa.SortL
open Go Go.RowKit Mem Sets Sets2 Lectic Go.Shelf Go.Sort
set_option maxRecDepth 100000

/-- A set's number as an element of a type of its own. -/
abbrev S8 := Fin 256
def enc (x : S8) : Value := .int .i64 (x.val : Int)
def cf (x y : S8) : Int := if mirror x.val < mirror y.val then -1 else if mirror y.val < mirror x.val then 1 else 0
theorem lt_cf (x y : S8) : ltOf cf x y = decide (mirror x.val < mirror y.val) := by
  unfold ltOf cf
  by_cases h : mirror x.val < mirror y.val
  · simp [h]
  · by_cases h2 : mirror y.val < mirror x.val <;> simp [h, h2]
theorem swo : SWO (ltOf cf) where
  irrefl x := by rw [lt_cf]; simp
  trans x y z h1 h2 := by rw [lt_cf] at *; simp at *; omega
  ntrans x y z h1 h2 := by rw [lt_cf] at *; simp at *; omega
theorem tot (x y : S8) (h1 : ltOf cf x y = false) (h2 : ltOf cf y x = false) : x = y := by
  rw [lt_cf] at h1 h2
  simp at h1 h2
  have hx := mirror_inj x.val x.isLt
  have hy := mirror_inj y.val y.isLt
  rw [show mirror x.val = mirror y.val by omega, hy] at hx
  exact Fin.ext hx.symm

theorem compareL (x y : S8) (w : World) :
    Calls Try.prog 46 #[enc x, enc y] w fun e w' => e = .returned (.int .i64 (cf x y)) ∧ w' = w := by
  have h1 := before_mirror x.val y.val x.isLt y.isLt
  have h2 := before_mirror y.val x.val y.isLt x.isLt
  unfold cf enc
  generalize (x.val : Int) = a at h1 h2
  generalize (y.val : Int) = b at h1 h2
  by_cases h : mirror x.val < mirror y.val
  · rw [decide_eq_true h] at h1
    simp only [if_pos h]
    clear h h2
    go_enter Try.func46, Try.ntmps46
    go_wp2_with fail
    refine (impl_before _ _ _).mono ?_
    rintro e w' ⟨rfl, rfl⟩
    go_wp2_with fail
    go_ret
    exact ⟨rfl, rfl⟩
  · rw [decide_eq_false h] at h1
    by_cases h3 : mirror y.val < mirror x.val
    · rw [decide_eq_true h3] at h2
      simp only [if_neg h, if_pos h3]
      clear h h3
      go_enter Try.func46, Try.ntmps46
      go_wp2_with fail
      refine (impl_before _ _ _).mono ?_
      rintro e w' ⟨rfl, rfl⟩
      go_wp2_with fail
      refine (impl_before _ _ _).mono ?_
      rintro e w' ⟨rfl, rfl⟩
      go_wp2_with fail
      go_ret
      exact ⟨rfl, rfl⟩
    · rw [decide_eq_false h3] at h2
      simp only [if_neg h, if_neg h3]
      clear h h3
      go_enter Try.func46, Try.ntmps46
      go_wp2_with fail
      refine (impl_before _ _ _).mono ?_
      rintro e w' ⟨rfl, rfl⟩
      go_wp2_with fail
      refine (impl_before _ _ _).mono ?_
      rintro e w' ⟨rfl, rfl⟩
      go_wp2_with fail
      go_ret
      exact ⟨rfl, rfl⟩
theorem cmpLays (blk off size : Nat) (w : World) : CmpLays1 Try.prog 46 #[] enc cf blk off size w :=
  CmpReads.lays fun _ _ _ _ x y => (compareL x y _).mono fun _ _ ⟨he, hw⟩ => ⟨he, 0, hw⟩

def toS (x : Int) : S8 := ⟨x.toNat % 256, Nat.mod_lt _ (by omega)⟩
def ofS (x : S8) : Int := (x.val : Int)
theorem ofS_toS (x : Int) (h : 0 ≤ x ∧ x ≤ 255) : ofS (toS x) = x := by
  unfold ofS toS
  simp only
  omega
theorem putCells_map (d : Array S8) (off : Nat) (c : Array Value) : putCells enc off d c = putCells (Value.int .i64) off (d.map ofS) c := by
  unfold putCells
  apply Array.ext_getElem?
  intro k
  simp only [Array.getElem?_mapIdx, Array.size_map]
  cases c[k]? with
  | none => rfl
  | some y =>
    simp only [Option.map_some]
    by_cases h : off ≤ k ∧ k < off + d.size
    · rw [if_pos h, if_pos h]
      have hk : k - off < d.size := by omega
      simp [getElem!_pos, hk, enc, ofS]
    · rw [if_neg h, if_neg h]
theorem putRow_map (d : Array S8) (w : World) (blk off : Nat) : putRow enc w blk off d = putRow (Value.int .i64) w blk off (d.map ofS) := by
  unfold putRow
  rw [show putCells enc off d = putCells (Value.int .i64) off (d.map ofS) from funext fun c => putCells_map d off c]
/-- What the library's sort makes of the numbers of sets. -/
def sorted (rs : List Int) : List Int := (((rs.map toS).toArray.toList.mergeSort fun x y => !(ltOf cf) y x)).map ofS
theorem sorted_perm (rs : List Int) (h : ∀ x ∈ rs, 0 ≤ x ∧ x ≤ 255) : (sorted rs).Perm rs := by
  have h1 : (sorted rs).Perm ((rs.map toS).map ofS) := (List.mergeSort_perm _ _).map ofS
  have h2 : (rs.map toS).map ofS = rs := by
    rw [List.map_map]
    conv => rhs; rw [← List.map_id rs]
    apply List.map_congr_left
    intro x hx
    exact ofS_toS x (h x hx)
  rwa [h2] at h1
theorem sorted_asc (rs : List Int) : (sorted rs).Pairwise fun x y => key x ≤ key y := by
  unfold sorted
  rw [List.pairwise_map]
  have := List.pairwise_mergeSort (le := fun x y : S8 => !(ltOf cf) y x) (fun a b c h1 h2 => by rw [lt_cf] at *; simp at *; omega) (fun a b => by rw [lt_cf, lt_cf]; simp; omega) (rs.map toS).toArray.toList
  refine this.imp fun {x y} h => ?_
  rw [lt_cf] at h
  simpa [key, ofS] using h
theorem sorted_length (rs : List Int) : (sorted rs).length = rs.length := by simp [sorted]
theorem holds_enc {w : World} {g : Nat} {rs : List Int} (hs : ∀ x ∈ rs, 0 ≤ x ∧ x ≤ 255) (h : Holds (Value.int .i64) w g 0 rs.toArray) : Holds enc w g 0 (rs.map toS).toArray := by
  intro j hj
  have hj' : j < rs.length := by simpa using hj
  obtain ⟨h1, h2⟩ := h j (by simpa using hj')
  refine ⟨?_, h2⟩
  rw [h1]
  have := ofS_toS rs[j] (hs _ (List.getElem_mem hj'))
  simp only [ofS] at this
  simp [hj', enc, this]

theorem cur_of {w : World} {base g n : Nat} {e : TypeId} {cs : List Value} (h : w.ownsRow base e 1 (.slice (some ⟨g, 0, none⟩) n n) n cs) : ∃ cur : List Value, w.heap[g]? = some (.cells cur.toArray e (0, 0)) ∧ cur.length = n := by
  rcases h.2 with ⟨h, _⟩ | ⟨g, cap, cur, hv, _, hg, _, _, hsz, _⟩
  · cases h
  · cases hv
    exact ⟨cur.toList, by simpa using hg, by simpa using hsz⟩
theorem prefix_own {w : World} {base g n cap m : Nat} {e : TypeId} {xs : List Value} (h : w.ownsRow base e 1 (.slice (some ⟨g, 0, none⟩) n cap) n xs) (hm : m ≤ n) : w.ownsRow base e 1 (.slice (some ⟨g, 0, none⟩) m cap) m (xs.take m) := by
  obtain ⟨h1, h2⟩ := h
  rcases h2 with ⟨h2, _⟩ | ⟨g', cap', cur, hv, hb, hk, hn, hc, hs, ht⟩
  · cases h2
  · cases hv
    refine ⟨by rw [List.length_take]; omega, .inr ⟨_, _, cur, rfl, hb, hk, by omega, hc, hs, ?_⟩⟩
    rw [← ht, List.take_take]
    congr 1
    omega
theorem src_of {w w0 : World} {rs : List Int} {aa : Option Addr} {B g : Nat} (hc : (List.map (Value.int .i64) rs) ≠ [] → ∃ b off, aa = some ⟨b, off, none⟩ ∧ b < B ∧ ∀ j, j < rs.length → w.cell? ⟨b, off + j, none⟩ = (List.map (Value.int .i64) rs)[j]?)
    (hb : Below w.heap.size w w0) (hB : B ≤ w.heap.size) : 0 < (ints rs).length → (some (⟨g, 0, none⟩ : Addr)) = some ⟨g, 0, none⟩ ∧ ∃ ad, aa = some ad ∧ ∀ j v, (ints rs)[j]? = some v → w0.cell? (ad.add j) = some v := by
  intro hp
  obtain ⟨b, o, rfl, hlt, h⟩ := hc (by intro he; rw [ints, he] at hp; simp at hp)
  refine ⟨rfl, _, rfl, fun j v hj => ?_⟩
  have hjl : j < rs.length := by have := (List.getElem?_eq_some_iff.1 hj).1; simpa [ints] using this
  rw [Go.WideShapes.add_plain, hb.cell (p := ⟨b, o + j, none⟩) (by show b < _; omega), h j hjl]
  exact hj
theorem ones (rs : List Int) : ∀ v ∈ ints rs, v.oneCell' = true := by
  intro v hv
  simp only [ints, List.mem_map] at hv
  obtain ⟨y, _, rfl⟩ := hv
  rfl
set_option maxHeartbeats 1000000 in
theorem impl_sort (v : Value) (rs : List Int) (B : Nat) (w : World) (hr : Reads w B v (ints rs)) (hB : B ≤ w.heap.size) (hn : rs.length ≤ 1048576) :
    Calls Try.prog 25 #[v] w fun e w' => ∃ u, e = .returned u ∧ Own 3 w' w.heap.size w'.heap.size u (ints (sortLectic rs)) ∧ Below w.heap.size w w' := by
  obtain ⟨i0, hi, hz0, hz1, hz2⟩ := info_parts Ints.info
  have HA := Lib.hid (fun w' h => areAllSets v rs B w' h)
  have HR := Lib.hid hr
  obtain ⟨hl, aa, ca, rfl, hca⟩ := hr
  simp only [ints, List.length_map] at hl hca HA HR ⊢
  have HC := Lib.hid hca
  clear hl hca
  cases hs : allSets rs with
  | false =>
    have HX := Lib.hid (show sortLectic rs = [] by rw [allSets] at hs; simp [sortLectic, hs])
    go_enter Try.func25, Try.ntmps25
    go_wp2_with fail
    refine (HA.out _ HR.out).mono ?_
    rintro e w' ⟨rfl, rfl⟩
    rw [hs]
    go_wp2_with fail
    go_ret
    exact ⟨_, rfl, by rw [HX.out]; exact Own.made (World.ownsRow_nil _ _ _ _), Below.refl _ _⟩
  | true =>
    have hmem : ∀ x ∈ rs, 0 ≤ x ∧ x ≤ 255 := fun x hx => by
      have := List.all_eq_true.1 hs x hx
      rw [isSet8] at this
      simpa using this
    have HX := Lib.hid (show sortLectic rs = Lib.compact (sorted rs) by
      rw [sorted_same rs (sorted rs) hmem (sorted_perm rs hmem) (sorted_asc rs)]
      rw [allSets] at hs; simp [sortLectic, hs])
    have HM := Lib.hid hmem
    have HSS := Lib.hid hs
    clear hs hmem
    go_enter Try.func25, Try.ntmps25
    go_wp2_with fail
    refine (HA.out _ HR.out).mono ?_
    rintro e w ⟨rfl, rfl⟩
    rw [HSS.out]
    have hisz : (Try.prog.info? 3).map (·.size) = some 1 := by rw [hi]; simp [hz1]
    have HISZ := Lib.hid hisz
    clear hisz
    have HL8 : Hid ((ints rs).length = rs.length) := Lib.hid (by simp [ints])
    go_wp2_with (first | (at_make; refine wpList_make_full _ rfl _ _ 27 rfl w.heap.size 3 i0 (.int .i64 0) 1 Try.underlying27 hi hz0 hz1 .i64 .i64 _ _ rs.length rfl rfl rfl rfl (by rw [hz2]; omega) (by unfold maxLen; omega) (Nat.le_refl _) ?_; intro w0 hown0 hgrow0; have B0 := Lib.hid ((Below.refl w.heap.size w).grown hgrow0 (Nat.le_refl _) (fun q hq => by cases hq)); obtain ⟨cur, hg, hcl⟩ := cur_of hown0; have HG := Lib.hid hg; have HCL := Lib.hid hcl; clear hown0 hgrow0 hg hcl) | (refine wpList_copy_splice (by rfl) (.tmp 10) (.tmp 11) 27 27 (by rfl) 3 Try.underlying27 HISZ.out (some ⟨w.heap.size, 0, none⟩) aa rs.length rs.length rs.length ca (by rfl) (by rfl) w.heap.size 0 cur 3 HG.out (ints rs) (by rw [HL8.out]; simp) (src_of HC.out B0.out hB) (by rw [HL8.out, HCL.out]; omega) (ones rs) w.heap.size w B0.out (Nat.le_refl _) ?_; intro w1 hg1 b1))
    have hsp : splice cur 0 (ints rs) = ints rs := by
      have h1 := HL8.out
      have h2 := HCL.out
      simp only [splice, List.take_zero, List.nil_append, Nat.zero_add]
      rw [List.drop_of_length_le (by omega), List.append_nil]
    have hg2 : w1.heap[w.heap.size]? = some (.cells (ints rs).toArray 3 (0, 0)) := by rw [← hsp]; exact hg1
    have hH : Holds (Value.int .i64) w1 w.heap.size 0 rs.toArray := holds_of_blockI hg2 (by show (ints rs).take rs.length = _; rw [List.take_of_length_le (by rw [HL8.out]; exact Nat.le_refl _)])
    have hblk : w.heap.size < w1.heap.size := (Array.getElem?_eq_some_iff.1 hg2).1
    have eg : ∀ args w, (callFunc 46 args).run Try.prog w = .ok (.enter 46 args) w := enters_of Try.func46 (by kernel_rfl) rfl
    have hS := Any.slices_SortFunc_total Try.sortL enc (fun _ => rfl) cf swo 46 #[] w.heap.size 0 rs.length (rs.map toS).toArray w1 eg (cmpLays _ _ _ _) (holds_enc HM.out hH) hblk (by simp; omega) tot
    rw [show (rs.map toS).toArray.size = rs.length by simp] at hS
    change Calls Try.prog 45 _ _ _ at hS
    have HSORT := Lib.hid hS
    have HB1 := Lib.hid b1
    have HG2 := Lib.hid hg2
    clear hS eg hH hg2 hsp hg1 b1
    refine HSORT.out.mono ?_
    rintro e w2 ⟨rfl, q, os, hw2⟩
    have hw3 : w2 = grow (putRow (Value.int .i64) (Sort.ahead w1 q) w.heap.size 0 (sorted rs).toArray) os := by
      rw [hw2, sortWorld, putRow_map]
      simp [sorted]
    have own2 := ownsRow_sortedI (n := q) (os := os) (sorted_length rs) (Nat.le_refl w.heap.size) HG2.out (Nat.le_refl rs.length) (by unfold maxLen; omega) (by simp [ints])
    have gr2 := grownBy_sortedI (w := w1) (g := w.heap.size) (n := q) (os := os) (sorted rs).toArray
    rw [← hw3] at own2 gr2
    have hc2 : ∃ cur : List Value, w2.heap[w.heap.size]? = some (.cells cur.toArray 3 (0, 0)) ∧ cur.length = rs.length ∧ cur.take (sorted rs).length = ints (sorted rs) := by
      rcases own2.2 with ⟨h, _⟩ | ⟨g, cap, cur, hv, _, hg, _, _, hsz, ht⟩
      · cases h
      · cases hv
        exact ⟨cur.toList, by simpa using hg, by simpa using hsz, by rw [sorted_length]; simpa using ht⟩
    obtain ⟨cur2, hg4, hc4, ht4⟩ := hc2
    have hH2 : Holds (Value.int .i64) w2 w.heap.size 0 (sorted rs).toArray := holds_of_blockI hg4 (by simpa using ht4)
    have hC := Try.slices_Compact_int w.heap.size 0 rs.length (sorted rs) w2 hH2 (by rw [sorted_length]; omega) (by rw [sorted_length]; exact Nat.le_refl _)
    rw [sorted_length] at hC
    have HCO := Lib.hid hC
    have B2 := Lib.hid (HB1.out.grown gr2 (Nat.le_of_lt hblk) (fun j hj => by cases hj; exact Nat.le_refl _))
    have HG4 := Lib.hid hg4
    have HC4 := Lib.hid hc4
    have hz2' := B2.out.size
    clear hw2 hw3 own2 gr2 hg4 hc4 ht4 hH2 hC
    go_wp2_with fail
    refine HCO.out.mono ?_
    rintro e w3 ⟨rfl, q2, hw3⟩
    have hle := Lib.compact_length_le (sorted rs)
    rw [sorted_length] at hle
    have hll : (Lib.compact (sorted rs) ++ List.replicate (rs.length - (Lib.compact (sorted rs)).length) 0).length = rs.length := by simp; omega
    have own3 := ownsRow_sortedI (n := q2) (os := #[]) hll (Nat.le_refl w.heap.size) HG4.out (Nat.le_refl rs.length) (by unfold maxLen; omega) (by simp [HC4.out])
    have gr3 := grownBy_sortedI (w := w2) (g := w.heap.size) (n := q2) (os := #[]) (Lib.compact (sorted rs) ++ List.replicate (rs.length - (Lib.compact (sorted rs)).length) 0).toArray
    rw [grow_empty, ← hw3] at own3 gr3
    have own4 := prefix_own own3 hle
    have htk : (List.map (Value.int .i64) (Lib.compact (sorted rs) ++ List.replicate (rs.length - (Lib.compact (sorted rs)).length) 0)).take (Lib.compact (sorted rs)).length = ints (Lib.compact (sorted rs)) := by
      rw [← List.map_take, List.take_left]
    rw [htk] at own4
    have O4 := Lib.hid own4
    have B3 := Lib.hid (B2.out.grown gr3 hz2' (fun j hj => by cases hj; exact Nat.le_refl _))
    clear own3 own4 gr3 hw3 htk hll
    go_wp2_with fail
    go_ret
    exact ⟨_, rfl, by rw [HX.out]; exact Own.made O4.out, B3.out⟩
end Go.Proofs.Ythjhcofmeogekaa.SortL
