/-
  The law of concepts: what it asks of the answers (pure).
-/
import Derived.Test.YtdkgmjbhkifcbaaConP
import Derived.Test.YtdkgmjbhkifcbaaConc5
namespace Go.Proofs.Ytdkgmjbhkifcbaa.Tab
open Go Go.RowKit Mem Sets Ctx
set_option maxRecDepth 100000

theorem xor_nat (m k : Nat) (hm : m < 256) (hk : k < 256) : bits .xor .i64 (m : Int) (k : Int) = ((m ^^^ k : Nat) : Int) := by
  have hx : m ^^^ k < 256 := Nat.xor_lt_two_pow (n := 8) hm hk
  have e : bits .xor .i64 (m : Int) (k : Int) = IntKind.i64.wrap ((BitVec.ofNat 64 m ^^^ BitVec.ofNat 64 k).toNat : Nat) := by
    simp only [bits, BitVec.ofInt_natCast]; rfl
  rw [e, BitVec.toNat_xor, BitVec.toNat_ofNat, BitVec.toNat_ofNat, Nat.mod_eq_of_lt (by omega), Nat.mod_eq_of_lt (by omega), IntKind.wrap_i64]
  omega
theorem least_low' : ∀ d : Nat, d < 256 → least (d : Int) = ((low d : Nat) : Int) := by decide +kernel
theorem low_lt' : ∀ d : Nat, d < 256 → low d < 256 := by decide +kernel
theorem before_mir {s t : Nat} (hs : s < 256) (ht : t < 256) (h : mir s < mir t) : before (s : Int) (t : Int) = true := by
  have hx : s ^^^ t < 256 := Nat.xor_lt_two_pow (n := 8) hs ht
  have hl := mir_low s hs t ht
  rw [decide_eq_true h] at hl
  rw [before, isSet8_true ⟨by omega, by omega⟩, isSet8_true ⟨by omega, by omega⟩, beforeB, xor_nat s t hs ht, least_low' _ hx, and_nat t _ ht (low_lt' _ hx)]
  simp only [Bool.true_and, bne_iff_ne, ne_eq] at hl ⊢
  omega
/-- How many sets below k are closed. -/
def clN (a : Int) (rs : List Int) (k : Nat) : Nat := ((List.range k).filter fun x : Nat => closed a rs (x : Int)).length
theorem clN_yes {a : Int} {rs : List Int} {k : Nat} (h : closed a rs (k : Int) = true) : clN a rs (k + 1) = clN a rs k + 1 := by simp [clN, List.range_succ, h]
theorem clN_no {a : Int} {rs : List Int} {k : Nat} (h : closed a rs (k : Int) = false) : clN a rs (k + 1) = clN a rs k := by simp [clN, List.range_succ, h]
theorem clN_le (a : Int) (rs : List Int) (k : Nat) : clN a rs k ≤ k := by
  have := List.length_filter_le (fun x : Nat => closed a rs (x : Int)) (List.range k)
  simpa [clN] using this
theorem mir_perm : allSets.Perm (List.range 256) := List.isPerm_iff.1 (by decide +kernel)
theorem closed_nat {a : Int} {rs : List Int} (hc : isCtx a rs = true) {x : Nat} (hx : x < 2 ^ a.toNat) : closed a rs (x : Int) = (clo a rs x == x) := by
  have hp := isCtx_parts hc
  rw [closed, hc, isSet_of_nat hp.1 (by omega) hx, Bool.true_and, Bool.true_and, Bool.eq_iff_iff]
  simp only [beq_iff_eq]
  show ((clo a rs x : Nat) : Int) = (x : Int) ↔ _
  omega
/-- There are as many concepts as closed sets. -/
theorem clN_all {a : Int} {rs : List Int} (hc : isCtx a rs = true) : clN a rs (2 ^ a.toNat) = (concepts a rs).length := by
  have C := clo_ok hc
  have h256 : 2 ^ a.toNat ≤ 256 := pow_le8 C.n8
  rw [con_len, closedList, if_pos hc, closedFrom, clN, ← List.countP_eq_length_filter, ← List.countP_eq_length_filter, mir_perm.countP_eq]
  rw [show (256 : Nat) = 2 ^ a.toNat + (256 - 2 ^ a.toNat) by omega, List.range_add, List.countP_append]
  rw [show List.countP (fun y => decide (y < 2 ^ a.toNat) && (clo a rs y == y) && decide (mir (clo a rs 0) ≤ mir y)) ((List.range (256 - 2 ^ a.toNat)).map fun x => 2 ^ a.toNat + x) = 0 from List.countP_eq_zero.2 fun y hy => by
    obtain ⟨z, -, rfl⟩ := List.mem_map.1 hy
    rw [decide_eq_false (p := 2 ^ a.toNat + z < 2 ^ a.toNat) (by omega)]; simp]
  rw [Nat.add_zero]
  refine List.countP_congr fun y hy => ?_
  have hy := List.mem_range.1 hy
  rw [closed_nat hc hy]
  simp only [Bool.and_eq_true, decide_eq_true_eq, beq_iff_eq]
  exact ⟨fun h => ⟨⟨hy, h⟩, closedFrom_first C hy h⟩, fun h => h.1.2⟩
theorem full_pow {a : Int} {rs : List Int} (hc : isCtx a rs = true) : full a + 1 = ((2 ^ a.toNat : Nat) : Int) := by
  have hp := isCtx_parts hc
  rw [full_nat hp.1 (by omega)]
  have := Nat.pow_pos (n := a.toNat) (show 0 < 2 by omega)
  omega
theorem isConcept_at {a : Int} {rs : List Int} {k : Nat} (h : k < (concepts a rs).length) : isConcept a rs ((concepts a rs).getD k (0, 0)) = true := by
  have hc := con_ctx h
  have hk := it_ok h
  have hp := isCtx_parts hc
  rw [con_get h, isConcept, hc, isSet_of_nat hp.1 (by omega) hk.1, extTo_isSet hc]
  have h2 : (intTo a rs ((E rs (it a rs k) : Nat) : Int) rs.length : Nat) = it a rs k := hk.2
  simp [h2]
theorem it_up {a : Int} {rs : List Int} {k : Nat} (h : k + 1 < (concepts a rs).length) : mir (it a rs k) < mir (it a rs (k + 1)) := by
  have hc := con_ctx h
  have hu : Up (closedList a rs) := by
    rw [closedList, if_pos hc]; exact up_closedFrom _ _ _
  rw [con_len] at h
  have := (List.pairwise_iff_getElem.1 hu) k (k + 1) (by omega) h (by omega)
  simpa [it, List.getD_eq_getElem?_getD, List.getElem?_eq_getElem h, List.getElem?_eq_getElem (show k < (closedList a rs).length by omega)] using this
theorem before_at {a : Int} {rs : List Int} {k : Nat} (h : k + 1 < (concepts a rs).length) : before ((concepts a rs).getD k (0, 0)).2 ((concepts a rs).getD (k + 1) (0, 0)).2 = true := by
  have hc := con_ctx h
  have h8 : 2 ^ a.toNat ≤ 256 := pow_le8 (clo_ok hc).n8
  rw [in_eq h, in_eq (by omega)]
  exact before_mir (Nat.lt_of_lt_of_le (it_ok (show k < (concepts a rs).length by omega)).1 h8) (Nat.lt_of_lt_of_le (it_ok h).1 h8) (it_up h)
theorem next_good {a : Int} {rs : List Int} {s : Int} {x : Nat} (h : nextClosed a rs s = some x) : before s (x : Int) = true ∧ closed a rs (x : Int) = true := by
  unfold nextClosed at h
  split at h
  · rename_i hcs
    have C := clo_ok hcs.1
    have h8 : 2 ^ a.toNat ≤ 256 := pow_le8 C.n8
    obtain ⟨n, rfl, hn, -, -⟩ := isSet_to_nat hcs.2
    rw [Int.toNat_natCast] at h
    obtain ⟨h1, h2, h3, -⟩ := next_some C hn h
    refine ⟨before_mir (by omega) (by omega) h3, ?_⟩
    rw [closed_nat hcs.1 h1]; simp [h2]
  · simp at h
end Go.Proofs.Ytdkgmjbhkifcbaa.Tab
