/-
  slices.Delete of one element of a list of rules of one's own.
-/
import Derived.Test.YtgkoggajdhibdaaSlP
import Derived.Test.YtgkoggajdhibdaaInfP
import Derived.Deep.RegionLaw
namespace Go.Proofs.Ytgkoggajdhibdaa.SlP
open Go Go.RowKit Mem Sets Ctx Tab Rule Infer
set_option maxRecDepth 100000

/-- Cells of a row, written one behind the other. -/
def setVals : Array Value → Nat → List Value → Array Value
  | cs, _, [] => cs
  | cs, o, v :: r => setVals (cs.setIfInBounds o v) (o + 1) r
theorem size_setVals : ∀ (vs : List Value) (o : Nat) (cs : Array Value), (setVals cs o vs).size = cs.size
  | [], _, _ => rfl
  | v :: r, o, cs => by rw [setVals, size_setVals r]; simp
theorem box_setCells {g : Nat} {t : TypeId} : ∀ (vs : List Value) (o : Nat) (cs : Array Value) (w : World), BoxAt w g t cs → BoxAt (w.setCells g o vs) g t (setVals cs o vs)
  | [], _, _, _, h => h
  | v :: r, o, _, _, h => box_setCells r (o + 1) _ _ (h.set o v)
theorem below_cells {B g : Nat} (hg : B ≤ g) : ∀ (vs : List Value) (o : Nat) (w0 w : World), Below B w0 w → Below B w0 (w.setCells g o vs)
  | [], _, _, _, h => h
  | v :: r, o, w0, _, h => below_cells hg r (o + 1) w0 _ (h.setCell (p := ⟨g, o, none⟩) hg v)
theorem set_take {L : List Value} {o : Nat} {v : Value} (h : o < L.length) : (L.set o v).take (o + 1) = L.take o ++ [v] := by
  rw [List.take_add_one, List.getElem?_set_self h, List.take_set_of_le (Nat.le_refl _)]; rfl
theorem take_setVals : ∀ (vs : List Value) (o : Nat) (cs : Array Value), o + vs.length ≤ cs.size → (setVals cs o vs).toList.take (o + vs.length) = cs.toList.take o ++ vs
  | [], o, cs, _ => by simp [setVals]
  | v :: r, o, cs, h => by
    have h1 : o + (v :: r).length = o + 1 + r.length := by simp; omega
    rw [h1] at h ⊢
    rw [setVals, take_setVals r (o + 1) _ (by simp; omega), Array.toList_setIfInBounds, set_take (by simp; omega), List.append_assoc]; rfl
theorem take_setVals_low {t : Nat} : ∀ (vs : List Value) (o : Nat) (cs : Array Value), t ≤ o → (setVals cs o vs).toList.take t = cs.toList.take t
  | [], _, _, _ => rfl
  | v :: r, o, cs, h => by rw [setVals, take_setVals_low r (o + 1) _ (by omega), Array.toList_setIfInBounds, List.take_set_of_le h]
/-- clear(s) on one element of two cells. -/
theorem run_clear_two {P : Program} (w : World) (t e ty : TypeId) (ht : P.underlying t = some (.slice e)) (hv : ∀ w, (zeroValue e).run P w = .ok (.agg #[.int .i64 0, .int .i64 0]) w) (b o c : Nat)
    (hc : ∀ j, j < 2 → (w.cell? ⟨b, o + j, none⟩).isSome = true) (hf : ∀ j, j < 2 → w.frozen? ⟨b, o + j, none⟩ = false) :
    (Builtin.clear_ #[t] ty #[.slice (some ⟨b, o, none⟩) 1 c]).run P w = .ok (.tuple #[]) (w.setCells b o [.int .i64 0, .int .i64 0]) := by
  have hzc : (Builtin.zeroCells (Value.agg #[.int .i64 0, .int .i64 0]).cells 1).toList = [.int .i64 0, .int .i64 0] := by kernel_rfl
  have hst := run_storeCells_cells (P := P) b o [.int .i64 0, .int .i64 0] 0 w (by simpa using hc) (by simpa using hf) (by intro v hv'; simp at hv'; rw [hv']; rfl)
  simp only [Nat.add_zero] at hst
  simp [Builtin.clear_, run_underlying ht, hv, hzc, hst]
/-- What is left of a row when one of its elements is taken out. -/
theorem row_without {w w1 : World} {lo g cap : Nat} {e : TypeId} {l : List PInt} {k : Nat} (ho : w.ownsRow lo e 2 (.slice (some ⟨g, 0, none⟩) l.length cap) l.length (prs l)) (hk : k < l.length)
    (hw : w1 = (w.drew.setCells g (0 + k * 2) (prs (l.drop (k + 1)))).setCells g ((l.length - 1) * 2) [.int .i64 0, .int .i64 0]) :
    w1.ownsRow lo e 2 (.slice (some ⟨g, 0, none⟩) (l.length - 1) cap) (l.length - 1) (prs (without l k)) ∧ Below lo w w1 := by
  obtain ⟨hl, h⟩ := ho
  rcases h with ⟨h1, h2⟩ | ⟨g', cap', cur, hv, hlo, hb, hn, hm, hs, ht⟩
  · cases h1
  · injection hv with e1 e2 e3
    injection e1 with e1
    injection e1 with e1
    subst e1 e3
    have hbx : BoxAt w g e cur := hb
    have hlen := without_len hk
    have hdl : (prs (l.drop (k + 1))).length = (l.length - (k + 1)) * 2 := by rw [prs_length, List.length_drop]
    have b1 := box_setCells (prs (l.drop (k + 1))) (0 + k * 2) cur w.drew hbx
    have b2 := box_setCells [.int .i64 0, .int .i64 0] ((l.length - 1) * 2) _ _ b1
    rw [← hw] at b2
    refine ⟨⟨by rw [prs_length, hlen], .inr ⟨g, cap, _, rfl, hlo, b2, by omega, hm, by rw [size_setVals, size_setVals, hs], ?_⟩⟩, ?_⟩
    · rw [take_setVals_low _ _ _ (Nat.le_refl _)]
      have h3 := take_setVals (prs (l.drop (k + 1))) (0 + k * 2) cur (by rw [hdl, hs]; omega)
      rw [hdl, show 0 + k * 2 + (l.length - (k + 1)) * 2 = (l.length - 1) * 2 by omega] at h3
      rw [h3, without, prs_app]
      congr 1
      have h4 : (prs l).take (k * 2) = prs (l.take k) := by
        conv => lhs; rw [← List.take_append_drop k l, prs_app]
        rw [List.take_append_of_le_length (by rw [prs_length, List.length_take]; omega), List.take_of_length_le (by rw [prs_length, List.length_take]; omega)]
      rw [← h4, ← ht, List.take_take, Nat.zero_add, Nat.min_eq_left (by omega)]
    · rw [hw]
      exact below_cells hlo _ _ _ _ (below_cells hlo _ _ _ _ ((Below.refl lo w).drew))
set_option maxHeartbeats 3200000 in
theorem deleteR (g cap : Nat) (l : List PInt) (k lo hi : Nat) (w : World) (ho : OwnP 43 w lo hi (.slice (some ⟨g, 0, none⟩) l.length cap) l) (hk : k < l.length) (hlen : l.length ≤ 2097152) :
    Calls Try.prog 109 #[.slice (some ⟨g, 0, none⟩) l.length cap, .int .i64 (k : Int), .int .i64 ((k : Int) + 1)] w fun e w' => e = .returned (.slice (some ⟨g, 0, none⟩) (l.length - 1) cap) ∧ OwnP 43 w' lo hi (.slice (some ⟨g, 0, none⟩) (l.length - 1) cap) (without l k) ∧ Below lo w w' := by
  obtain ⟨i0, hinf, hz0, hz1, hz2⟩ := info_parts PRule.infoT
  have HRW := Lib.hid fun w1 h => row_without (w1 := w1) ho.1 hk h
  have hhi : g < hi := ho.2 g rfl
  have hcap : l.length ≤ cap := by
    rcases ho.1.2 with ⟨h1, _⟩ | ⟨g', cap', cur, hv, _, _, hn, _⟩
    · cases h1
    · injection hv with e1 e2 e3; omega
  have hcm : cap ≤ 9223372036854775807 := by
    rcases ho.1.2 with ⟨h1, _⟩ | ⟨g', cap', cur, hv, _, _, _, hm, _⟩
    · cases h1
    · injection hv with e1 e2 e3; unfold maxLen at hm; omega
  have HT2 : Hid ((prs (l.drop (k + 1))).length = (l.length - (k + 1)) * 2) := Lib.hid (by rw [prs_length, List.length_drop])
  have HCL := Lib.hid fun j (hj : j < l.length) => ho.1.cellAt (j * 2) (by omega)
  have HCE : Hid (∀ j, j < l.length * 2 → (w.drew.cell? ⟨g, j, none⟩).isSome = true ∧ w.drew.frozen? ⟨g, j, none⟩ = false) := Lib.hid fun j hj => by
    refine ⟨?_, ho.1.frozenAt j⟩
    show (w.cell? ⟨g, j, none⟩).isSome = true
    rw [ho.1.cellAt j hj, List.getElem?_eq_getElem (by rw [prs_length]; exact hj)]; rfl
  have HSP : Hid (∀ j, j < (prs (l.drop (k + 1))).length → (w.drew.cell? ⟨g, 0 + k * 2 + j, none⟩).isSome = true ∧ w.drew.frozen? ⟨g, 0 + k * 2 + j, none⟩ = false) := Lib.hid fun j hj => by
    rw [HT2.out] at hj
    exact HCE.out _ (by omega)
  have HNEW : Hid (∀ j u, (prs (l.drop (k + 1)))[j]? = some u → w.drew.cell? ((⟨g, (k + 1) * 2, none⟩ : Addr).add j) = some u) := Lib.hid fun j u hu => by
    have hcs : ∀ j, j < l.length → w.drew.cell? ⟨g, 0 + j * 2, none⟩ = some (.int .i64 (l.getD j (0, 0)).1) ∧ w.drew.cell? ⟨g, 0 + j * 2 + 1, none⟩ = some (.int .i64 (l.getD j (0, 0)).2) := fun j hj => by
      rw [Nat.zero_add]
      have h2 := prs_get l j hj
      exact ⟨(ho.1.cellAt (j * 2) (by omega)).trans h2.1, (ho.1.cellAt (j * 2 + 1) (by omega)).trans h2.2⟩
    have := cut_news (q := k + 1) hcs drop_at j u hu
    rw [Nat.zero_add] at this
    exact this
  obtain ⟨W1, hW1⟩ : ∃ W1, W1 = w.drew.setCells g (0 + k * 2) (prs (l.drop (k + 1))) := ⟨_, rfl⟩
  have HW1 := Lib.hid hW1
  have hb1 : ∀ j, j < l.length * 2 → (W1.cell? ⟨g, j, none⟩).isSome = true ∧ W1.frozen? ⟨g, j, none⟩ = false := fun j hj => by
    rw [hW1]
    refine ⟨?_, by rw [World.frozen?_setCells]; exact (HCE.out j hj).2⟩
    by_cases hin : k * 2 ≤ j ∧ j < k * 2 + (prs (l.drop (k + 1))).length
    · obtain ⟨d, rfl⟩ : ∃ d, j = 0 + k * 2 + d := ⟨j - k * 2, by omega⟩
      rw [World.cell?_setCells_in g _ _ _ (fun i hi => (HSP.out i hi).1) d (by omega)]; rfl
    · rw [World.cell?_setCells_out g _ _ _ _ (fun _ _ => by show j < 0 + k * 2 ∨ 0 + k * 2 + _ ≤ j; omega)]
      exact (HCE.out j hj).1
  have HCLR := Lib.hid fun ty => run_clear_two (P := Try.prog) W1 28 43 ty Try.underlying28 zeroRule g ((l.length - 1) * 2) (cap - (l.length - 1)) (fun j hj => (hb1 _ (by omega)).1) (fun j hj => (hb1 _ (by omega)).2)
  have HRES0 := HRW.out ((W1.setCells g ((l.length - 1) * 2) [.int .i64 0, .int .i64 0])) (by rw [hW1])
  have HRES : Hid (OwnP 43 (W1.setCells g ((l.length - 1) * 2) [.int .i64 0, .int .i64 0]) lo hi (.slice (some ⟨g, 0, none⟩) (l.length - 1) cap) (without l k)) := Lib.hid ⟨by rw [without_len hk]; exact HRES0.1, fun q hq => by cases hq; exact hhi⟩
  have HRES2 := Lib.hid HRES0.2
  have HRM : Hid (k + (l.length - (k + 1)) ≤ cap) := Lib.hid (by omega)
  have hkm : k + (l.length - (k + 1)) = l.length - 1 := by omega
  have hone : l.length - (l.length - 1) = 1 := by omega
  have hkl : k + 1 ≤ l.length := hk
  have hkq : k ≤ cap := by omega
  have hkq1 : k + 1 ≤ cap := by omega
  have htn : ((k : Int) + 1).toNat = k + 1 := by omega
  have hi0 : (0 : Int) ≤ (k : Int) + 1 := by omega
  have hi1 : (k : Int) + 1 ≤ (l.length : Int) := by omega
  have hi2 : (k : Int) ≤ (k : Int) + 1 := by omega
  have hne : ((k : Int) == (k : Int) + 1) = false := by simp; omega
  have hll : l.length - 1 ≤ l.length := by omega
  have hlc : l.length - 1 ≤ cap := by omega
  have hli : ((l.length - 1 : Nat) : Int) ≤ (l.length : Int) := by omega
  have hcl : ¬ cap = l.length - 1 := by omega
  have hcl2 : ¬ l.length - 1 = cap := by omega
  clear ho hb1 hW1 HRW HRES0 HCL HCE
  by_cases hqk : cap = k + 1
  · have hdr : l.drop (k + 1) = [] := List.drop_of_length_le (by omega)
    subst hqk
    have hlk : l.length - 1 = k := by omega
    have hW0 : W1 = w.drew := by rw [HW1.out, hdr]; rfl
    have HC1 : Hid (∀ ty, (Builtin.clear_ #[28] ty #[.slice (some ⟨g, k * 2, none⟩) (l.length - k) 1]).run Try.prog w.drew = .ok (.tuple #[]) (W1.setCells g ((l.length - 1) * 2) [.int .i64 0, .int .i64 0])) := Lib.hid fun ty => by
      have := HCLR.out ty
      rw [hlk] at this ⊢
      rw [hW0] at this ⊢
      rw [show k + 1 - k = 1 by omega] at this
      rw [show l.length - k = 1 by omega]
      exact this
    clear hlk hW0
    go_enter Try.func109, Try.ntmps109
    go_wp2_with fail
    go_region_law (first | (refine step_append_room (by rfl) _ _ 28 (by rfl) 43 i0 2 Try.underlying28 hinf hz1 g 0 k cap (by rfl) ⟨g, 0, none⟩ (l.length - (k + 1)) (cap - (k + 1)) (prs (l.drop (k + 1))) (by rfl) HT2.out (fun j u hj => by rw [hdr] at hj; simp [prs] at hj) (prs_one _) HRM.out HSP.out ?_; rw [← HW1.out]) | fail)
    have hclr := HC1.out
    go_wp2_with fail
    go_ret
    exact ⟨by rw [show l.length - 1 = k by omega]; rfl, HRES.out, HRES2.out⟩
  · have hqk2 : ¬ k + 1 = cap := fun h => hqk h.symm
    go_enter Try.func109, Try.ntmps109
    go_wp2_with fail
    go_region_law (first | (refine step_append_room (by rfl) _ _ 28 (by rfl) 43 i0 2 Try.underlying28 hinf hz1 g 0 k cap (by rfl) ⟨g, (k + 1) * 2, none⟩ (l.length - (k + 1)) (cap - (k + 1)) (prs (l.drop (k + 1))) (by rfl) HT2.out HNEW.out (prs_one _) HRM.out HSP.out ?_; rw [← HW1.out]) | fail)
    have hclr := HCLR.out
    go_wp2_with fail
    go_ret
    exact ⟨rfl, HRES.out, HRES2.out⟩
end Go.Proofs.Ytgkoggajdhibdaa.SlP
