/-
  Chapter 9 of the program: lists of rules read from their texts.
-/
import Derived.Test.YtmdpiikffnfnbaaGreatDoorRuleK
import Derived.Test.YtmdpiikffnfnbaaGreatDoorSplit
namespace Go.Proofs.YtmdpiikffnfnbaaGreatDoor.Rule
open Go Go.RowKit Mem Sets Ctx Tab Elems Text Joins Strs Cuts Parse
set_option maxRecDepth 100000

set_option maxHeartbeats 3200000 in
theorem impl_parseRules (t : List UInt8) (hl : t.length ≤ 1048576) (w : World) (hS : w.ShapedOpen Tryz.prog) :
    Calls Tryz.prog 14 #[.string ⟨t.toArray⟩] w fun e w' => ∃ u, e = .returned (.tuple #[u, .bool (parseRules t).isSome]) ∧ OwnP 28 w' w.heap.size w'.heap.size u ((parseRules t).getD []) ∧ Below w.heap.size w w' := by
  obtain ⟨i0, hinf, hz0, hz1, hz2⟩ := info_parts PRule.infoT
  cases ht : (t == [110, 111, 110, 101]) with
  | true =>
    have HX : Hid (parseRules t = some []) := Lib.hid (by rw [parseRules, if_pos (by simpa using ht)])
    clear hS
    go_enter Tryz.func14, Tryz.ntmps14
    go_wp2_with fail
    go_ret2
    exact ⟨_, by rw [HX.out]; rfl, by rw [HX.out]; exact OwnP.made (World.ownsRow_nil _ _ _ _), Below.refl _ _⟩
  | false =>
    have hps := cuts_ne 32 t
    have HPL := Lib.hid (fun k => part_le (c := 32) (k := k) hl)
    have HS := Lib.hid (Split.impl_split t 32 hl w hS)
    have HPR := Lib.hid (show parseRules t = if goodR (cuts 32 t) = true ∧ (cuts 32 t).length ≤ 40 then some (valsR (cuts 32 t)) else none from by rw [parseRules, if_neg (by simpa using ht)])
    have hwl := cuts_length 32 t
    have HSH := Lib.hid hS
    generalize cuts 32 t = ps at hps HPL HS HPR hwl
    clear hS
    go_enter Tryz.func14, Tryz.ntmps14
    go_wp2_with fail
    refine HS.out.mono ?_
    rintro e w1 ⟨v, rfl, o1, b1⟩
    clear HS
    obtain ⟨n, hn⟩ : ∃ n, ps.length = n := ⟨_, rfl⟩
    have HN := Lib.hid hn
    have hsz1 := b1.size
    have HB1 := Lib.hid b1
    have HSH1 := Lib.hid fun p : Past w1 => shapedBelow (shapedBelow HSH.out b1) p.h
    obtain ⟨bw, o, c, rfl, hbw, hcells⟩ : ∃ bw o c, v = .slice (some ⟨bw, o, none⟩) n c ∧ bw < w1.heap.size ∧ ∀ j, j < n → w1.cell? ⟨bw, o + j, none⟩ = some (.string ⟨(ps.getD j []).toArray⟩) := by
      obtain ⟨_, a, c, rfl, hc⟩ := o1.reads
      obtain ⟨bw, o, rfl, h1, h2⟩ := hc (by simpa [strs] using hps)
      have hlen : (strs ps).length = n := by simp [strs, hn]
      rw [hlen] at h2 ⊢
      exact ⟨bw, o, c, rfl, by omega, fun j hj => (h2 j hj).trans (strs_get ps j (by omega))⟩
    have HC := Lib.hid hcells
    have hnb : n ≤ 1048577 := by omega
    clear o1 b1 hcells hwl hps hn
    by_cases h40 : 40 < n
    · have HX : Hid (parseRules t = none) := Lib.hid (by rw [HPR.out, if_neg (fun h => by have := h.2; have := HN.out; omega)])
      have hd4 : decide ((40 : Int) < (n : Int)) = true := by simp; omega
      go_wp2_with fail
      go_ret2
      exact ⟨_, by rw [HX.out]; rfl, by rw [HX.out]; exact OwnP.made (World.ownsRow_nil _ _ _ _), HB1.out⟩
    · have hd4 : decide ((40 : Int) < (n : Int)) = false := by simp; omega
      go_wp2_with (at_make; refine wpList_make_full _ rfl _ _ 32 rfl w1.heap.size 28 i0 (.agg #[.int .i64 0, .int .i64 0]) 2 Tryz.underlying32 hinf hz0 hz1 .i64 .i64 _ _ n rfl rfl rfl rfl (by rw [hz2]; omega) (by unfold maxLen; omega) (Nat.le_refl _) ?_; intro w0 hown0 hgrow0)
      have H0 := Lib.hid hown0
      have HP1 : Hid (∃ p1 : Past w1, p1.w = w0) := Lib.hid ⟨⟨w0, (Below.refl _ _).grown hgrow0 (Nat.le_refl _) (fun q hq => by cases hq)⟩, rfl⟩
      clear hown0 hgrow0
      obtain ⟨p1, rfl⟩ := HP1.out
      clear HP1
      have hsz : (madeCells (Value.agg #[.int .i64 0, .int .i64 0]).cells (n * 2)).toList.length = n * 2 := by simp [size_madeCells]
      have HSZ := Lib.hid hsz
      clear hsz
      generalize (madeCells (Value.agg #[.int .i64 0, .int .i64 0]).cells (n * 2)).toList = ys at H0 HSZ
      go_loopw [22] (fun i wr => ∃ k : Nat, k ≤ n ∧ i = .int .i64 k ∧ Hid (goodR (ps.take k) = true) ∧ Hid (wr.ownsRow w1.heap.size 28 2 (.slice (some ⟨w1.heap.size, 0, none⟩) n n) n (prs (valsR (ps.take k)) ++ ys.drop (k * 2))) ∧ ∃ p : Past w1, wr = p.w) (fun i _ => n - (intOf i).toNat)
      case atStart => exact ⟨0, Nat.zero_le _, rfl, Lib.hid rfl, Lib.hid (by simpa [prs, valsR] using H0.out), p1, rfl⟩
      case round =>
        obtain ⟨k, hk, rfl, hgd, hown, p, rfl⟩ := hrel
        by_cases hlt : k < n
        · have hkp : k < ps.length := by rw [HN.out]; exact hlt
          have cc := Past.cell (HC.out k hlt) (by exact hbw) p
          have HQ := Lib.hid (p.ofB (impl_parseRule (ps.getD k []) (HPL.out k) p.w (HSH1.out p)))
          have HGT := Lib.hid fun x h => goodR_take (s := x) hkp hgd.out h
          have HVT := Lib.hid fun x h => valsR_take (s := x) hkp h
          have HBD := Lib.hid fun h => badR_at hkp h
          generalize ps.getD k [] = q at cc HQ HGT HVT HBD
          cases hr : parseRule q with
          | none =>
            have HX : Hid (parseRules t = none) := Lib.hid (by rw [HPR.out, if_neg (fun h => by rw [HBD.out hr] at h; cases h.1)])
            rw [hr] at HQ
            rw [show optR none = .tuple #[.agg #[.int .i64 0, .int .i64 0], .bool false] from rfl] at HQ
            clear hr
            go_wp2_with fail
            refine HQ.out.mono ?_
            rintro e _ ⟨rfl, p2, rfl, -⟩
            have hbb := HB1.out.trans ((p2.alloc (.cells #[.int .i64 0, .int .i64 0] 28)).h.mono hsz1)
            go_wp2_with fail
            go_ret2
            exact ⟨_, by rw [HX.out]; rfl, by rw [HX.out]; exact OwnP.made (World.ownsRow_nil _ _ _ _), hbb⟩
          | some x =>
            obtain ⟨x0, x1⟩ := x
            have HG2 := Lib.hid (HGT.out _ hr)
            have HV2 := Lib.hid (HVT.out _ hr)
            rw [hr] at HQ
            rw [show optR (some (x0, x1)) = .tuple #[.agg #[.int .i64 x0, .int .i64 x1], .bool true] from rfl] at HQ
            clear hr HGT HVT HBD
            go_wp2_with fail
            refine HQ.out.mono ?_
            rintro e _ ⟨rfl, p2, rfl, b2⟩
            have hown2 := (rowP_same hown.out fun k hk => b2.block k (hown.out.lt k hk).2).alloc (.cells #[.int .i64 x0, .int .i64 x1] 28)
            have hbx := BoxAt.new p2.w 28 #[.int .i64 x0, .int .i64 x1]
            have HPA : Hid (∃ p3 : Past w1, p3.w = p2.w.alloc (.cells #[.int .i64 x0, .int .i64 x1] 28)) := Lib.hid ⟨p2.alloc _, rfl⟩
            go_upto_region 11 with fail
            generalize p2.w.alloc (.cells #[.int .i64 x0, .int .i64 x1] 28) = V at HPA hown2 hbx ⊢
            obtain ⟨p3, rfl⟩ := HPA.out
            have kb0 : p3.w.cell? ⟨p2.w.heap.size, 0, none⟩ = some (.int .i64 x0) := hbx.cell 0
            have kb1 : p3.w.cell? ⟨p2.w.heap.size, 1, none⟩ = some (.int .i64 x1) := hbx.cell 1
            have hl1 : (valsR (ps.take k)).length = k := by simp [valsR]; omega
            have hl2 : (prs (valsR (ps.take k)) ++ ys.drop (k * 2)).length = n * 2 := by rw [List.length_append, prs_length, hl1, List.length_drop, HSZ.out]; omega
            obtain ⟨z0, d0⟩ : ∃ z, p3.w.cell? ⟨w1.heap.size, k * 2, none⟩ = some z := by
              rw [hown2.cellAt (k * 2) (by omega)]
              exact ⟨_, List.getElem?_eq_getElem (by omega)⟩
            obtain ⟨z1, d1⟩ : ∃ z, p3.w.cell? ⟨w1.heap.size, k * 2 + 1, none⟩ = some z := by
              rw [hown2.cellAt (k * 2 + 1) (by omega)]
              exact ⟨_, List.getElem?_eq_getElem (by omega)⟩
            have f0 : p3.w.frozen? ⟨w1.heap.size, k * 2, none⟩ = false := hown2.frozenAt _
            have f1 : p3.w.frozen? ⟨w1.heap.size, k * 2 + 1, none⟩ = false := hown2.frozenAt _
            have hz3 : w1.heap.size < p3.w.heap.size := (hown2.lt _ rfl).2
            have st1 := Lib.hid (hown2.stored (k * 2) (.int .i64 x0))
            have st2 := Lib.hid (st1.out.1.stored (k * 2 + 1) (.int .i64 x1))
            have HL1 := Lib.hid hl1
            clear b2 hown2 hl1 hl2 hbx HPA hown
            go_wp2_with fail
            go_roundw
            case rel =>
              refine ⟨k + 1, by omega, by simp, HG2, Lib.hid ?_, ⟨_, (p3.h.grown st1.out.2 p3.size fun q hq => by cases hq; omega).grown st2.out.2 (by simp; omega) fun q hq => by cases hq; omega⟩, rfl⟩
              have := st2.out.1
              rw [PRule.set_pair _ _ _ (x0, x1) HL1.out (by rw [HSZ.out]; omega), ← HV2.out] at this
              exact this
            case measure => simp [intOf]; omega
        · have HK := Lib.hid (show k = n by omega)
          have HX : Hid (parseRules t = some (valsR ps)) := Lib.hid (by
            rw [HPR.out, if_pos ⟨by have := hgd.out; rwa [HK.out, List.take_of_length_le (by have := HN.out; omega)] at this, by have := HN.out; omega⟩])
          have hbb := HB1.out.trans (p.h.mono hsz1)
          have hsz2 := p.size
          go_wp2_with fail
          go_ret2
          refine ⟨_, by rw [HX.out]; rfl, ?_, hbb⟩
          rw [HX.out]
          refine (OwnP.made (n := n) (lo := w1.heap.size) ?_).mono hsz1 (Nat.le_refl _)
          have := hown.out
          rw [HK.out, List.drop_of_length_le (by rw [HSZ.out]; omega), List.append_nil, List.take_of_length_le (by have := HN.out; omega)] at this
          exact this
end Go.Proofs.YtmdpiikffnfnbaaGreatDoor.Rule
