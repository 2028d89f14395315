/-
  Chapter 7 of the model: ReduceContext.
-/
import Derived.Test.YtbpicpapkpomhaaRedS3
namespace Go.Proofs.Ytbpicpapkpomhaa.Ctx
open Go Go.RowKit Mem Sets Elems
set_option maxRecDepth 100000

theorem ctx_clarified {a b : Int} {rs l : List Int} (h : clarify a rs = some (b, l)) : isCtx b l = true := by
  unfold clarify at h
  split at h
  · rename_i hc
    have hd := dedTo_ctx hc
    have ht := twins_isSet hd
    rw [dropA, if_pos ⟨hd, ht⟩] at h
    simp only [Option.some.injEq, Prod.mk.injEq] at h
    obtain ⟨rfl, rfl⟩ := h
    exact packRows_ctx hd ht
  · cases h
theorem redO_at {a : Int} {rs : List Int} (h : isCtx a rs = true) {k : Nat} (hk : k < rs.length) : redO a rs k = isCp (fullA a) rs k := by rw [redO, if_pos ⟨h, by omega, by omega⟩, Int.toNat_natCast]
theorem redA_at {a : Int} {rs : List Int} (h : isCtx a rs = true) {k : Nat} (hk : k < a.toNat) : redA a rs k = isCp (fullO rs) (cols a rs) k := by rw [redA, if_pos ⟨h, by omega, by omega⟩, Int.toNat_natCast]
set_option maxHeartbeats 8000000 in
theorem spec_reduce (a : Int) (v : Value) (rs : List Int) (B : Nat) (w : World) (hr : Reads w B v (ints rs)) (hB : B ≤ w.heap.size) :
    Calls Try.prog 16 #[ctx a v] w (CtxRes (reduce a rs) w) := by
  obtain ⟨aa, ca, rfl⟩ := reads_form hr
  have hW := ((Below.refl w.heap.size w).alloc (Nat.le_refl _) (.cells #[.int .i64 a, .slice aa rs.length ca] 26)).alloc (by simp) (.cells #[.int .i64 0, .slice none 0 0] 26)
  have HR1 := Lib.hid (hr.below hW hB)
  have q0 : ((w.alloc (.cells #[.int .i64 a, .slice aa rs.length ca] 26)).alloc (.cells #[.int .i64 0, .slice none 0 0] 26)).cell? ⟨w.heap.size, 0, none⟩ = some (.int .i64 a) := by simp
  have q1 : ((w.alloc (.cells #[.int .i64 a, .slice aa rs.length ca] 26)).alloc (.cells #[.int .i64 0, .slice none 0 0] 26)).cell? ⟨w.heap.size, 1, none⟩ = some (.slice aa rs.length ca) := by simp
  have hbx : BoxAt ((w.alloc (.cells #[.int .i64 a, .slice aa rs.length ca] 26)).alloc (.cells #[.int .i64 0, .slice none 0 0] 26)) (w.heap.size + 1) 26 #[.int .i64 0, .slice none 0 0] := by
    have := BoxAt.new (w.alloc (.cells #[.int .i64 a, .slice aa rs.length ca] 26)) 26 #[.int .i64 0, .slice none 0 0]; simpa using this
  have hz : w.heap.size + 2 ≤ ((w.alloc (.cells #[.int .i64 a, .slice aa rs.length ca] 26)).alloc (.cells #[.int .i64 0, .slice none 0 0] 26)).heap.size := by simp
  clear hr
  go_enter Try.func16, Try.ntmps16
  go_wp2_with fail
  generalize ((w.alloc (.cells #[.int .i64 a, .slice aa rs.length ca] 26)).alloc (.cells #[.int .i64 0, .slice none 0 0] 26)) = W at HR1 hW q0 q1 hz hbx ⊢
  refine (spec_clarify a _ rs B W HR1.out (by omega)).mono ?_
  rintro e w1 ⟨u, rfl, o1, b1⟩
  obtain ⟨p0, c0, rfl⟩ := own_form o1
  have hy1 := b1.size
  have B1 := Lib.hid (hW.trans (b1.mono (by omega)))
  have HBX1 := Lib.hid (hbx.below b1 (by omega))
  have hzw : w.heap.size + 2 ≤ w1.heap.size := by omega
  have HO := Lib.hid o1.reads
  clear b1 q0 q1 hbx hW HR1 hz o1
  cases hcl : clarify a rs with
  | none =>
    have HX : Hid (reduce a rs = none) := Lib.hid (by rw [reduce, hcl]; rfl)
    have e0 : ∀ o, (w1.alloc o).cell? ⟨w.heap.size + 1, 0, none⟩ = some (.int .i64 0) := fun o => (HBX1.out.alloc o).cell 0
    have e1 : ∀ o, (w1.alloc o).cell? ⟨w.heap.size + 1, 1, none⟩ = some (.slice none 0 0) := fun o => (HBX1.out.alloc o).cell 1
    have f0 : ∀ o, (w1.alloc o).frozen? ⟨w.heap.size + 1, 0, none⟩ = false := fun o => (HBX1.out.alloc o).free 0
    have f1 : ∀ o, (w1.alloc o).frozen? ⟨w.heap.size + 1, 1, none⟩ = false := fun o => (HBX1.out.alloc o).free 1
    clear hcl HO
    go_wp2_with fail
    refine bodyPost_ret (v := .tuple #[ctx 0 (.slice none 0 0), .bool false]) (by simp [results, Try.results16, go_sem, e0, e1]) rfl (ctxRes_none HX.out ?_)
    exact ((B1.out.alloc (by omega) _).setCell (p := ⟨w.heap.size + 1, 0, none⟩) (by show w.heap.size ≤ w.heap.size + 1; omega) _).setCell (p := ⟨w.heap.size + 1, 1, none⟩) (by show w.heap.size ≤ w.heap.size + 1; omega) _
  | some bl =>
    obtain ⟨ba, bs⟩ := bl
    rw [hcl] at HO
    simp only [Option.getD_some] at HO
    have HDB : Hid (isCtx ba bs = true) := Lib.hid (ctx_clarified hcl)
    have HX : Hid (reduce a rs = thin ba bs) := Lib.hid (by rw [reduce, hcl]; rfl)
    simp only [Option.getD_some, Option.isSome_some]
    have BX0 := HBX1.out.alloc (.cells #[.int .i64 ba, .slice p0 bs.length c0] 26)
    have BQ0 := BoxAt.new w1 26 #[.int .i64 ba, .slice p0 bs.length c0]
    have hA := (Below.refl w1.heap.size w1).alloc (Nat.le_refl _) (.cells #[.int .i64 ba, .slice p0 bs.length c0] 26)
    have RQ0 := HO.out.below hA (Nat.le_refl _)
    have BT0 := B1.out.trans (hA.mono (by omega))
    have hz2 : w1.heap.size < (w1.alloc (.cells #[.int .i64 ba, .slice p0 bs.length c0] 26)).heap.size := by simp
    clear hcl HO HBX1 B1 hA
    go_upto_region 4 with fail
    generalize w1.alloc (.cells #[.int .i64 ba, .slice p0 bs.length c0] 26) = V at BX0 BQ0 RQ0 BT0 hz2 ⊢
    have hp := isCtx_parts HDB.out
    have hVg : w1.heap.size ≤ V.heap.size := by omega
    have RV := Lib.hid RQ0
    have BX1 := Lib.hid BX0
    have BT1 := Lib.hid BT0
    have k0 : ∀ p : Past V, p.w.cell? ⟨w1.heap.size, 0, none⟩ = some (.int .i64 ba) := fun p => Past.cell (BQ0.cell 0) hz2 p
    have k1 : ∀ p : Past V, p.w.cell? ⟨w1.heap.size, 1, none⟩ = some (.slice p0 bs.length c0) := fun p => Past.cell (BQ0.cell 1) hz2 p
    have HG := Lib.hid fun (p : Past V) (k : Nat) (hk : k < bs.length) => by
      have := p.of (spec_redO ba (.slice p0 bs.length c0) bs k _ p.w (Past.reads RV.out hVg p) (Nat.le_trans hVg p.size))
      rw [redO_at HDB.out hk] at this
      exact this
    have HDO : dropO ba bs ((redOs ba bs : Nat) : Int) = some (ba, dropTo bs ((redOs ba bs : Nat) : Int) bs.length) := by rw [dropO, if_pos ⟨HDB.out, redOs_isSet HDB.out⟩]
    have HP2 := Lib.hid fun p : Past V => p.ofCtx ((spec_dropO ba (.slice p0 bs.length c0) bs ((redOs ba bs : Nat) : Int) _ p.w (Past.reads RV.out hVg p) (Nat.le_trans hVg p.size)).mono fun e w' h => someCtx HDO h)
    have HXT : Hid (reduce a rs = dropA ba (dropTo bs ((redOs ba bs : Nat) : Int) bs.length) ((redAs ba (dropTo bs ((redOs ba bs : Nat) : Int) bs.length) : Nat) : Int)) := Lib.hid HX.out
    have HDC := Lib.hid (dropTo_ctx HDB.out ((redOs ba bs : Nat) : Int))
    have HRO : Hid (redOs ba bs = cmTo (fullA ba) bs bs.length) := Lib.hid rfl
    have hbl := hp.2.2.1
    have hb6 := hp.2.1
    have hb0 := hp.1
    generalize dropTo bs ((redOs ba bs : Nat) : Int) bs.length = ds at HXT HP2 HDC
    generalize redOs ba bs = ro at HRO HP2
    generalize fullA ba = fa at HG HRO
    clear hp HX HDO BX0 RQ0 BT0 BQ0 HDB
    have k1s := k1 (Past.start V)
    go_wp2_with fail
    go_loopw [6, 7] (fun t i wx => ∃ k c : Nat, k ≤ bs.length ∧ i = .int .i64 k ∧ t = .int .i64 c ∧ c < 256 ∧ Hid (c = cmTo fa bs k) ∧ ∃ p : Past V, wx = p.w) (fun _ i _ => bs.length - (intOf i).toNat)
    case atStart => exact ⟨0, 0, Nat.zero_le _, rfl, rfl, by omega, Lib.hid rfl, Past.start V, rfl⟩
    case round =>
      obtain ⟨k, c, hk, rfl, rfl, hc, HC, p, rfl⟩ := hrel
      have kp0 := k0 p
      have kp1 := k1 p
      by_cases hlt : k < bs.length
      · have HK := Lib.hid (HG.out p k hlt)
        cases hb : isCp fa bs k with
        | true =>
          have HST := Lib.hid (cmTo_yes hb)
          rw [hb] at HK
          clear hb
          go_wp2_with fail
          refine HK.out.mono ?_
          rintro e _ ⟨rfl, p2, rfl⟩
          go_wp2_with fail
          go_roundw
          case rel => exact ⟨k + 1, c ||| 2 ^ k, by omega, by simp, by rw [or_pow c k hc (by omega)], Nat.or_lt_two_pow (n := 8) hc (Nat.pow_lt_pow_right (by omega) (by omega)), Lib.hid (by rw [HST.out, ← HC.out]), p2, rfl⟩
          case measure => simp [intOf]; omega
        | false =>
          have HST := Lib.hid (cmTo_no hb)
          rw [hb] at HK
          clear hb
          go_wp2_with fail
          refine HK.out.mono ?_
          rintro e _ ⟨rfl, p2, rfl⟩
          go_wp2_with fail
          go_roundw
          case rel => exact ⟨k + 1, c, by omega, by simp, rfl, hc, Lib.hid (by rw [HST.out, ← HC.out]), p2, rfl⟩
          case measure => simp [intOf]; omega
      · have hkl : k = bs.length := by omega
        have hcr : c = ro := by rw [HC.out, hkl, HRO.out]
        subst hcr
        clear hkl HC HG HRO
        go_wp2_with fail
        refine (HP2.out p).mono ?_
        rintro e _ ⟨pa, pc, rfl, p2, rfl, o2, b2⟩
        have hd := isCtx_parts HDC.out
        have hd8 := hd.2.2.1
        have hVp := p2.size
        have BX2 := (BX1.out.below p2.h (by omega)).alloc (.cells #[.int .i64 ba, .slice pa ds.length pc] 26)
        have BQ2 := BoxAt.new p2.w 26 #[.int .i64 ba, .slice pa ds.length pc]
        have hA := (Below.refl p2.w.heap.size p2.w).alloc (Nat.le_refl _) (.cells #[.int .i64 ba, .slice pa ds.length pc] 26)
        have RQ2 := o2.reads.below hA (Nat.le_refl _)
        have BT2 := (BT1.out.trans (p2.h.mono (by omega))).trans (hA.mono (by omega))
        have hz3 : p2.w.heap.size < (p2.w.alloc (.cells #[.int .i64 ba, .slice pa ds.length pc] 26)).heap.size := by simp
        clear o2 b2 hA
        go_upto_region 11 with fail
        generalize p2.w.alloc (.cells #[.int .i64 ba, .slice pa ds.length pc] 26) = V2 at BX2 BQ2 RQ2 BT2 hz3 ⊢
        obtain ⟨q, hq⟩ : ∃ q, p2.w.heap.size = q := ⟨_, rfl⟩
        rw [hq] at BQ2 RQ2 hz3 hVp ⊢
        clear hq p2 BX1 BT1 kp0 kp1 k0 k1 k1s HP2 RV
        have hqV : q ≤ V2.heap.size := by omega
        have RV2 := Lib.hid RQ2
        have BX3 := Lib.hid BX2
        have BT3 := Lib.hid BT2
        have j0 : ∀ p : Past V2, p.w.cell? ⟨q, 0, none⟩ = some (.int .i64 ba) := fun p => Past.cell (BQ2.cell 0) hz3 p
        have j1 : ∀ p : Past V2, p.w.cell? ⟨q, 1, none⟩ = some (.slice pa ds.length pc) := fun p => Past.cell (BQ2.cell 1) hz3 p
        have HG := Lib.hid fun (p : Past V2) (k : Nat) (hk : k < ba.toNat) => by
          have := p.of (spec_redA ba (.slice pa ds.length pc) ds k _ p.w (Past.reads RV2.out hqV p) (Nat.le_trans hqV p.size))
          rw [redA_at HDC.out hk] at this
          exact this
        obtain ⟨b, hb⟩ : ∃ b, count (keepOf ba ((redAs ba ds : Nat) : Int)) = b := ⟨_, rfl⟩
        obtain ⟨l, hl⟩ : ∃ l, packRows ds (keepOf ba ((redAs ba ds : Nat) : Int)) ds.length = l := ⟨_, rfl⟩
        have hdA : dropA ba ds ((redAs ba ds : Nat) : Int) = some (b, l) := by rw [dropA, if_pos ⟨HDC.out, redAs_isSet HDC.out⟩, hb, hl]
        have HD := Lib.hid fun p : Past V2 => (spec_dropA ba (.slice pa ds.length pc) ds ((redAs ba ds : Nat) : Int) _ p.w (Past.reads RV2.out hqV p) (Nat.le_trans hqV p.size)).mono fun e w' h => someCtx hdA h
        have HXs : Hid (reduce a rs = some (b, l)) := Lib.hid (HXT.out.trans hdA)
        have HRA : Hid (redAs ba ds = cmTo (fullO ds) (cols ba ds) ba.toNat) := Lib.hid rfl
        generalize cols ba ds = cs at HG HRA
        generalize redAs ba ds = ra at HRA HD
        generalize fullO ds = fo at HG HRA
        have j0s := j0 (Past.start V2)
        clear hb hl hdA HXT BX2 RQ2 BT2 BQ2 HDC hd hlt hc hk
        go_wp2_with fail
        go_loopw [6, 10] (fun t i wx => ∃ k c : Nat, k ≤ ba.toNat ∧ i = .int .i64 k ∧ t = .int .i64 c ∧ c < 256 ∧ Hid (c = cmTo fo cs k) ∧ ∃ p : Past V2, wx = p.w) (fun _ i _ => ba.toNat - (intOf i).toNat)
        case atStart => exact ⟨0, 0, Nat.zero_le _, rfl, rfl, by omega, Lib.hid rfl, Past.start V2, rfl⟩
        case round =>
          obtain ⟨k, c, hk, rfl, rfl, hc, HC, p, rfl⟩ := hrel
          have jp0 := j0 p
          have jp1 := j1 p
          by_cases hlt : k < ba.toNat
          · have HK := Lib.hid (HG.out p k hlt)
            cases hb : isCp fo cs k with
            | true =>
              have HST := Lib.hid (cmTo_yes hb)
              rw [hb] at HK
              clear hb
              go_wp2_with fail
              refine HK.out.mono ?_
              rintro e _ ⟨rfl, p2, rfl⟩
              go_wp2_with fail
              go_roundw
              case rel => exact ⟨k + 1, c ||| 2 ^ k, by omega, by simp, by rw [or_pow c k hc (by omega)], Nat.or_lt_two_pow (n := 8) hc (Nat.pow_lt_pow_right (by omega) (by omega)), Lib.hid (by rw [HST.out, ← HC.out]), p2, rfl⟩
              case measure => simp [intOf]; omega
            | false =>
              have HST := Lib.hid (cmTo_no hb)
              rw [hb] at HK
              clear hb
              go_wp2_with fail
              refine HK.out.mono ?_
              rintro e _ ⟨rfl, p2, rfl⟩
              go_wp2_with fail
              go_roundw
              case rel => exact ⟨k + 1, c, by omega, by simp, rfl, hc, Lib.hid (by rw [HST.out, ← HC.out]), p2, rfl⟩
              case measure => simp [intOf]; omega
          · have hka : k = ba.toNat := by omega
            have hcr : c = ra := by rw [HC.out, hka, HRA.out]
            subst hcr
            clear hka HC HG HRA
            go_wp2_with fail
            refine (HD.out p).mono ?_
            rintro e w3 ⟨pa, pc, rfl, o3, b3⟩
            have hy3 := b3.size
            have hyp := p.size
            have HB3 := BX3.out.below (p.h.trans (b3.mono hyp)) (by omega)
            have e0 : ∀ o, (w3.alloc o).cell? ⟨w.heap.size + 1, 0, none⟩ = some (.int .i64 0) := fun o => (HB3.alloc o).cell 0
            have e1 : ∀ o, (w3.alloc o).cell? ⟨w.heap.size + 1, 1, none⟩ = some (.slice none 0 0) := fun o => (HB3.alloc o).cell 1
            have f0 : ∀ o, (w3.alloc o).frozen? ⟨w.heap.size + 1, 0, none⟩ = false := fun o => (HB3.alloc o).free 0
            have f1 : ∀ o, (w3.alloc o).frozen? ⟨w.heap.size + 1, 1, none⟩ = false := fun o => (HB3.alloc o).free 1
            have O3 := Lib.hid o3
            have BZ := Lib.hid (BT3.out.trans ((p.h.trans (b3.mono hyp)).mono (by omega)))
            clear o3 b3 HB3
            go_wp2_with fail
            refine bodyPost_ret (v := .tuple #[ctx b (.slice pa l.length pc), .bool true]) (by simp [results, Try.results16, go_sem, e0, e1]) rfl (ctxRes_some HXs.out ?_ ?_)
            · refine (own_set (own_set (ownBx O3.out (by omega) _) (p := ⟨w.heap.size + 1, 0, none⟩) (.inl (by show w.heap.size + 1 < _; omega)) _) (p := ⟨w.heap.size + 1, 1, none⟩) (.inl (by show w.heap.size + 1 < _; omega)) _).mono (by omega) (by simp)
            · exact ((BZ.out.alloc (by omega) _).setCell (p := ⟨w.heap.size + 1, 0, none⟩) (by show w.heap.size ≤ w.heap.size + 1; omega) _).setCell (p := ⟨w.heap.size + 1, 1, none⟩) (by show w.heap.size ≤ w.heap.size + 1; omega) _
end Go.Proofs.Ytbpicpapkpomhaa.Ctx
