/-
  Chapter 10 of the model: the pseudo-closed sets of a context.
-/
import Derived.Test.YthodmmckekgkdaaStemQ
import Derived.Test.YthodmmckekgkdaaRuleS
import Derived.Test.YthodmmckekgkdaaSortSpec
import Derived.BigQuiet
namespace Go.Proofs.Ythodmmckekgkdaa.Stem
open Go Go.RowKit Mem Sets Ctx Tab Rule Lectic
set_option maxRecDepth 100000

/-- A world behind a world of the class. -/
abbrev up {W : World} (p : Past W) (q : Past p.w) : Past W := ⟨q.w, p.h.trans (q.h.mono p.size)⟩
theorem asInts_get (l : List Nat) (m : Nat) (hm : m < l.length) : (ints (asInts l))[m]? = some (.int .i64 ((l.getD m 0 : Nat) : Int)) := by
  rw [ints_get _ _ (by simpa using hm)]
  simp [List.getD, hm]
theorem asInts_snoc (l : List Nat) (k : Nat) : ints (asInts (l ++ [k])) = ints (asInts l) ++ [.int .i64 (k : Int)] := by simp [ints, asInts]
theorem all_take {l : List Nat} {f : Nat → Bool} {m : Nat} (hm : m < l.length) : (l.take (m + 1)).all f = ((l.take m).all f && f (l.getD m 0)) := by
  rw [List.take_add_one, List.getElem?_eq_getElem hm, List.all_append, List.getD_eq_getElem?_getD, List.getElem?_eq_getElem hm]
  simp
theorem fits_bits {cl : Nat → Nat} {k x : Nat} (hk : k < 256) (hx : x < 256) (hc : cl x < 256) : fits cl k x = ((bits .and .i64 (x : Int) (k : Int) != (x : Int)) || (bits .and .i64 ((cl x : Nat) : Int) (k : Int) == ((cl x : Nat) : Int))) := by
  rw [andN x k (by omega) (by omega), andL ((cl x : Nat) : Int) k (by omega) (by omega), fits]
  simp only [Int.toNat_natCast]
set_option maxHeartbeats 6400000 in
theorem l10Pseudo (a : Int) (v : Value) (rs : List Int) (B : Nat) (w : World) (hr : Reads w B v (ints rs)) (hB : B ≤ w.heap.size) (hc : isCtx a rs = true) :
    Calls Try.prog 65 #[ctx a v] w fun e w' => ∃ u, e = .returned u ∧ Own 3 w' w.heap.size w'.heap.size u (ints (pseudo a rs)) ∧ Below w.heap.size w w' := by
  obtain ⟨i0, hi, hz0, hz1, hz2⟩ := info_parts Ints.info
  obtain ⟨aa, ca, rfl⟩ := reads_form hr
  have hW := (Below.refl w.heap.size w).alloc (Nat.le_refl _) (.cells #[.int .i64 a, .slice aa rs.length ca] 26)
  have HR1 := Lib.hid (hr.below hW hB)
  have q0 : (w.alloc (.cells #[.int .i64 a, .slice aa rs.length ca] 26)).cell? ⟨w.heap.size, 0, none⟩ = some (.int .i64 a) := by simp
  have q1 : (w.alloc (.cells #[.int .i64 a, .slice aa rs.length ca] 26)).cell? ⟨w.heap.size, 1, none⟩ = some (.slice aa rs.length ca) := by simp
  have hz : w.heap.size < (w.alloc (.cells #[.int .i64 a, .slice aa rs.length ca] 26)).heap.size := by simp
  have hp := isCtx_parts hc
  have hN8 : 2 ^ a.toNat ≤ 256 := pow_le8 (by omega)
  have hN1 : 1 ≤ 2 ^ a.toNat := Nat.pow_pos (by omega)
  have HF := Lib.hid fun w => spec_full a w
  rw [full_nat hp.1 (by omega)] at HF
  have HCLT : Hid (∀ x, clo a rs x < 256) := Lib.hid fun x => Nat.lt_of_lt_of_le ((clo_ok hc).lt x) hN8
  have HPS : Hid (psN a rs = psTo (clo a rs) (2 ^ a.toNat)) := Lib.hid rfl
  have HCT := Lib.hid hc
  generalize 2 ^ a.toNat = N at hN8 hN1 HF HPS
  clear hr hp hc
  go_enter Try.func65, Try.ntmps65
  go_upto_region 1 with fail
  generalize w.alloc (.cells #[.int .i64 a, .slice aa rs.length ca] 26) = W at HR1 hW q0 q1 hz ⊢
  have hBW : B ≤ W.heap.size := by omega
  have k0 := fun p : Past W => Past.cell q0 (by show w.heap.size < _; omega) p
  have k1 := fun p : Past W => Past.cell q1 (by show w.heap.size < _; omega) p
  have HBW := Lib.hid hW
  have HC := Lib.hid fun (p : Past W) (x : Nat) (hx : x < 256) => p.ofB (l4Closure a (.slice aa rs.length ca) rs (x : Int) B p.w (Past.reads HR1.out hBW p) (Nat.le_trans hBW p.size) HCT.out (by omega))
  change Hid (∀ (p : Past W) (x : Nat) (hx : x < 256), Calls _ _ _ _ fun e w' => e = .returned (.int .i64 ((clo a rs x : Nat) : Int)) ∧ ∃ q : Past W, w' = q.w ∧ Below p.w.heap.size p.w q.w) at HC
  have HQ := Lib.hid fun (p : Past W) (q : Past p.w) (x : Nat) (hx : x < 256) => q.of (l4Closure a (.slice aa rs.length ca) rs (x : Int) B q.w (Past.reads HR1.out hBW (up p q)) (Nat.le_trans hBW (up p q).size) HCT.out (by omega))
  change Hid (∀ (p : Past W) (q : Past p.w) (x : Nat) (hx : x < 256), Calls _ _ _ _ fun e w' => e = .returned (.int .i64 ((clo a rs x : Nat) : Int)) ∧ ∃ z : Past p.w, w' = z.w) at HQ
  clear hW q0 q1
  have O0 : Hid ((W.alloc (.cells #[] 3 (0, 0))).ownsRow W.heap.size 3 1 (.slice (some ⟨W.heap.size, 0, none⟩) 0 0) 0 (ints (asInts (psTo (clo a rs) 0)))) := Lib.hid (World.ownsRow_lit W #[] 0 (Nat.le_refl _) (Nat.zero_le _) rfl)
  go_wp2_with fail
  go_loopw [3, 4] (fun ov i wr => ∃ (k : Nat) (v0 : Value) (p : Past W), k ≤ N ∧ i = .int .i64 k ∧ ov = v0 ∧ Hid (p.w.ownsRow W.heap.size 3 1 v0 (psTo (clo a rs) k).length (ints (asInts (psTo (clo a rs) k)))) ∧ wr = p.w) (fun _ i _ => N - (intOf i).toNat)
  case atStart => exact ⟨0, _, (Past.start W).alloc _, Nat.zero_le _, rfl, rfl, O0, rfl⟩
  case round =>
    obtain ⟨k, v0, p, hk, rfl, rfl, hown, rfl⟩ := hrel
    have kp0 := k0 p
    have kp1 := k1 p
    by_cases hlt : k < N
    · have dk : decide ((k : Int) ≤ ((N - 1 : Nat) : Int)) = true := by simp; omega
      have hk256 : k < 256 := by omega
      go_wp2_with fail
      refine (HF.out _).mono ?_
      rintro e w' ⟨rfl, hw⟩
      subst w'
      go_wp2_with fail
      refine (HC.out p k hk256).mono ?_
      rintro e _ ⟨rfl, p2, rfl, b2⟩
      have HO2 := Lib.hid (rowP_same hown.out fun g hg => b2.block g (hown.out.lt g hg).2)
      clear b2 hown
      have HPT := Lib.hid (psTo_succ (clo a rs) k)
      have hl := psTo_len (clo a rs) k
      have HLT : Hid (∀ x ∈ psTo (clo a rs) k, x < 256) := Lib.hid fun x hx => by have := ps_lt hx; omega
      generalize psTo (clo a rs) k = l at HO2 HPT hl HLT
      by_cases he : clo a rs k = k
      · have hd : (((clo a rs k : Nat) : Int) == ((k : Nat) : Int)) = true := by rw [he]; simp
        have HP : Hid (psTo (clo a rs) (k + 1) = l) := Lib.hid (by rw [HPT.out, if_neg (fun h => h.1 he)])
        clear he
        go_wp2_with fail
        go_roundw
        case rel => exact ⟨k + 1, _, p2, by omega, by simp, rfl, by rw [HP.out]; exact HO2, rfl⟩
        case measure => simp [intOf]; omega
      · have hd : (((clo a rs k : Nat) : Int) == ((k : Nat) : Int)) = false := by simp; omega
        have HNE := Lib.hid he
        have HFB := Lib.hid fun (x : Nat) (hx : x < 256) => fits_bits (cl := clo a rs) hk256 hx (HCLT.out x)
        clear he
        obtain ⟨L, hL⟩ : ∃ L, l.length = L := ⟨_, rfl⟩
        have HL := Lib.hid hL
        rw [hL] at HO2 hl
        obtain ⟨av, cv, hov⟩ := rowP_form HO2.out
        subst hov
        have HRD := Lib.hid ((Own.made HO2.out).reads)
        clear hL
        go_wp2_with fail
        go_loopw [5, 6] (fun f j wr => ∃ (m : Nat) (b : Bool), m ≤ L ∧ j = .int .i64 m ∧ f = .bool b ∧ Hid (b = (l.take m).all (fits (clo a rs) k)) ∧ ∃ q : Past p2.w, wr = q.w) (fun _ j _ => L - (intOf j).toNat)
        case atStart => exact ⟨0, true, Nat.zero_le _, rfl, rfl, Lib.hid rfl, Past.start p2.w, rfl⟩
        case round =>
          obtain ⟨m, b, hm, rfl, rfl, hb, q, rfl⟩ := hrel
          by_cases hmL : m < L
          · have hml : m < l.length := by rw [HL.out]; exact hmL
            obtain ⟨bq, oq, rfl, hbq, hcell⟩ : ∃ bq oq, av = some ⟨bq, oq, none⟩ ∧ bq < p2.w.heap.size ∧ p2.w.cell? ⟨bq, oq + m, none⟩ = some (.int .i64 ((l.getD m 0 : Nat) : Int)) := by
              obtain ⟨_, a', c', hv, hcells⟩ := HRD.out
              have hle : (ints (asInts l)).length = l.length := by simp [ints, asInts]
              obtain ⟨bq, oq, h1, h2, h3⟩ := hcells (by intro h0; rw [← List.length_eq_zero_iff, hle] at h0; omega)
              injection hv with e1 e2 e3
              exact ⟨bq, oq, e1.trans h1, h2, (h3 m (by omega)).trans (asInts_get l m hml)⟩
            have kk := fun z : Past p2.w => Past.cell hcell (by show bq < _; omega) z
            have e0 := fun z : Past p2.w => k0 (up p2 z)
            have e1 := fun z : Past p2.w => k1 (up p2 z)
            have hx : l.getD m 0 < 256 := HLT.out _ (by rw [List.getD_eq_getElem?_getD, List.getElem?_eq_getElem hml]; exact List.getElem_mem hml)
            have HT := Lib.hid (all_take (f := fits (clo a rs) k) hml)
            have HF1 := Lib.hid (HFB.out _ hx)
            have H2 := Lib.hid fun z : Past p2.w => HQ.out p2 z _ hx
            clear hcell
            generalize l.getD m 0 = x at kk hx HT HF1 H2
            cases b with
            | false =>
              have HB : Hid (false = (l.take (m + 1)).all (fits (clo a rs) k)) := Lib.hid (by rw [HT.out, ← hb.out]; rfl)
              clear H2 HF1
              go_wp2_with fail
              refine wp_region_pastIn q (by kernel_rfl) (by kernel_rfl) ?_
              repeat (go_big_quiet_step (fail))
              refine wpQuiet_nil ?_
              rintro _ ⟨q2, rfl⟩
              go_wp2_with fail
              go_roundw
              case rel => exact ⟨m + 1, false, by omega, by simp, rfl, HB, q2, rfl⟩
              case measure => simp [intOf]; omega
            | true =>
              obtain ⟨d1, hd1⟩ : ∃ d, (bits .and .i64 (x : Int) (k : Int) != (x : Int)) = d := ⟨_, rfl⟩
              generalize clo a rs x = y at HF1 H2
              obtain ⟨d2, hd2⟩ : ∃ d, (bits .and .i64 ((y : Nat) : Int) (k : Int) == ((y : Nat) : Int)) = d := ⟨_, rfl⟩
              rw [hd1, hd2] at HF1
              have HB : Hid ((d1 || d2) = (l.take (m + 1)).all (fits (clo a rs) k)) := Lib.hid (by rw [HT.out, ← hb.out, HF1.out]; rfl)
              cases d1 with
              | true =>
                clear H2 HF1
                go_wp2_with fail
                refine wp_region_pastIn q (by kernel_rfl) (by kernel_rfl) ?_
                repeat (go_big_quiet_step (fail))
                refine wpQuiet_nil ?_
                rintro _ ⟨q2, rfl⟩
                go_wp2_with fail
                go_roundw
                case rel => exact ⟨m + 1, true, by omega, by simp, rfl, HB, q2, rfl⟩
                case measure => simp [intOf]; omega
              | false =>
                clear HF1
                go_wp2_with fail
                refine wp_region_pastIn q (by kernel_rfl) (by kernel_rfl) ?_
                repeat (go_big_quiet_step (first | with_reducible exact H2.out _))
                refine wpQuiet_nil ?_
                rintro _ ⟨q2, rfl⟩
                go_wp2_with fail
                go_roundw
                case rel => exact ⟨m + 1, d2, by omega, by simp, rfl, HB, q2, rfl⟩
                case measure => simp [intOf]; omega
          · have hba : b = l.all (fits (clo a rs) k) := by
              have := hb.out
              rwa [List.take_of_length_le (by have := HL.out; omega)] at this
            have HO3 := Lib.hid (rowP_same HO2.out fun g hg => q.h.block g (HO2.out.lt g hg).2)
            cases b with
            | false =>
              have HP : Hid (psTo (clo a rs) (k + 1) = l) := Lib.hid (by rw [HPT.out, if_neg (fun h => by rw [← hba] at h; exact Bool.false_ne_true h.2)])
              clear hba
              go_wp2_with fail
              go_roundw
              case rel => exact ⟨k + 1, _, up p2 q, by omega, by simp, rfl, by rw [HP.out, HL.out]; exact HO3, rfl⟩
              case measure => simp [intOf]; omega
            | true =>
              have HP : Hid (psTo (clo a rs) (k + 1) = l ++ [k]) := Lib.hid (by rw [HPT.out, if_pos ⟨HNE.out, hba.symm⟩])
              have hz3 := q.size
              have hz2' := p2.size
              clear hba
              go_wp2_with (at_builtin; refine wpList_append_own _ rfl _ _ 24 rfl W.heap.size 3 i0 (.int .i64 0) 1 8 Try.underlying24 hi hz0 hz1 hz2 rfl (by decide) _ _ _ rfl (HO3.out.alloc _) ⟨q.w.heap.size, 0, none⟩ 1 1 [.int .i64 (k : Int)] rfl rfl ?c1 ?c2 ?c3 ?c4 ?c5 ?_)
              case c1 =>
                intro j u hj
                match j, hj with
                | 0, hj => simp at hj; subst hj; simp [Addr.add]
              case c2 => intro u hu; simp at hu; subst hu; rfl
              case c3 => unfold maxLen; omega
              case c4 => omega
              case c5 => simp; omega
              intro v2 w2 hown' hgrow _
              have hown2 := Lib.hid hown'
              have hgrow2 := Lib.hid hgrow
              clear hown' hgrow
              go_wp2_with fail
              go_roundw
              case rel =>
                refine ⟨k + 1, _, ⟨w2, ((up p2 q).h.alloc (up p2 q).size _).grown hgrow2.out (by simp; omega) (fun j hj => (HO3.out.lt j hj).1)⟩, by omega, by simp, rfl, ?_, rfl⟩
                rw [HP.out, asInts_snoc, List.length_append, HL.out]
                exact Lib.hid (by have := hown2.out; simpa [ints, asInts] using this)
              case measure => simp [intOf]; omega
    · have dk : decide ((k : Int) ≤ ((N - 1 : Nat) : Int)) = false := by simp; omega
      have HKN : Hid (psTo (clo a rs) k = psN a rs) := Lib.hid (by rw [HPS.out, show k = N by omega])
      have hrow := hown.out
      rw [HKN.out] at hrow
      have ho := Own.made hrow
      have hlen := psN_len HCT.out
      have HJ := Lib.hid (SortL.spec_sort _ (asInts (psN a rs)) p.w.heap.size p.w ho.reads (Nat.le_refl _) (by simp; omega))
      rw [show (psN a rs).length = (asInts (psN a rs)).length by simp] at hrow
      have hpz := p.size
      have hbp := HBW.out.trans (p.h.mono (by omega))
      clear hrow ho hlen hown
      go_wp2_with fail
      refine (HF.out _).mono ?_
      rintro e w' ⟨rfl, hw⟩
      subst w'
      go_wp2_with fail
      refine HJ.out.mono ?_
      rintro e w2 ⟨u, rfl, o2, b2⟩
      have hbb := hbp.trans (b2.mono (by omega))
      go_wp2_with fail
      go_ret
      exact ⟨_, rfl, o2.mono (by omega) (Nat.le_refl _), hbb⟩
end Go.Proofs.Ythodmmckekgkdaa.Stem
