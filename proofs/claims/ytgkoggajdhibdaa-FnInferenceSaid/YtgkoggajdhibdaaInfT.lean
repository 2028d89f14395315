/-
  Chapter 11 of the model: the shortest list.
-/
import Derived.Test.YtgkoggajdhibdaaInfS
namespace Go.Proofs.Ytgkoggajdhibdaa.Infer
open Go Go.RowKit Mem Sets Ctx Tab Rule Stem Lectic
set_option maxRecDepth 100000

theorem areR_nn {n : Int} {l : List PInt} (h : areR n l = true) : 0 ≤ n ∧ n ≤ 6 ∧ l.length ≤ 40 := by
  unfold areR at h
  rw [Bool.and_eq_true, Bool.and_eq_true, decide_eq_true_eq, decide_eq_true_eq] at h
  omega
/-- The shortest list; none where the rules are no rules of n elements. -/
def shortRules (n : Int) (l : List PInt) : List PInt := if areR n l = true then shortOf n.toNat l else []
theorem short_nat {n : Nat} {l : List PInt} (hn : n ≤ 8) : asInts (shortN n l) = shortP n l := by
  unfold shortN asInts
  rw [List.map_map]
  refine (List.map_congr_left fun z hz => ?_).trans (List.map_id _)
  obtain ⟨x, -, rfl⟩ := (sortPs_mem hn).1 hz
  show ((((x : Nat) : Int).toNat : Nat) : Int) = id ((x : Nat) : Int)
  rw [Int.toNat_natCast]; rfl
theorem shortOf_plen (n : Nat) (l : List PInt) : (shortOf n l).length = (shortP n l).length := by rw [shortOf, List.length_map, shortN, List.length_map]
theorem short_get {n : Nat} {l : List PInt} (hn : n ≤ 8) {k : Nat} (hk : k < (shortP n l).length) : ∃ x : Nat, x < 2 ^ n ∧ (shortP n l).getD k 0 = (x : Int) ∧ (shortOf n l).take (k + 1) = (shortOf n l).take k ++ [((x : Int), ((clN n l x : Nat) : Int))] := by
  have hkN : k < (shortN n l).length := by rw [shortN, List.length_map]; exact hk
  have hkS : k < (shortOf n l).length := by rw [shortOf_plen]; exact hk
  have hm : (shortN n l)[k] ∈ shortN n l := List.getElem_mem hkN
  have h1 : (shortP n l).getD k 0 = (((shortN n l)[k] : Nat) : Int) := by
    rw [List.getD_eq_getElem?_getD, ← short_nat hn, List.getElem?_map, List.getElem?_eq_getElem hkN]; rfl
  have h2 : (shortOf n l)[k] = ruleOf (clN n l) (shortN n l)[k] := by simp [shortOf]
  refine ⟨(shortN n l)[k], (shortN_base hn).lt hm, h1, ?_⟩
  rw [List.take_add_one, List.getElem?_eq_getElem hkS, h2]; rfl
theorem shortP_len {n : Nat} {l : List PInt} (h : areR (n : Int) l = true) : (shortP n l).length ≤ 32 := by
  rw [← shortOf_plen]; exact shortOf_len h
set_option maxHeartbeats 12800000 in
theorem spec_shortR (n : Int) (v : Value) (l : List PInt) (B : Nat) (w : World) (hr : ReadsP w B v l) (hB : B ≤ w.heap.size) :
    Calls Try.prog 44 #[.int .i64 n, v] w fun e w' => ∃ u, e = .returned (.tuple #[u, .bool (areR n l)]) ∧ OwnP 43 w' w.heap.size w'.heap.size u (shortRules n l) ∧ Below w.heap.size w w' := by
  obtain ⟨i0, hi, hz0, hz1, hz2⟩ := info_parts Ints.info
  obtain ⟨j0, jnf, jz0, jz1, jz2⟩ := info_parts PRule.infoT
  have HA := Lib.hid (((Past.start w).alloc (.cells #[] 43)).ofB (spec_areRules n v l B (w.alloc (.cells #[] 43)) (hr.below ((Past.start w).alloc (.cells #[] 43)).h hB) (Nat.le_trans hB ((Past.start w).alloc (.cells #[] 43)).size)))
  have HL0 := Lib.hid (World.ownsRow_lit (e := 43) (size := 2) w #[] 0 (Nat.le_refl _) (Nat.zero_le _) rfl)
  have hzz : w.heap.size < (w.alloc (.cells #[] 43)).heap.size := by simp
  cases ha : areR n l with
  | false =>
    have HX : Hid (shortRules n l = []) := Lib.hid (by rw [shortRules, if_neg (by rw [ha]; decide)])
    rw [ha] at HA
    clear ha hr
    go_enter Try.func44, Try.ntmps44
    go_wp2_with fail
    refine HA.out.mono ?_
    rintro e _ ⟨rfl, p, rfl, b2⟩
    have HO := Lib.hid ((OwnP.made (l := []) HL0.out).below b2 (Nat.le_refl _))
    have hzp := b2.size
    have hbb := p.h
    clear b2
    go_wp2_with fail
    go_ret2
    exact ⟨_, rfl, by rw [HX.out]; exact HO.out.mono (Nat.le_refl _) hzp, hbb⟩
  | true =>
    have hnn := areR_nn ha
    obtain ⟨m, rfl⟩ := Int.eq_ofNat_of_zero_le hnn.1
    have hm6 : m ≤ 6 := by omega
    have HX : Hid (shortRules (m : Int) l = shortOf m l) := Lib.hid (by rw [shortRules, if_pos ha, Int.toNat_natCast])
    have h8 := allIn_to8 (areR_all ha)
    have hp8 := pow_le8 (n := m) (by omega)
    have HC := Lib.hid fun (q : Past w) (x : Nat) (hx : x < 2 ^ m) => (by have := Rule.l9Closed v l x B q.w (hr.below q.h hB) (Nat.le_trans hB q.size) h8 (by omega); rw [← clN_eq hx] at this; exact this : Calls Try.prog 96 #[v, .int .i64 (x : Int)] q.w fun e w' => e = .returned (.int .i64 ((clN m l x : Nat) : Int)) ∧ Below q.w.heap.size q.w w')
    have HCLT : Hid (∀ x, clN m l x < 256) := Lib.hid fun x => Nat.lt_of_lt_of_le ((clN_ok ha).lt x) hp8
    have hN1 : 1 ≤ 2 ^ m := Nat.pow_pos (by omega)
    have HF := Lib.hid fun w => spec_full (m : Int) w
    rw [full_nat (by omega) (by omega), Int.toNat_natCast] at HF
    have HPS : Hid (shortP m l = sortLectic (asInts (psTo (clN m l) (2 ^ m)))) := Lib.hid rfl
    have HG := Lib.hid fun (k : Nat) (hk : k < (shortP m l).length) => short_get (l := l) (n := m) (by omega) hk
    have hL32 := shortP_len ha
    have HTL := Lib.hid (shortOf_plen m l)
    rw [ha] at HA
    clear ha hr h8
    generalize 2 ^ m = N at hp8 HC hN1 HF HPS HG
    go_enter Try.func44, Try.ntmps44
    go_wp2_with fail
    refine HA.out.mono ?_
    rintro e _ ⟨rfl, p0, rfl, b2⟩
    have HO0 := Lib.hid (rowP_same HL0.out fun g hg => b2.block g (HL0.out.lt g hg).2)
    have hzV := b2.size
    have HVW := Lib.hid p0.h
    clear b2 HL0 HA
    obtain ⟨V, hV⟩ : ∃ V, p0.w = V := ⟨_, rfl⟩
    rw [hV] at HO0 hzV HVW ⊢
    clear hV
    have hVz : w.heap.size < V.heap.size := by omega
    have HCV := Lib.hid fun (q : Past V) (x : Nat) (hx : x < N) => q.ofB (HC.out ⟨q.w, HVW.out.trans (q.h.mono (by omega))⟩ x hx)
    have HQV := Lib.hid fun (p : Past V) (q : Past p.w) (x : Nat) (hx : x < N) => q.of (HC.out ⟨q.w, HVW.out.trans ((up p q).h.mono (by omega))⟩ x hx)
    have O0 : Hid ((V.alloc (.cells #[] 3 (0, 0))).ownsRow V.heap.size 3 1 (.slice (some ⟨V.heap.size, 0, none⟩) 0 0) 0 (ints (asInts (psTo (clN m l) 0)))) := Lib.hid (World.ownsRow_lit V #[] 0 (Nat.le_refl _) (Nat.zero_le _) rfl)
    go_wp2_with fail
    go_loopw [7, 8] (fun ov i wr => ∃ (k : Nat) (v0 : Value) (p : Past V), k ≤ N ∧ i = .int .i64 k ∧ ov = v0 ∧ Hid (p.w.ownsRow V.heap.size 3 1 v0 (psTo (clN m l) k).length (ints (asInts (psTo (clN m l) k)))) ∧ wr = p.w) (fun _ i _ => N - (intOf i).toNat)
    case atStart => exact ⟨0, _, (Past.start V).alloc _, Nat.zero_le _, rfl, rfl, O0, rfl⟩
    case round =>
      obtain ⟨k, v0, p, hk, rfl, rfl, hown, rfl⟩ := hrel
      by_cases hlt : k < N
      · have dk : decide ((k : Int) ≤ ((N - 1 : Nat) : Int)) = true := by simp; omega
        have hk256 : k < 256 := by omega
        go_wp2_with fail
        refine (HF.out _).mono ?_
        rintro e w' ⟨rfl, hw⟩
        subst w'
        go_wp2_with fail
        refine (HCV.out p k hlt).mono ?_
        rintro e _ ⟨rfl, p2, rfl, b2⟩
        have HO2 := Lib.hid (rowP_same hown.out fun g hg => b2.block g (hown.out.lt g hg).2)
        clear b2 hown
        have HPT := Lib.hid (psTo_succ (clN m l) k)
        have hl := psTo_len (clN m l) k
        have HLT : Hid (∀ x ∈ psTo (clN m l) k, x < N) := Lib.hid fun x hx => by have := ps_lt hx; omega
        generalize psTo (clN m l) k = ls at HO2 HPT hl HLT
        by_cases he : clN m l k = k
        · have hd : (((clN m l k : Nat) : Int) == ((k : Nat) : Int)) = true := by rw [he]; simp
          have HP : Hid (psTo (clN m l) (k + 1) = ls) := Lib.hid (by rw [HPT.out, if_neg (fun h => h.1 he)])
          clear he
          go_wp2_with fail
          go_roundw
          case rel => exact ⟨k + 1, _, p2, by omega, by simp, rfl, by rw [HP.out]; exact HO2, rfl⟩
          case measure => simp [intOf]; omega
        · have hd : (((clN m l k : Nat) : Int) == ((k : Nat) : Int)) = false := by simp; omega
          have HNE := Lib.hid he
          have HFB := Lib.hid fun (x : Nat) (hx : x < 256) => fits_bits (cl := clN m l) hk256 hx (HCLT.out x)
          clear he
          obtain ⟨L, hL⟩ : ∃ L, ls.length = L := ⟨_, rfl⟩
          have HL := Lib.hid hL
          rw [hL] at HO2 hl
          obtain ⟨av, cv, hov⟩ := rowP_form HO2.out
          subst hov
          have HRD := Lib.hid ((Own.made HO2.out).reads)
          clear hL
          go_wp2_with fail
          go_loopw [9, 10] (fun f j wr => ∃ (i : Nat) (b : Bool), i ≤ L ∧ j = .int .i64 i ∧ f = .bool b ∧ Hid (b = (ls.take i).all (fits (clN m l) k)) ∧ ∃ q : Past p2.w, wr = q.w) (fun _ j _ => L - (intOf j).toNat)
          case atStart => exact ⟨0, true, Nat.zero_le _, rfl, rfl, Lib.hid rfl, Past.start p2.w, rfl⟩
          case round =>
            obtain ⟨i, b, hm, rfl, rfl, hb, q, rfl⟩ := hrel
            by_cases hmL : i < L
            · have hml : i < ls.length := by rw [HL.out]; exact hmL
              obtain ⟨bq, oq, rfl, hbq, hcell⟩ : ∃ bq oq, av = some ⟨bq, oq, none⟩ ∧ bq < p2.w.heap.size ∧ p2.w.cell? ⟨bq, oq + i, none⟩ = some (.int .i64 ((ls.getD i 0 : Nat) : Int)) := by
                obtain ⟨_, a', c', hv, hcells⟩ := HRD.out
                have hle : (ints (asInts ls)).length = ls.length := by simp [ints, asInts]
                obtain ⟨bq, oq, h1, h2, h3⟩ := hcells (by intro h0; rw [← List.length_eq_zero_iff, hle] at h0; omega)
                injection hv with e1 e2 e3
                exact ⟨bq, oq, e1.trans h1, h2, (h3 i (by omega)).trans (asInts_get ls i hml)⟩
              have kk := fun z : Past p2.w => Past.cell hcell (by show bq < _; omega) z
              have hx : ls.getD i 0 < N := HLT.out _ (by rw [List.getD_eq_getElem?_getD, List.getElem?_eq_getElem hml]; exact List.getElem_mem hml)
              have HT := Lib.hid (all_take (f := fits (clN m l) k) hml)
              have HF1 := Lib.hid (HFB.out _ (show ls.getD i 0 < 256 by omega))
              have H2 := Lib.hid fun z : Past p2.w => HQV.out p2 z _ hx
              have kq := kk q
              clear hcell
              generalize ls.getD i 0 = x at kk kq hx HT HF1 H2
              obtain ⟨d1, hd1⟩ : ∃ d, (bits .and .i64 (x : Int) (k : Int) != (x : Int)) = d := ⟨_, rfl⟩
              generalize clN m l x = y at HF1 H2
              obtain ⟨d2, hd2⟩ : ∃ d, (bits .and .i64 ((y : Nat) : Int) (k : Int) == ((y : Nat) : Int)) = d := ⟨_, rfl⟩
              rw [hd1, hd2] at HF1
              cases b with
              | false =>
                have HB : Hid (false = (ls.take (i + 1)).all (fits (clN m l) k)) := Lib.hid (by rw [HT.out, ← hb.out]; rfl)
                go_wp2_with fail
                refine (H2.out q).mono ?_
                rintro e _ ⟨rfl, q2, rfl⟩
                go_wp2_with fail
                refine wp_region_pastIn q2 (by kernel_rfl) (by kernel_rfl) ?_
                repeat (go_big_quiet_step (fail))
                refine wpQuiet_nil ?_
                rintro _ ⟨q3, rfl⟩
                go_wp2_with fail
                go_roundw
                case rel => exact ⟨i + 1, false, by omega, by simp, rfl, HB, q3, rfl⟩
                case measure => simp [intOf]; omega
              | true =>
                have HB : Hid ((d1 || d2) = (ls.take (i + 1)).all (fits (clN m l) k)) := Lib.hid (by rw [HT.out, ← hb.out, HF1.out]; rfl)
                cases d1 with
                | true =>
                  go_wp2_with fail
                  refine (H2.out q).mono ?_
                  rintro e _ ⟨rfl, q2, rfl⟩
                  go_wp2_with fail
                  refine wp_region_pastIn q2 (by kernel_rfl) (by kernel_rfl) ?_
                  repeat (go_big_quiet_step (fail))
                  refine wpQuiet_nil ?_
                  rintro _ ⟨q3, rfl⟩
                  go_wp2_with fail
                  go_roundw
                  case rel => exact ⟨i + 1, true, by omega, by simp, rfl, HB, q3, rfl⟩
                  case measure => simp [intOf]; omega
                | false =>
                  go_wp2_with fail
                  refine (H2.out q).mono ?_
                  rintro e _ ⟨rfl, q2, rfl⟩
                  go_wp2_with fail
                  refine wp_region_pastIn q2 (by kernel_rfl) (by kernel_rfl) ?_
                  repeat (go_big_quiet_step (fail))
                  refine wpQuiet_nil ?_
                  rintro _ ⟨q3, rfl⟩
                  go_wp2_with fail
                  go_roundw
                  case rel => exact ⟨i + 1, d2, by omega, by simp, rfl, HB, q3, rfl⟩
                  case measure => simp [intOf]; omega
            · have hba : b = ls.all (fits (clN m l) k) := by
                have := hb.out
                rwa [List.take_of_length_le (by have := HL.out; omega)] at this
              have HO3 := Lib.hid (rowP_same HO2.out fun g hg => q.h.block g (HO2.out.lt g hg).2)
              cases b with
              | false =>
                have HP : Hid (psTo (clN m l) (k + 1) = ls) := Lib.hid (by rw [HPT.out, if_neg (fun h => by rw [← hba] at h; exact Bool.false_ne_true h.2)])
                clear hba
                go_wp2_with fail
                go_roundw
                case rel => exact ⟨k + 1, _, up p2 q, by omega, by simp, rfl, by rw [HP.out, HL.out]; exact HO3, rfl⟩
                case measure => simp [intOf]; omega
              | true =>
                have HP : Hid (psTo (clN m l) (k + 1) = ls ++ [k]) := Lib.hid (by rw [HPT.out, if_pos ⟨HNE.out, hba.symm⟩])
                have hz3 := q.size
                have hz2' := p2.size
                clear hba
                go_wp2_with (at_builtin; refine wpList_append_own _ rfl _ _ 24 rfl V.heap.size 3 i0 (.int .i64 0) 1 8 Try.underlying24 hi hz0 hz1 hz2 rfl (by decide) _ _ _ rfl (HO3.out.alloc _) ⟨q.w.heap.size, 0, none⟩ 1 1 [.int .i64 (k : Int)] rfl rfl ?c1 ?c2 ?c3 ?c4 ?c5 ?_)
                case c1 =>
                  intro j u hj
                  match j, hj with
                  | 0, hj => simp at hj; subst hj; simp [Addr.add]
                case c2 => intro u hu; simp at hu; subst hu; rfl
                case c3 => unfold maxLen; omega
                case c4 => omega
                case c5 => simp; omega
                intro v2 w2 hown' hgrow _
                have hown2 := Lib.hid hown'
                have hgrow2 := Lib.hid hgrow
                clear hown' hgrow
                go_wp2_with fail
                go_roundw
                case rel =>
                  refine ⟨k + 1, _, ⟨w2, ((up p2 q).h.alloc (up p2 q).size _).grown hgrow2.out (by simp; omega) (fun j hj => (HO3.out.lt j hj).1)⟩, by omega, by simp, rfl, ?_, rfl⟩
                  rw [HP.out, asInts_snoc, List.length_append, HL.out]
                  exact Lib.hid (by have := hown2.out; simpa [ints, asInts] using this)
                case measure => simp [intOf]; omega
      · have dk : decide ((k : Int) ≤ ((N - 1 : Nat) : Int)) = false := by simp; omega
        have HKN : Hid (psTo (clN m l) k = psTo (clN m l) N) := Lib.hid (by rw [show k = N by omega])
        have hrow := hown.out
        rw [HKN.out] at hrow
        have ho := Own.made hrow
        have hlen : (psTo (clN m l) N).length ≤ 256 := by have := psTo_len (clN m l) N; omega
        have HJ := Lib.hid (SortL.spec_sort _ (asInts (psTo (clN m l) N)) p.w.heap.size p.w ho.reads (Nat.le_refl _) (by simp; omega))
        rw [← HPS.out] at HJ
        rw [show (psTo (clN m l) N).length = (asInts (psTo (clN m l) N)).length by simp] at hrow
        have hpz := p.size
        have hbp := HVW.out.trans (p.h.mono (by omega))
        have HOp := Lib.hid (rowP_same HO0.out fun g hg => p.h.block g (HO0.out.lt g hg).2)
        clear hrow ho hlen hown
        go_wp2_with fail
        refine (HF.out _).mono ?_
        rintro e w' ⟨rfl, hw⟩
        subst w'
        go_wp2_with fail
        refine HJ.out.mono ?_
        rintro e w1 ⟨u, rfl, o1, b1⟩
        have hb1z := b1.size
        have HP1 : Hid (∃ p1 : Past w, p1.w = w1) := Lib.hid ⟨⟨w1, hbp.trans (b1.mono (by omega))⟩, rfl⟩
        have HO1 := Lib.hid (rowP_same HOp.out fun g hg => b1.block g (HOp.out.lt g hg).2)
        obtain ⟨n, hn⟩ : ∃ n, (shortP m l).length = n := ⟨_, rfl⟩
        obtain ⟨al, cl, rfl, bl, ol, hal, hbl, hbl2, hcl⟩ : ∃ al cl, u = .slice al n cl ∧ ∃ bl ol, (0 < n → al = some ⟨bl, ol, none⟩) ∧ w.heap.size < bl ∧ (0 < n → bl < w1.heap.size) ∧ ∀ j, j < n → w1.cell? ⟨bl, ol + j, none⟩ = some (.int .i64 ((shortP m l).getD j 0)) := by
          obtain ⟨al, cl, rfl⟩ := own_form o1
          have hrd := o1.reads
          refine ⟨al, cl, by rw [hn], ?_⟩
          by_cases h0 : 0 < n
          · obtain ⟨_, a', c', hv, hcells⟩ := hrd
            injection hv with e1 e2 e3
            subst e1
            obtain ⟨b, o, rfl, h2, h3⟩ := hcells (by intro h; rw [List.map_eq_nil_iff] at h; rw [h] at hn; simp at hn; omega)
            have hob := (o1.1.lt b rfl).1
            refine ⟨b, o, fun _ => rfl, by omega, fun _ => h2, fun j hj => ?_⟩
            rw [h3 j (by simp [ints]; omega)]
            exact ints_get _ j (by omega)
          · exact ⟨w.heap.size + 1, 0, fun h => absurd h h0, by omega, fun h => absurd h h0, fun j hj => by omega⟩
        rw [hn] at HG hL32 HTL
        have HCL := Lib.hid hcl
        obtain ⟨p1, rfl⟩ := HP1.out
        clear HJ o1 b1 hcl HP1 hn HOp hbp HO0
        go_wp2_with fail
        go_loopw [6, 12] (fun ov i wr => ∃ (k : Nat) (v0 : Value) (p : Past w), k ≤ n ∧ i = .int .i64 k ∧ ov = v0 ∧ Hid (p.w.ownsRow w.heap.size 43 2 v0 k (prs ((shortOf m l).take k))) ∧ Hid (∀ g, v0.ownBlock = some g → g ≠ bl) ∧ (0 < n → bl < p.w.heap.size) ∧ Hid (∀ j, j < n → p.w.cell? ⟨bl, ol + j, none⟩ = some (.int .i64 ((shortP m l).getD j 0))) ∧ wr = p.w) (fun _ i _ => n - (intOf i).toNat)
        case atStart => exact ⟨0, _, p1, Nat.zero_le _, rfl, rfl, HO1, Lib.hid (fun g hg => by cases hg; show w.heap.size ≠ bl; omega), hbl2, HCL, rfl⟩
        case round =>
          obtain ⟨k, v0, p, hk, rfl, rfl, hown, hne, hblp, hcel, rfl⟩ := hrel
          by_cases hlt : k < n
          · obtain ⟨x, hx, hgx, htk⟩ := HG.out k hlt
            obtain rfl := hal (by omega)
            have hblz := hblp (by omega)
            have cx := hcel.out k hlt
            rw [hgx] at cx
            have HTK := Lib.hid htk
            have HCX := Lib.hid (p.drew.ofB (HC.out p.drew x hx))
            clear htk hgx
            generalize clN m l x = y at HTK HCX
            have HK1 : Hid (k + 1 ≤ maxLen) := Lib.hid (by unfold maxLen; omega)
            have HK2 : Hid ((k + 1) * 16 ≤ 140737488355328) := Lib.hid (by omega)
            have hpz := p.size
            obtain ⟨av, cv, hov⟩ := rowP_form hown.out
            subst hov
            have cxd : p.w.drew.cell? ⟨bl, ol + k, none⟩ = some (.int .i64 (x : Int)) := cx
            go_wp2_with fail
            go_region_held3 (fun wx => wx.cell? ⟨bl, ol + k, none⟩ = some (.int .i64 (x : Int)))
              (first | with_reducible exact cxd | with_reducible exact F.2.1 | with_reducible exact F.2.2.1 | with_reducible exact F3 | fail)
              (first
                | (go_at_call 96; (with_reducible refine HCX.out.mono ?_); rintro e _ ⟨rfl, p2, rfl, b2⟩; have F := stem_step hown.out b2 cx hblz (.cells #[.int .i64 (x : Int), .int .i64 ((y : Nat) : Int)] 43))
                | (refine step_append_lies _ (by rfl) _ _ _ (by rfl) w.heap.size 43 j0 (.agg #[.int .i64 0, .int .i64 0]) 2 16 Try.underlying28 jnf jz0 jz1 jz2 rfl (by decide) _ k _ (by rfl) (F.1.alloc _) ⟨p2.w.heap.size, 0, none⟩ 1 1 (prs [((x : Int), ((y : Nat) : Int))]) (by rfl) (by rfl) (newsQ _ _ _ _) (oneQ _) Nat.one_pos HK1.out HK2.out (p2.alloc _).size _ rfl ?_; intro g cap w3 hown3 hgrow hat hlt3; obtain ⟨p3, rfl, F3⟩ := stem_grow p2 hgrow F hne.out (Nat.le_refl _)))
            have hsz3 : (p2.w.alloc (.cells #[.int .i64 (x : Int), .int .i64 ((y : Nat) : Int)] 43)).heap.size ≤ p3.w.heap.size := hgrow.size
            have hbl3 := F.2.2.2.1
            have HO4 := Lib.hid hown3
            have HN4 : Hid (∀ g', Value.ownBlock (.slice (some ⟨g, 0, none⟩) (k + 1) cap) = some g' → g' ≠ bl) := Lib.hid fun g' hg' => by
              cases hg'
              rcases hat with h | h
              · exact hne.out _ h
              · show g ≠ bl; omega
            have HC4 : Hid (∀ j, j < n → p3.w.cell? ⟨bl, ol + j, none⟩ = some (.int .i64 ((shortP m l).getD j 0))) := Lib.hid fun j hj => by
              obtain ⟨_, h1, h2⟩ := stem_grow p2 hgrow (stem_step hown.out b2 (hcel.out j hj) hblz _) hne.out (Nat.le_refl _)
              rw [h1] at h2; exact h2
            clear hown3 hgrow hat F F3 b2 cxd cx
            go_wp2_with fail
            go_roundw
            case rel => exact ⟨k + 1, _, p3, by omega, by simp, rfl, Lib.hid (by rw [HTK.out, prs_app]; exact HO4.out), HN4, fun _ => by omega, HC4, rfl⟩
            case measure => simp [intOf]; omega
          · have hrow := hown.out
            rw [show k = (shortOf m l).length by have := HTL.out; omega, List.take_length] at hrow
            have HO := Lib.hid (OwnP.made hrow)
            have hkl := HTL.out
            have hbb := p.h
            clear hrow hkl
            go_wp2_with fail
            go_ret2
            exact ⟨_, rfl, by rw [HX.out]; have h := HO.out.mono (lo' := w.heap.size) (by omega) (Nat.le_refl _); exact h, hbb⟩
end Go.Proofs.Ytgkoggajdhibdaa.Infer
