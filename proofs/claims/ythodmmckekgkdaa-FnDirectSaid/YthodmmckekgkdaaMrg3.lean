/-
  Chapter 10 of the model: the pseudo-closed sets of a context.
-/
import Derived.Test.YthodmmckekgkdaaMrg1
import Derived.Test.YthodmmckekgkdaaRuleS
import Derived.Test.YthodmmckekgkdaaSortSpec
import Derived.BigQuiet
import Derived.Test.YthodmmckekgkdaaPRule
import Derived.Deep.RegionHeld3
import Derived.Deep.AppendLies
namespace Go.Proofs.Ythodmmckekgkdaa.Stem
open Go Go.RowKit Mem Sets Ctx Tab Rule Lectic
set_option maxRecDepth 100000

/-- A world behind a world of the class. -/
abbrev up {W : World} (p : Past W) (q : Past p.w) : Past W := ⟨q.w, p.h.trans (q.h.mono p.size)⟩
theorem asInts_get (l : List Nat) (m : Nat) (hm : m < l.length) : (ints (asInts l))[m]? = some (.int .i64 ((l.getD m 0 : Nat) : Int)) := by
  rw [ints_get _ _ (by simpa using hm)]
  simp [List.getD, hm]
theorem asInts_snoc (l : List Nat) (k : Nat) : ints (asInts (l ++ [k])) = ints (asInts l) ++ [.int .i64 (k : Int)] := by simp [ints, asInts]
theorem all_take {l : List Nat} {f : Nat → Bool} {m : Nat} (hm : m < l.length) : (l.take (m + 1)).all f = ((l.take m).all f && f (l.getD m 0)) := by
  rw [List.take_add_one, List.getElem?_eq_getElem hm, List.all_append, List.getD_eq_getElem?_getD, List.getElem?_eq_getElem hm]
  simp
theorem fits_bits {cl : Nat → Nat} {k x : Nat} (hk : k < 256) (hx : x < 256) (hc : cl x < 256) : fits cl k x = ((bits .and .i64 (x : Int) (k : Int) != (x : Int)) || (bits .and .i64 ((cl x : Nat) : Int) (k : Int) == ((cl x : Nat) : Int))) := by
  rw [andN x k (by omega) (by omega), andL ((cl x : Nat) : Int) k (by omega) (by omega), fits]
  simp only [Int.toNat_natCast]
set_option maxHeartbeats 6400000 in
theorem l10Pseudo (a : Int) (v : Value) (rs : List Int) (B : Nat) (w : World) (hr : Reads w B v (ints rs)) (hB : B ≤ w.heap.size) (hc : isCtx a rs = true) :
    Calls Try.prog 65 #[ctx a v] w fun e w' => ∃ u, e = .returned u ∧ Own 3 w' w.heap.size w'.heap.size u (ints (pseudo a rs)) ∧ Below w.heap.size w w' := by
  obtain ⟨i0, hi, hz0, hz1, hz2⟩ := info_parts Ints.info
  obtain ⟨aa, ca, rfl⟩ := reads_form hr
  have hW := (Below.refl w.heap.size w).alloc (Nat.le_refl _) (.cells #[.int .i64 a, .slice aa rs.length ca] 26)
  have HR1 := Lib.hid (hr.below hW hB)
  have q0 : (w.alloc (.cells #[.int .i64 a, .slice aa rs.length ca] 26)).cell? ⟨w.heap.size, 0, none⟩ = some (.int .i64 a) := by simp
  have q1 : (w.alloc (.cells #[.int .i64 a, .slice aa rs.length ca] 26)).cell? ⟨w.heap.size, 1, none⟩ = some (.slice aa rs.length ca) := by simp
  have hz : w.heap.size < (w.alloc (.cells #[.int .i64 a, .slice aa rs.length ca] 26)).heap.size := by simp
  have hp := isCtx_parts hc
  have hN8 : 2 ^ a.toNat ≤ 256 := pow_le8 (by omega)
  have hN1 : 1 ≤ 2 ^ a.toNat := Nat.pow_pos (by omega)
  have HF := Lib.hid fun w => spec_full a w
  rw [full_nat hp.1 (by omega)] at HF
  have HCLT : Hid (∀ x, clo a rs x < 256) := Lib.hid fun x => Nat.lt_of_lt_of_le ((clo_ok hc).lt x) hN8
  have HPS : Hid (psN a rs = psTo (clo a rs) (2 ^ a.toNat)) := Lib.hid rfl
  have HCT := Lib.hid hc
  generalize 2 ^ a.toNat = N at hN8 hN1 HF HPS
  clear hr hp hc
  go_enter Try.func65, Try.ntmps65
  go_upto_region 1 with fail
  generalize w.alloc (.cells #[.int .i64 a, .slice aa rs.length ca] 26) = W at HR1 hW q0 q1 hz ⊢
  have hBW : B ≤ W.heap.size := by omega
  have k0 := fun p : Past W => Past.cell q0 (by show w.heap.size < _; omega) p
  have k1 := fun p : Past W => Past.cell q1 (by show w.heap.size < _; omega) p
  have HBW := Lib.hid hW
  have HC := Lib.hid fun (p : Past W) (x : Nat) (hx : x < 256) => p.ofB (l4Closure a (.slice aa rs.length ca) rs (x : Int) B p.w (Past.reads HR1.out hBW p) (Nat.le_trans hBW p.size) HCT.out (by omega))
  change Hid (∀ (p : Past W) (x : Nat) (hx : x < 256), Calls _ _ _ _ fun e w' => e = .returned (.int .i64 ((clo a rs x : Nat) : Int)) ∧ ∃ q : Past W, w' = q.w ∧ Below p.w.heap.size p.w q.w) at HC
  have HQ := Lib.hid fun (p : Past W) (q : Past p.w) (x : Nat) (hx : x < 256) => q.of (l4Closure a (.slice aa rs.length ca) rs (x : Int) B q.w (Past.reads HR1.out hBW (up p q)) (Nat.le_trans hBW (up p q).size) HCT.out (by omega))
  change Hid (∀ (p : Past W) (q : Past p.w) (x : Nat) (hx : x < 256), Calls _ _ _ _ fun e w' => e = .returned (.int .i64 ((clo a rs x : Nat) : Int)) ∧ ∃ z : Past p.w, w' = z.w) at HQ
  clear hW q0 q1
  have O0 : Hid ((W.alloc (.cells #[] 3 (0, 0))).ownsRow W.heap.size 3 1 (.slice (some ⟨W.heap.size, 0, none⟩) 0 0) 0 (ints (asInts (psTo (clo a rs) 0)))) := Lib.hid (World.ownsRow_lit W #[] 0 (Nat.le_refl _) (Nat.zero_le _) rfl)
  go_wp2_with fail
  go_loopw [3, 4] (fun ov i wr => ∃ (k : Nat) (v0 : Value) (p : Past W), k ≤ N ∧ i = .int .i64 k ∧ ov = v0 ∧ Hid (p.w.ownsRow W.heap.size 3 1 v0 (psTo (clo a rs) k).length (ints (asInts (psTo (clo a rs) k)))) ∧ wr = p.w) (fun _ i _ => N - (intOf i).toNat)
  case atStart => exact ⟨0, _, (Past.start W).alloc _, Nat.zero_le _, rfl, rfl, O0, rfl⟩
  case round =>
    obtain ⟨k, v0, p, hk, rfl, rfl, hown, rfl⟩ := hrel
    have kp0 := k0 p
    have kp1 := k1 p
    by_cases hlt : k < N
    · have dk : decide ((k : Int) ≤ ((N - 1 : Nat) : Int)) = true := by simp; omega
      have hk256 : k < 256 := by omega
      go_wp2_with fail
      refine (HF.out _).mono ?_
      rintro e w' ⟨rfl, hw⟩
      subst w'
      go_wp2_with fail
      refine (HC.out p k hk256).mono ?_
      rintro e _ ⟨rfl, p2, rfl, b2⟩
      have HO2 := Lib.hid (rowP_same hown.out fun g hg => b2.block g (hown.out.lt g hg).2)
      clear b2 hown
      have HPT := Lib.hid (psTo_succ (clo a rs) k)
      have hl := psTo_len (clo a rs) k
      have HLT : Hid (∀ x ∈ psTo (clo a rs) k, x < 256) := Lib.hid fun x hx => by have := ps_lt hx; omega
      generalize psTo (clo a rs) k = l at HO2 HPT hl HLT
      by_cases he : clo a rs k = k
      · have hd : (((clo a rs k : Nat) : Int) == ((k : Nat) : Int)) = true := by rw [he]; simp
        have HP : Hid (psTo (clo a rs) (k + 1) = l) := Lib.hid (by rw [HPT.out, if_neg (fun h => h.1 he)])
        clear he
        go_wp2_with fail
        go_roundw
        case rel => exact ⟨k + 1, _, p2, by omega, by simp, rfl, by rw [HP.out]; exact HO2, rfl⟩
        case measure => simp [intOf]; omega
      · have hd : (((clo a rs k : Nat) : Int) == ((k : Nat) : Int)) = false := by simp; omega
        have HNE := Lib.hid he
        have HFB := Lib.hid fun (x : Nat) (hx : x < 256) => fits_bits (cl := clo a rs) hk256 hx (HCLT.out x)
        clear he
        obtain ⟨L, hL⟩ : ∃ L, l.length = L := ⟨_, rfl⟩
        have HL := Lib.hid hL
        rw [hL] at HO2 hl
        obtain ⟨av, cv, hov⟩ := rowP_form HO2.out
        subst hov
        have HRD := Lib.hid ((Own.made HO2.out).reads)
        clear hL
        go_wp2_with fail
        go_loopw [5, 6] (fun f j wr => ∃ (m : Nat) (b : Bool), m ≤ L ∧ j = .int .i64 m ∧ f = .bool b ∧ Hid (b = (l.take m).all (fits (clo a rs) k)) ∧ ∃ q : Past p2.w, wr = q.w) (fun _ j _ => L - (intOf j).toNat)
        case atStart => exact ⟨0, true, Nat.zero_le _, rfl, rfl, Lib.hid rfl, Past.start p2.w, rfl⟩
        case round =>
          obtain ⟨m, b, hm, rfl, rfl, hb, q, rfl⟩ := hrel
          by_cases hmL : m < L
          · have hml : m < l.length := by rw [HL.out]; exact hmL
            obtain ⟨bq, oq, rfl, hbq, hcell⟩ : ∃ bq oq, av = some ⟨bq, oq, none⟩ ∧ bq < p2.w.heap.size ∧ p2.w.cell? ⟨bq, oq + m, none⟩ = some (.int .i64 ((l.getD m 0 : Nat) : Int)) := by
              obtain ⟨_, a', c', hv, hcells⟩ := HRD.out
              have hle : (ints (asInts l)).length = l.length := by simp [ints, asInts]
              obtain ⟨bq, oq, h1, h2, h3⟩ := hcells (by intro h0; rw [← List.length_eq_zero_iff, hle] at h0; omega)
              injection hv with e1 e2 e3
              exact ⟨bq, oq, e1.trans h1, h2, (h3 m (by omega)).trans (asInts_get l m hml)⟩
            have kk := fun z : Past p2.w => Past.cell hcell (by show bq < _; omega) z
            have e0 := fun z : Past p2.w => k0 (up p2 z)
            have e1 := fun z : Past p2.w => k1 (up p2 z)
            have hx : l.getD m 0 < 256 := HLT.out _ (by rw [List.getD_eq_getElem?_getD, List.getElem?_eq_getElem hml]; exact List.getElem_mem hml)
            have HT := Lib.hid (all_take (f := fits (clo a rs) k) hml)
            have HF1 := Lib.hid (HFB.out _ hx)
            have H2 := Lib.hid fun z : Past p2.w => HQ.out p2 z _ hx
            clear hcell
            generalize l.getD m 0 = x at kk hx HT HF1 H2
            cases b with
            | false =>
              have HB : Hid (false = (l.take (m + 1)).all (fits (clo a rs) k)) := Lib.hid (by rw [HT.out, ← hb.out]; rfl)
              clear H2 HF1
              go_wp2_with fail
              refine wp_region_pastIn q (by kernel_rfl) (by kernel_rfl) ?_
              repeat (go_big_quiet_step (fail))
              refine wpQuiet_nil ?_
              rintro _ ⟨q2, rfl⟩
              go_wp2_with fail
              go_roundw
              case rel => exact ⟨m + 1, false, by omega, by simp, rfl, HB, q2, rfl⟩
              case measure => simp [intOf]; omega
            | true =>
              obtain ⟨d1, hd1⟩ : ∃ d, (bits .and .i64 (x : Int) (k : Int) != (x : Int)) = d := ⟨_, rfl⟩
              generalize clo a rs x = y at HF1 H2
              obtain ⟨d2, hd2⟩ : ∃ d, (bits .and .i64 ((y : Nat) : Int) (k : Int) == ((y : Nat) : Int)) = d := ⟨_, rfl⟩
              rw [hd1, hd2] at HF1
              have HB : Hid ((d1 || d2) = (l.take (m + 1)).all (fits (clo a rs) k)) := Lib.hid (by rw [HT.out, ← hb.out, HF1.out]; rfl)
              cases d1 with
              | true =>
                clear H2 HF1
                go_wp2_with fail
                refine wp_region_pastIn q (by kernel_rfl) (by kernel_rfl) ?_
                repeat (go_big_quiet_step (fail))
                refine wpQuiet_nil ?_
                rintro _ ⟨q2, rfl⟩
                go_wp2_with fail
                go_roundw
                case rel => exact ⟨m + 1, true, by omega, by simp, rfl, HB, q2, rfl⟩
                case measure => simp [intOf]; omega
              | false =>
                clear HF1
                go_wp2_with fail
                refine wp_region_pastIn q (by kernel_rfl) (by kernel_rfl) ?_
                repeat (go_big_quiet_step (first | with_reducible exact H2.out _))
                refine wpQuiet_nil ?_
                rintro _ ⟨q2, rfl⟩
                go_wp2_with fail
                go_roundw
                case rel => exact ⟨m + 1, d2, by omega, by simp, rfl, HB, q2, rfl⟩
                case measure => simp [intOf]; omega
          · have hba : b = l.all (fits (clo a rs) k) := by
              have := hb.out
              rwa [List.take_of_length_le (by have := HL.out; omega)] at this
            have HO3 := Lib.hid (rowP_same HO2.out fun g hg => q.h.block g (HO2.out.lt g hg).2)
            cases b with
            | false =>
              have HP : Hid (psTo (clo a rs) (k + 1) = l) := Lib.hid (by rw [HPT.out, if_neg (fun h => by rw [← hba] at h; exact Bool.false_ne_true h.2)])
              clear hba
              go_wp2_with fail
              go_roundw
              case rel => exact ⟨k + 1, _, up p2 q, by omega, by simp, rfl, by rw [HP.out, HL.out]; exact HO3, rfl⟩
              case measure => simp [intOf]; omega
            | true =>
              have HP : Hid (psTo (clo a rs) (k + 1) = l ++ [k]) := Lib.hid (by rw [HPT.out, if_pos ⟨HNE.out, hba.symm⟩])
              have hz3 := q.size
              have hz2' := p2.size
              clear hba
              go_wp2_with (at_builtin; refine wpList_append_own _ rfl _ _ 24 rfl W.heap.size 3 i0 (.int .i64 0) 1 8 Try.underlying24 hi hz0 hz1 hz2 rfl (by decide) _ _ _ rfl (HO3.out.alloc _) ⟨q.w.heap.size, 0, none⟩ 1 1 [.int .i64 (k : Int)] rfl rfl ?c1 ?c2 ?c3 ?c4 ?c5 ?_)
              case c1 =>
                intro j u hj
                match j, hj with
                | 0, hj => simp at hj; subst hj; simp [Addr.add]
              case c2 => intro u hu; simp at hu; subst hu; rfl
              case c3 => unfold maxLen; omega
              case c4 => omega
              case c5 => simp; omega
              intro v2 w2 hown' hgrow _
              have hown2 := Lib.hid hown'
              have hgrow2 := Lib.hid hgrow
              clear hown' hgrow
              go_wp2_with fail
              go_roundw
              case rel =>
                refine ⟨k + 1, _, ⟨w2, ((up p2 q).h.alloc (up p2 q).size _).grown hgrow2.out (by simp; omega) (fun j hj => (HO3.out.lt j hj).1)⟩, by omega, by simp, rfl, ?_, rfl⟩
                rw [HP.out, asInts_snoc, List.length_append, HL.out]
                exact Lib.hid (by have := hown2.out; simpa [ints, asInts] using this)
              case measure => simp [intOf]; omega
    · have dk : decide ((k : Int) ≤ ((N - 1 : Nat) : Int)) = false := by simp; omega
      have HKN : Hid (psTo (clo a rs) k = psN a rs) := Lib.hid (by rw [HPS.out, show k = N by omega])
      have hrow := hown.out
      rw [HKN.out] at hrow
      have ho := Own.made hrow
      have hlen := psN_len HCT.out
      have HJ := Lib.hid (SortL.spec_sort _ (asInts (psN a rs)) p.w.heap.size p.w ho.reads (Nat.le_refl _) (by simp; omega))
      rw [show (psN a rs).length = (asInts (psN a rs)).length by simp] at hrow
      have hpz := p.size
      have hbp := HBW.out.trans (p.h.mono (by omega))
      clear hrow ho hlen hown
      go_wp2_with fail
      refine (HF.out _).mono ?_
      rintro e w' ⟨rfl, hw⟩
      subst w'
      go_wp2_with fail
      refine HJ.out.mono ?_
      rintro e w2 ⟨u, rfl, o2, b2⟩
      have hbb := hbp.trans (b2.mono (by omega))
      go_wp2_with fail
      go_ret
      exact ⟨_, rfl, o2.mono (by omega) (Nat.le_refl _), hbb⟩
end Go.Proofs.Ythodmmckekgkdaa.Stem

namespace Go.Proofs.Ythodmmckekgkdaa.Stem
open Go Go.RowKit Mem Sets Ctx Tab Rule Lectic
set_option maxRecDepth 100000

set_option maxHeartbeats 1600000 in
theorem spec_pseudo (a : Int) (v : Value) (rs : List Int) (B : Nat) (w : World) (hr : Reads w B v (ints rs)) (hB : B ≤ w.heap.size) :
    Calls Try.prog 19 #[ctx a v] w fun e w' => ∃ u, e = .returned u ∧ Own 3 w' w.heap.size w'.heap.size u (ints (pseudoIntents a rs)) ∧ Below w.heap.size w w' := by
  obtain ⟨aa, ca, rfl⟩ := reads_form hr
  have hW := (Below.refl w.heap.size w).alloc (Nat.le_refl _) (.cells #[.int .i64 a, .slice aa rs.length ca] 26)
  have HR1 := Lib.hid (hr.below hW hB)
  have q0 : (w.alloc (.cells #[.int .i64 a, .slice aa rs.length ca] 26)).cell? ⟨w.heap.size, 0, none⟩ = some (.int .i64 a) := by simp
  have q1 : (w.alloc (.cells #[.int .i64 a, .slice aa rs.length ca] 26)).cell? ⟨w.heap.size, 1, none⟩ = some (.slice aa rs.length ca) := by simp
  have hz : w.heap.size < (w.alloc (.cells #[.int .i64 a, .slice aa rs.length ca] 26)).heap.size := by simp
  clear hr
  go_enter Try.func19, Try.ntmps19
  go_wp2_with fail
  generalize w.alloc (.cells #[.int .i64 a, .slice aa rs.length ca] 26) = W at HR1 hW q0 q1 hz ⊢
  have hBW : B ≤ W.heap.size := by omega
  have k0 := fun p : Past W => Past.cell q0 (by show w.heap.size < _; omega) p
  have k1 := fun p : Past W => Past.cell q1 (by show w.heap.size < _; omega) p
  have HBW := Lib.hid hW
  clear q0 q1 hW
  refine ((Past.start W).of (spec_isCtx a _ rs B W HR1.out hBW)).mono ?_
  rintro e _ ⟨rfl, p, rfl⟩
  have kp0 := k0 p
  have kp1 := k1 p
  have hbb := HBW.out.trans (p.h.mono (by omega))
  have hpz := p.size
  cases hic : isCtx a rs with
  | false =>
    have HX : Hid (pseudoIntents a rs = []) := Lib.hid (by rw [pseudoIntents, if_neg (by rw [hic]; decide)])
    have ho := World.ownsRow_lit (e := 3) (size := 1) p.w #[] 0 (Nat.le_refl _) (Nat.zero_le _) rfl
    have HO := Lib.hid (Own.made (cs := []) ho)
    clear hic ho
    go_wp2_with fail
    go_ret
    exact ⟨_, rfl, by rw [HX.out]; exact HO.out.mono (by omega) (Nat.le_refl _), hbb.alloc hbb.size _⟩
  | true =>
    have HX : Hid (pseudoIntents a rs = pseudo a rs) := Lib.hid (by rw [pseudoIntents, if_pos hic])
    have HP := Lib.hid (l10Pseudo a (.slice aa rs.length ca) rs B p.w (Past.reads HR1.out hBW p) (Nat.le_trans hBW p.size) hic)
    clear hic
    go_wp2_with fail
    refine HP.out.mono ?_
    rintro e w2 ⟨u, rfl, o2, b2⟩
    have hb2 := hbb.trans (b2.mono (by omega))
    go_wp2_with fail
    go_ret
    exact ⟨_, rfl, by rw [HX.out]; exact o2.mono (by omega) (Nat.le_refl _), hb2⟩
theorem newsQ (w : World) (x y : Int) (t : TypeId) : ∀ (j : Nat) (u : Value), (prs [(x, y)])[j]? = some u → (w.alloc (.cells #[.int .i64 x, .int .i64 y] t)).cell? ((⟨w.heap.size, 0, none⟩ : Addr).add j) = some u := by
  intro j u hj
  match j, hj with
  | 0, hj => simp [prs] at hj; subst hj; simp [Addr.add]
  | 1, hj => simp [prs] at hj; subst hj; simp [Addr.add]
theorem oneQ (p : PInt) : ∀ u ∈ prs [p], u.oneCell' = true := by
  intro u hu
  simp [prs] at hu
  rcases hu with rfl | rfl <;> rfl
theorem keepQ {w w' : World} {b : Nat} {o : Nat} {u : Value} {r : Option Nat} (h : w.cell? ⟨b, o, none⟩ = some u) (hg : w.grownBy w' r) (hb : b < w.heap.size) (hne : r ≠ some b) : w'.cell? ⟨b, o, none⟩ = some u := by
  have := hg.block b hb (fun e => hne e.symm)
  simp only [World.cell?] at h ⊢
  rw [this]; exact h
theorem stem_step {w0 w2 : World} {base n bl ol : Nat} {e : TypeId} {v u : Value} {xs : List Value} (hown : w0.ownsRow base e 2 v n xs) (b2 : Below w0.drew.heap.size w0.drew w2) (hc : w0.cell? ⟨bl, ol, none⟩ = some u) (hbl : bl < w0.heap.size) (ob : Obj) :
    w2.ownsRow base e 2 v n xs ∧ w2.cell? ⟨bl, ol, none⟩ = some u ∧ (w2.alloc ob).cell? ⟨bl, ol, none⟩ = some u ∧ bl < (w2.alloc ob).heap.size ∧ (∀ g, v.ownBlock = some g → base ≤ g) := by
  have h2 : w2.cell? ⟨bl, ol, none⟩ = some u := (b2.cell (p := ⟨bl, ol, none⟩) hbl).trans hc
  have hs : w0.heap.size ≤ w2.heap.size := b2.size
  exact ⟨rowP_same hown fun g hg => b2.block g (hown.lt g hg).2, h2, (World.cell?_alloc_lt w2 _ _ (show bl < w2.heap.size by omega)).trans h2, by simp; omega, fun g hg => (hown.lt g hg).1⟩
theorem stem_grow {W w3 : World} (p : Past W) {bl ol base : Nat} {v u : Value} {ob : Obj} {A C : Prop} (hg : (p.w.alloc ob).grownBy w3 v.ownBlock) (F : A ∧ C ∧ (p.w.alloc ob).cell? ⟨bl, ol, none⟩ = some u ∧ bl < (p.w.alloc ob).heap.size ∧ (∀ g, v.ownBlock = some g → base ≤ g)) (hne : ∀ g, v.ownBlock = some g → g ≠ bl) (hb : W.heap.size ≤ base) :
    ∃ p3 : Past W, p3.w = w3 ∧ p3.w.cell? ⟨bl, ol, none⟩ = some u :=
  ⟨⟨w3, (p.h.alloc p.size ob).grown hg (p.alloc ob).size (fun q hq => Nat.le_trans hb (F.2.2.2.2 q hq))⟩, rfl, keepQ F.2.2.1 hg F.2.2.2.1 (fun e => hne _ e rfl)⟩
set_option maxHeartbeats 6400000 in
theorem l10Stem (a : Int) (v : Value) (rs : List Int) (B : Nat) (w : World) (hr : Reads w B v (ints rs)) (hB : B ≤ w.heap.size) (hc : isCtx a rs = true) :
    Calls Try.prog 64 #[ctx a v] w fun e w' => ∃ u, e = .returned u ∧ OwnP 43 w' w.heap.size w'.heap.size u (stemOf a rs) ∧ Below w.heap.size w w' := by
  obtain ⟨i0, hinf, hz0, hz1, hz2⟩ := info_parts PRule.infoT
  obtain ⟨aa, ca, rfl⟩ := reads_form hr
  have hW := (Below.refl w.heap.size w).alloc (Nat.le_refl _) (.cells #[.int .i64 a, .slice aa rs.length ca] 26)
  have HR1 := Lib.hid (hr.below hW hB)
  have q0 : (w.alloc (.cells #[.int .i64 a, .slice aa rs.length ca] 26)).cell? ⟨w.heap.size, 0, none⟩ = some (.int .i64 a) := by simp
  have q1 : (w.alloc (.cells #[.int .i64 a, .slice aa rs.length ca] 26)).cell? ⟨w.heap.size, 1, none⟩ = some (.slice aa rs.length ca) := by simp
  have hz : w.heap.size < (w.alloc (.cells #[.int .i64 a, .slice aa rs.length ca] 26)).heap.size := by simp
  have HCT := Lib.hid hc
  clear hr hc
  go_enter Try.func64, Try.ntmps64
  go_upto_region 1 with fail
  generalize w.alloc (.cells #[.int .i64 a, .slice aa rs.length ca] 26) = W at HR1 hW q0 q1 hz ⊢
  have hBW : B ≤ W.heap.size := by omega
  have k0 := fun p : Past W => Past.cell q0 (by show w.heap.size < _; omega) p
  have k1 := fun p : Past W => Past.cell q1 (by show w.heap.size < _; omega) p
  have HBW := Lib.hid hW
  have HC := Lib.hid fun (p : Past W) (x : Nat) (hx : x < 256) => p.ofB (l4Closure a (.slice aa rs.length ca) rs (x : Int) B p.w (Past.reads HR1.out hBW p) (Nat.le_trans hBW p.size) HCT.out (by omega))
  change Hid (∀ (p : Past W) (x : Nat) (hx : x < 256), Calls _ _ _ _ fun e w' => e = .returned (.int .i64 ((clo a rs x : Nat) : Int)) ∧ ∃ q : Past W, w' = q.w ∧ Below p.w.heap.size p.w q.w) at HC
  have O0 : Hid ((W.alloc (.cells #[] 43 (0, 0))).ownsRow W.heap.size 43 2 (.slice (some ⟨W.heap.size, 0, none⟩) 0 0) 0 (prs [])) := Lib.hid (World.ownsRow_lit W #[] 0 (Nat.le_refl _) (Nat.zero_le _) rfl)
  have HP := Lib.hid (l10Pseudo a (.slice aa rs.length ca) rs B (W.alloc (.cells #[] 43 (0, 0))) (Past.reads HR1.out hBW ((Past.start W).alloc _)) (Nat.le_trans hBW ((Past.start W).alloc (.cells #[] 43 (0, 0))).size) HCT.out)
  have ka0 := k0 ((Past.start W).alloc (.cells #[] 43 (0, 0)))
  have ka1 := k1 ((Past.start W).alloc (.cells #[] 43 (0, 0)))
  clear hW
  go_wp2_with fail
  refine HP.out.mono ?_
  rintro e w1 ⟨u, rfl, o1, b1⟩
  have hz1w : W.heap.size + 1 ≤ w1.heap.size := by have := b1.size; simpa using this
  have HP1 : Hid (∃ p1 : Past W, p1.w = w1) := Lib.hid ⟨⟨w1, ((Past.start W).alloc (.cells #[] 43 (0, 0))).h.trans (b1.mono (by simp))⟩, rfl⟩
  have HO1 := Lib.hid (rowP_same O0.out fun g hg => b1.block g (O0.out.lt g hg).2)
  have HG := Lib.hid fun (k : Nat) (hk : k < (pseudo a rs).length) => stem_get HCT.out hk
  have hlen := pseudo_len HCT.out
  have HTL := Lib.hid (show (stemOf a rs).length = (pseudo a rs).length from stemOf_len a rs)
  obtain ⟨n, hn⟩ : ∃ n, (pseudo a rs).length = n := ⟨_, rfl⟩
  obtain ⟨al, cl, rfl, bl, ol, hal, hbl, hbl2, hcl⟩ : ∃ al cl, u = .slice al n cl ∧ ∃ bl ol, (0 < n → al = some ⟨bl, ol, none⟩) ∧ W.heap.size < bl ∧ (0 < n → bl < w1.heap.size) ∧ ∀ j, j < n → w1.cell? ⟨bl, ol + j, none⟩ = some (.int .i64 ((pseudo a rs).getD j 0)) := by
    obtain ⟨al, cl, rfl⟩ := own_form o1
    have hrd := o1.reads
    refine ⟨al, cl, by rw [hn], ?_⟩
    by_cases h0 : 0 < n
    · obtain ⟨_, a', c', hv, hcells⟩ := hrd
      injection hv with e1 e2 e3
      subst e1
      obtain ⟨b, o, rfl, h2, h3⟩ := hcells (by intro h; rw [List.map_eq_nil_iff] at h; rw [h] at hn; simp at hn; omega)
      have hob := (o1.1.lt b rfl).1
      refine ⟨b, o, fun _ => rfl, by simp at hob; omega, fun _ => h2, fun j hj => ?_⟩
      rw [h3 j (by simp [ints]; omega)]
      exact ints_get _ j (by omega)
    · exact ⟨W.heap.size + 1, 0, fun h => absurd h h0, by omega, fun h => absurd h h0, fun j hj => by omega⟩
  rw [hn] at HG hlen HTL
  have HCL := Lib.hid hcl
  obtain ⟨p1, rfl⟩ := HP1.out
  clear HP O0 o1 b1 hcl HP1 hn ka0 ka1
  go_wp2_with fail
  go_loopw [3, 5] (fun ov i wr => ∃ (k : Nat) (v0 : Value) (p : Past W), k ≤ n ∧ i = .int .i64 k ∧ ov = v0 ∧ Hid (p.w.ownsRow W.heap.size 43 2 v0 k (prs ((stemOf a rs).take k))) ∧ Hid (∀ g, v0.ownBlock = some g → g ≠ bl) ∧ (0 < n → bl < p.w.heap.size) ∧ Hid (∀ j, j < n → p.w.cell? ⟨bl, ol + j, none⟩ = some (.int .i64 ((pseudo a rs).getD j 0))) ∧ wr = p.w) (fun _ i _ => n - (intOf i).toNat)
  case atStart => exact ⟨0, _, p1, Nat.zero_le _, rfl, rfl, HO1, Lib.hid (fun g hg => by cases hg; show W.heap.size ≠ bl; omega), hbl2, HCL, rfl⟩
  case round =>
    obtain ⟨k, v0, p, hk, rfl, rfl, hown, hne, hblp, hcel, rfl⟩ := hrel
    by_cases hlt : k < n
    · obtain ⟨x, hx, -, hgx, -, htk⟩ := HG.out k hlt
      obtain rfl := hal (by omega)
      have hblz := hblp (by omega)
      have cx := hcel.out k hlt
      rw [hgx] at cx
      have HTK := Lib.hid htk
      have HCX := Lib.hid (HC.out p.drew x hx)
      clear htk hgx
      generalize clo a rs x = y at HTK HCX
      have HK1 : Hid (k + 1 ≤ maxLen) := Lib.hid (by unfold maxLen; omega)
      have HK2 : Hid ((k + 1) * 16 ≤ 140737488355328) := Lib.hid (by omega)
      have hpz := p.size
      have kp0 := k0 p
      have kp1 := k1 p
      obtain ⟨av, cv, hov⟩ := rowP_form hown.out
      subst hov
      have kd0 := k0 p.drew
      have kd1 := k1 p.drew
      have cxd : p.w.drew.cell? ⟨bl, ol + k, none⟩ = some (.int .i64 (x : Int)) := cx
      go_wp2_with fail
      go_region_held3 (fun wx => wx.cell? ⟨w.heap.size, 0, none⟩ = some (.int .i64 a) ∧ wx.cell? ⟨w.heap.size, 1, none⟩ = some (.slice aa rs.length ca) ∧ wx.cell? ⟨bl, ol + k, none⟩ = some (.int .i64 (x : Int)))
        (first | with_reducible exact ⟨kd0, kd1, cxd⟩ | with_reducible exact ⟨k0 p2, k1 p2, F.2.1⟩ | with_reducible exact ⟨k0 (p2.alloc _), k1 (p2.alloc _), F.2.2.1⟩ | with_reducible exact ⟨k0 p3, k1 p3, F3⟩ | fail)
        (first
          | (go_at_call 71; (with_reducible refine HCX.out.mono ?_); rintro e _ ⟨rfl, p2, rfl, b2⟩; have F := stem_step hown.out b2 cx hblz (.cells #[.int .i64 (x : Int), .int .i64 ((y : Nat) : Int)] 43))
          | (refine step_append_lies _ (by rfl) _ _ _ (by rfl) W.heap.size 43 i0 (.agg #[.int .i64 0, .int .i64 0]) 2 16 Try.underlying28 hinf hz0 hz1 hz2 rfl (by decide) _ k _ (by rfl) (F.1.alloc _) ⟨p2.w.heap.size, 0, none⟩ 1 1 (prs [((x : Int), ((y : Nat) : Int))]) (by rfl) (by rfl) (newsQ _ _ _ _) (oneQ _) Nat.one_pos HK1.out HK2.out (p2.alloc _).size _ rfl ?_; intro g cap w3 hown3 hgrow hat hlt3; obtain ⟨p3, rfl, F3⟩ := stem_grow p2 hgrow F hne.out (Nat.le_refl _)))
      have hsz3 : (p2.w.alloc (.cells #[.int .i64 (x : Int), .int .i64 ((y : Nat) : Int)] 43)).heap.size ≤ p3.w.heap.size := hgrow.size
      have hbl3 := F.2.2.2.1
      have HO4 := Lib.hid hown3
      have HN4 : Hid (∀ g', Value.ownBlock (.slice (some ⟨g, 0, none⟩) (k + 1) cap) = some g' → g' ≠ bl) := Lib.hid fun g' hg' => by
        cases hg'
        rcases hat with h | h
        · exact hne.out _ h
        · show g ≠ bl; omega
      have HC4 : Hid (∀ j, j < n → p3.w.cell? ⟨bl, ol + j, none⟩ = some (.int .i64 ((pseudo a rs).getD j 0))) := Lib.hid fun j hj => by
        obtain ⟨_, h1, h2⟩ := stem_grow p2 hgrow (stem_step hown.out b2 (hcel.out j hj) hblz _) hne.out (Nat.le_refl _)
        rw [h1] at h2; exact h2
      clear hown3 hgrow hat F F3 b2 kd0 kd1 cxd cx
      go_wp2_with fail
      go_roundw
      case rel => exact ⟨k + 1, _, p3, by omega, by simp, rfl, Lib.hid (by rw [HTK.out, prs_app]; exact HO4.out), HN4, fun _ => by omega, HC4, rfl⟩
      case measure => simp [intOf]; omega
    · have hrow := hown.out
      rw [show k = (stemOf a rs).length by have := HTL.out; omega, List.take_length] at hrow
      have HO := Lib.hid (OwnP.made hrow)
      have hkl := HTL.out
      have hbb := HBW.out.trans (p.h.mono (by omega))
      clear hrow hkl
      go_wp2_with fail
      go_ret
      exact ⟨_, rfl, by have h := HO.out.mono (lo' := w.heap.size) (by omega) (Nat.le_refl _); exact h, hbb⟩
end Go.Proofs.Ythodmmckekgkdaa.Stem

namespace Go.Proofs.Ythodmmckekgkdaa.Stem
open Go Go.RowKit Mem Sets Ctx Tab Rule Lectic
set_option maxRecDepth 100000

theorem isR_to8 {n : Int} {p : PInt} (h : isR n p = true) : isR 8 p = true := by
  unfold isR at h ⊢
  rw [Bool.and_eq_true] at h
  rw [isSet8_true (isSet_le h.1), isSet8_true (isSet_le h.2)]; rfl
theorem allIn_to8 {n : Int} {l : List PInt} (h : allIn n l = true) : allIn 8 l = true := List.all_eq_true.2 fun p hp => isR_to8 (List.all_eq_true.1 h p hp)
theorem areR_all {n : Int} {l : List PInt} (h : areR n l = true) : allIn n l = true := by
  unfold areR at h
  rw [Bool.and_eq_true, Bool.and_eq_true] at h
  exact h.1.1
theorem stemOf_8 {a : Int} {rs : List Int} (hc : isCtx a rs = true) : allIn 8 (stemOf a rs) = true := allIn_to8 (areR_all (stemOf_areR hc))
theorem all_snoc {l : List PInt} {f : PInt → Bool} {k : Nat} (hk : k < l.length) : (l.take (k + 1)).all f = ((l.take k).all f && f (rl l k)) := by
  rw [List.take_add_one, List.getElem?_eq_getElem hk, List.all_append, rl, List.getD_eq_getElem?_getD, List.getElem?_eq_getElem hk]
  simp
theorem all_false {l : List PInt} {f : PInt → Bool} {k : Nat} (hk : k < l.length) (h : f (rl l k) = false) : l.all f = false := by
  rw [List.all_eq_false]
  exact ⟨_, rl_mem hk, by rw [h]; decide⟩
theorem andR (x s : Int) (hx : 0 ≤ x ∧ x ≤ 255) (hs : 0 ≤ s ∧ s ≤ 255) : (bits .and .i64 x s != s) = !decide (s.toNat &&& x.toNat = s.toNat) := by
  have h := andL s x hs hx
  have hc : bits .and .i64 x s = bits .and .i64 s x := by
    obtain ⟨m, rfl⟩ := Int.eq_ofNat_of_zero_le hx.1
    obtain ⟨k, rfl⟩ := Int.eq_ofNat_of_zero_le hs.1
    rw [and_nat m k (by omega) (by omega), and_nat k m (by omega) (by omega), Nat.and_comm]
  rw [hc, bne, h]
set_option maxHeartbeats 1600000 in
theorem spec_stem (a : Int) (v : Value) (rs : List Int) (B : Nat) (w : World) (hr : Reads w B v (ints rs)) (hB : B ≤ w.heap.size) :
    Calls Try.prog 17 #[ctx a v] w fun e w' => ∃ u, e = .returned u ∧ OwnP 43 w' w.heap.size w'.heap.size u (stemBase a rs) ∧ Below w.heap.size w w' := by
  obtain ⟨aa, ca, rfl⟩ := reads_form hr
  have hW := (Below.refl w.heap.size w).alloc (Nat.le_refl _) (.cells #[.int .i64 a, .slice aa rs.length ca] 26)
  have HR1 := Lib.hid (hr.below hW hB)
  have q0 : (w.alloc (.cells #[.int .i64 a, .slice aa rs.length ca] 26)).cell? ⟨w.heap.size, 0, none⟩ = some (.int .i64 a) := by simp
  have q1 : (w.alloc (.cells #[.int .i64 a, .slice aa rs.length ca] 26)).cell? ⟨w.heap.size, 1, none⟩ = some (.slice aa rs.length ca) := by simp
  have hz : w.heap.size < (w.alloc (.cells #[.int .i64 a, .slice aa rs.length ca] 26)).heap.size := by simp
  clear hr
  go_enter Try.func17, Try.ntmps17
  go_wp2_with fail
  generalize w.alloc (.cells #[.int .i64 a, .slice aa rs.length ca] 26) = W at HR1 hW q0 q1 hz ⊢
  have hBW : B ≤ W.heap.size := by omega
  have k0 := fun p : Past W => Past.cell q0 (by show w.heap.size < _; omega) p
  have k1 := fun p : Past W => Past.cell q1 (by show w.heap.size < _; omega) p
  have HBW := Lib.hid hW
  clear q0 q1 hW
  refine ((Past.start W).of (spec_isCtx a _ rs B W HR1.out hBW)).mono ?_
  rintro e _ ⟨rfl, p, rfl⟩
  have kp0 := k0 p
  have kp1 := k1 p
  have hbb := HBW.out.trans (p.h.mono (by omega))
  have hpz := p.size
  cases hic : isCtx a rs with
  | false =>
    have HX : Hid (stemBase a rs = []) := Lib.hid (by rw [stemBase, if_neg (by rw [hic]; decide)])
    have ho := World.ownsRow_lit (e := 43) (size := 2) p.w #[] 0 (Nat.le_refl _) (Nat.zero_le _) rfl
    have HO := Lib.hid (OwnP.made (l := []) ho)
    clear hic ho
    go_wp2_with fail
    go_ret
    exact ⟨_, rfl, by rw [HX.out]; exact HO.out.mono (by omega) (Nat.le_refl _), hbb.alloc hbb.size _⟩
  | true =>
    have HX : Hid (stemBase a rs = stemOf a rs) := Lib.hid (by rw [stemBase, if_pos hic])
    have HP := Lib.hid (l10Stem a (.slice aa rs.length ca) rs B p.w (Past.reads HR1.out hBW p) (Nat.le_trans hBW p.size) hic)
    clear hic
    go_wp2_with fail
    refine HP.out.mono ?_
    rintro e w2 ⟨u, rfl, o2, b2⟩
    have hb2 := hbb.trans (b2.mono (by omega))
    go_wp2_with fail
    go_ret
    exact ⟨_, rfl, by rw [HX.out]; exact o2.mono (by omega) (Nat.le_refl _), hb2⟩
set_option maxHeartbeats 3200000 in
theorem l10All (v1 v2 : Value) (l fr : List PInt) (B : Nat) (w : World) (h1 : ReadsP w B v1 l) (h2 : ReadsP w B v2 fr) (hB : B ≤ w.heap.size) (hl : allIn 8 l = true) (hf : allIn 8 fr = true) :
    Calls Try.prog 68 #[v1, v2] w fun e w' => e = .returned (.bool (allFollow l fr)) ∧ Below w.heap.size w w' := by
  have HC := Lib.hid fun (p : Past w) (x : Nat) (hx : x < 256) => p.of (l9Closed v2 fr x B p.w (h2.below p.h hB) (Nat.le_trans hB p.size) hf hx)
  obtain ⟨a, c, rfl⟩ := h1.form
  have hlen := h1.1
  unfold maxLen at hlen
  have HR := Lib.hid h1
  have HIN := Lib.hid hl
  have HCL : Hid (∀ x, x < 256 → Rule.cl fr x < 256) := Lib.hid fun x hx => cl_lt (n := 8) (by omega) (fun k hk => allIn_lt hf hk) hx
  obtain ⟨m, hm⟩ : ∃ m, l.length = m := ⟨_, rfl⟩
  have HM := Lib.hid hm
  rw [hm] at HR hlen ⊢
  clear h1 h2 hm hl hf
  go_enter Try.func68, Try.ntmps68
  go_wp2_with fail
  go_loopw [5] (fun i wr => ∃ k : Nat, k ≤ m ∧ i = .int .i64 k ∧ Hid ((l.take k).all (follow1 fr) = true) ∧ ∃ p : Past w, wr = p.w) (fun i _ => m - (intOf i).toNat)
  case atStart => exact ⟨0, Nat.zero_le _, rfl, Lib.hid rfl, Past.start w, rfl⟩
  case round =>
    obtain ⟨k, hk, rfl, hall, p, rfl⟩ := hrel
    by_cases hlt : k < m
    · have hkl : k < l.length := by rw [HM.out]; exact hlt
      obtain ⟨b, o, rfl, hb, h0, h1⟩ := readsP_at HR.out hkl
      have c0 := fun q : Past w => Past.cell h0 (by show b < _; omega) q
      have c1 := fun q : Past w => Past.cell h1 (by show b < _; omega) q
      have hq := allIn_rl HIN.out hkl
      have hq1 := set8 hq.1
      have hq2 := set8 hq.2
      have HSN := Lib.hid (all_snoc (f := follow1 fr) hkl)
      have HFL := Lib.hid fun h => all_false (f := follow1 fr) hkl h
      clear h0 h1 hq
      generalize rl l k = r at c0 c1 hq1 hq2 HSN HFL
      obtain ⟨r0, r1⟩ := r
      simp only at hq1 hq2 c0 c1
      obtain ⟨x, rfl⟩ := Int.eq_ofNat_of_zero_le hq1.1
      have hx : x < 256 := by omega
      have HCX := Lib.hid fun q : Past w => HC.out q x hx
      have hy := HCL.out x hx
      have HD : Hid ((bits .and .i64 ((Rule.cl fr x : Nat) : Int) r1 != r1) = !follow1 fr ((x : Int), r1)) := Lib.hid (by
        rw [andR _ _ (by omega) hq2]
        simp only [follow1, Int.toNat_natCast])
      generalize Rule.cl fr x = y at HCX HD hy
      obtain ⟨d, hd⟩ : ∃ d, (bits .and .i64 ((y : Nat) : Int) r1 != r1) = d := ⟨_, rfl⟩
      rw [hd] at HD
      cases d with
      | false =>
        have HA : Hid ((l.take (k + 1)).all (follow1 fr) = true) := Lib.hid (by
          rw [HSN.out, hall.out, Bool.true_and]
          have := HD.out
          cases hh : follow1 fr ((x : Int), r1) with
          | true => rfl
          | false => rw [hh] at this; cases this)
        go_wp2_with fail
        refine wp_region_pastIn p (by kernel_rfl) (by kernel_rfl) ?_
        repeat (go_big_quiet_step (first | with_reducible exact HCX.out _))
        refine wpQuiet_nil ?_
        rintro _ ⟨p2, rfl⟩
        go_wp2_with fail
        go_roundw
        case rel => exact ⟨k + 1, by omega, by simp, HA, p2, rfl⟩
        case measure => simp [intOf]; omega
      | true =>
        have HA : Hid (allFollow l fr = false) := Lib.hid (HFL.out (by
          have := HD.out
          cases hh : follow1 fr ((x : Int), r1) with
          | true => rw [hh] at this; cases this
          | false => rfl))
        go_wp2_with fail
        refine wp_region_pastIn p (by kernel_rfl) (by kernel_rfl) ?_
        repeat (go_big_quiet_step (first | with_reducible exact HCX.out _))
        refine wpQuiet_nil ?_
        rintro _ ⟨p2, rfl⟩
        have hbb := p2.h
        go_wp2_with fail
        go_ret
        exact ⟨by rw [HA.out]; rfl, hbb⟩
    · have HA : Hid (allFollow l fr = true) := Lib.hid (by
        have := hall.out
        rwa [List.take_of_length_le (by have := HM.out; omega)] at this)
      have hbb := p.h
      go_wp2_with fail
      go_ret
      exact ⟨by rw [HA.out]; rfl, hbb⟩
theorem l1Bit (b : Bool) (w : World) : Calls Try.prog 70 #[.bool b] w fun e w' => e = .returned (.int .i64 (if b = true then 1 else 0)) ∧ w' = w := by
  cases b with
  | true =>
    go_enter Try.func70, Try.ntmps70
    go_wp2_with fail
    go_ret
    exact ⟨rfl, rfl⟩
  | false =>
    go_enter Try.func70, Try.ntmps70
    go_wp2_with fail
    go_ret
    exact ⟨rfl, rfl⟩
set_option maxHeartbeats 3200000 in
theorem spec_countR (a : Int) (v : Value) (rs : List Int) (B : Nat) (w : World) (hr : Reads w B v (ints rs)) (hB : B ≤ w.heap.size) :
    Calls Try.prog 24 #[ctx a v] w fun e w' => e = .returned (.int .i64 (countRules a rs)) ∧ Below w.heap.size w w' := by
  obtain ⟨aa, ca, rfl⟩ := reads_form hr
  have hW := (Below.refl w.heap.size w).alloc (Nat.le_refl _) (.cells #[.int .i64 a, .slice aa rs.length ca] 26)
  have HR1 := Lib.hid (hr.below hW hB)
  have q0 : (w.alloc (.cells #[.int .i64 a, .slice aa rs.length ca] 26)).cell? ⟨w.heap.size, 0, none⟩ = some (.int .i64 a) := by simp
  have q1 : (w.alloc (.cells #[.int .i64 a, .slice aa rs.length ca] 26)).cell? ⟨w.heap.size, 1, none⟩ = some (.slice aa rs.length ca) := by simp
  have hz : w.heap.size < (w.alloc (.cells #[.int .i64 a, .slice aa rs.length ca] 26)).heap.size := by simp
  clear hr
  go_enter Try.func24, Try.ntmps24
  go_wp2_with fail
  generalize w.alloc (.cells #[.int .i64 a, .slice aa rs.length ca] 26) = W at HR1 hW q0 q1 hz ⊢
  have hBW : B ≤ W.heap.size := by omega
  have k0 := fun p : Past W => Past.cell q0 (by show w.heap.size < _; omega) p
  have k1 := fun p : Past W => Past.cell q1 (by show w.heap.size < _; omega) p
  have HBW := Lib.hid hW
  clear q0 q1 hW
  refine ((Past.start W).of (spec_isCtx a _ rs B W HR1.out hBW)).mono ?_
  rintro e _ ⟨rfl, p, rfl⟩
  have kp0 := k0 p
  have kp1 := k1 p
  cases hic : isCtx a rs with
  | false =>
    have HX : Hid (countRules a rs = -1) := Lib.hid (by rw [countRules, if_neg (by rw [hic]; decide)])
    have hbb := HBW.out.trans (p.h.mono (by omega))
    clear hic
    go_wp2_with fail
    go_ret
    exact ⟨by rw [HX.out]; rfl, hbb⟩
  | true =>
    have hp := isCtx_parts hic
    have hN8 : 2 ^ a.toNat ≤ 256 := pow_le8 (by omega)
    have hN1 : 1 ≤ 2 ^ a.toNat := Nat.pow_pos (by omega)
    have HF := Lib.hid fun w => spec_full a w
    rw [full_nat hp.1 (by omega)] at HF
    have HX : Hid (countRules a rs = ((openN (clo a rs) (2 ^ a.toNat) : Nat) : Int)) := Lib.hid (by rw [countRules, if_pos hic])
    have HC := Lib.hid fun (p : Past W) (x : Nat) (hx : x < 256) => p.of (l4Closure a (.slice aa rs.length ca) rs (x : Int) B p.w (Past.reads HR1.out hBW p) (Nat.le_trans hBW p.size) hic (by omega))
    change Hid (∀ (p : Past W) (x : Nat) (hx : x < 256), Calls _ _ _ _ fun e w' => e = .returned (.int .i64 ((clo a rs x : Nat) : Int)) ∧ ∃ q : Past W, w' = q.w) at HC
    generalize 2 ^ a.toNat = N at hN8 hN1 HF HX
    clear hp hic
    go_wp2_with fail
    go_loopw [3, 4] (fun nv i wr => ∃ (k : Nat) (p : Past W), k ≤ N ∧ i = .int .i64 k ∧ nv = .int .i64 ((openN (clo a rs) k : Nat) : Int) ∧ wr = p.w) (fun _ i _ => N - (intOf i).toNat)
    case atStart => exact ⟨0, p, Nat.zero_le _, rfl, rfl, rfl⟩
    case round =>
      obtain ⟨k, p, hk, rfl, rfl, rfl⟩ := hrel
      have kr0 := k0 p
      have kr1 := k1 p
      have hle := openN_le (clo a rs) k
      by_cases hlt : k < N
      · have dk : decide ((k : Int) ≤ ((N - 1 : Nat) : Int)) = true := by simp; omega
        have hk256 : k < 256 := by omega
        have HO : Hid (openN (clo a rs) (k + 1) = if clo a rs k = k then openN (clo a rs) k else openN (clo a rs) k + 1) := Lib.hid rfl
        have HCK := Lib.hid fun q : Past W => HC.out q k hk256
        generalize openN (clo a rs) k = c at hle HO ⊢
        generalize clo a rs k = y at HO HCK
        have HB := Lib.hid fun (b : Bool) (q : Past W) => q.ofSame (l1Bit b q.w)
        obtain ⟨d, hd⟩ : ∃ d, (((y : Nat) : Int) != ((k : Nat) : Int)) = d := ⟨_, rfl⟩
        have HV : Hid (((openN (clo a rs) (k + 1) : Nat) : Int) = (c : Int) + (if d = true then 1 else 0)) := Lib.hid (by
          rw [HO.out, ← hd]
          by_cases h : y = k
          · subst h; simp
          · rw [if_neg h, if_pos (by simp; omega)]; omega)
        have hdd : (if d = true then (1 : Int) else 0) = 0 ∨ (if d = true then (1 : Int) else 0) = 1 := by cases d <;> simp
        have HBd := Lib.hid fun q : Past W => HB.out d q
        clear HB
        generalize (if d = true then (1 : Int) else 0) = z at HV hdd HBd
        go_wp2_with fail
        refine (HF.out _).mono ?_
        rintro e w' ⟨rfl, hw⟩
        subst w'
        go_wp2_with fail
        refine (HCK.out p).mono ?_
        rintro e _ ⟨rfl, p3, rfl⟩
        go_wp2_with fail
        refine (HBd.out p3).mono ?_
        rintro e _ ⟨rfl, p2, rfl⟩
        go_wp2_with fail
        go_roundw
        case rel => exact ⟨k + 1, p2, by omega, by simp, by rw [HV.out], rfl⟩
        case measure => simp [intOf]; omega
      · have dk : decide ((k : Int) ≤ ((N - 1 : Nat) : Int)) = false := by simp; omega
        have HKN : Hid (k = N) := Lib.hid (by omega)
        have hbb := HBW.out.trans (p.h.mono (by omega))
        go_wp2_with fail
        refine (HF.out _).mono ?_
        rintro e w' ⟨rfl, hw⟩
        subst w'
        go_wp2_with fail
        go_ret
        exact ⟨by rw [HX.out, HKN.out]; rfl, hbb⟩
end Go.Proofs.Ythodmmckekgkdaa.Stem

namespace Go.Proofs.Ythodmmckekgkdaa.Stem
open Go Go.RowKit Mem Sets Ctx Tab Rule Lectic
set_option maxRecDepth 100000

theorem isBase_no {a : Int} {rs : List Int} {l : List PInt} (h : (isCtx a rs && areR a l) = false) : isBase a rs l = false := by rw [isBase, h]; rfl
theorem isBase_hold {a : Int} {rs : List Int} {l : List PInt} (h : l.all (holds a rs) = false) : isBase a rs l = false := by rw [isBase, h, Bool.and_false]; rfl
set_option maxHeartbeats 6400000 in
theorem spec_isBase (a : Int) (v vl : Value) (rs : List Int) (l : List PInt) (B : Nat) (w : World) (hr : Reads w B v (ints rs)) (h2 : ReadsP w B vl l) (hB : B ≤ w.heap.size) :
    Calls Try.prog 20 #[ctx a v, vl] w fun e w' => e = .returned (.bool (isBase a rs l)) ∧ Below w.heap.size w w' := by
  obtain ⟨aa, ca, rfl⟩ := reads_form hr
  have hW := (Below.refl w.heap.size w).alloc (Nat.le_refl _) (.cells #[.int .i64 a, .slice aa rs.length ca] 26)
  have HR1 := Lib.hid (hr.below hW hB)
  have HL1 := Lib.hid (h2.below hW hB)
  have q0 : (w.alloc (.cells #[.int .i64 a, .slice aa rs.length ca] 26)).cell? ⟨w.heap.size, 0, none⟩ = some (.int .i64 a) := by simp
  have q1 : (w.alloc (.cells #[.int .i64 a, .slice aa rs.length ca] 26)).cell? ⟨w.heap.size, 1, none⟩ = some (.slice aa rs.length ca) := by simp
  have hz : w.heap.size < (w.alloc (.cells #[.int .i64 a, .slice aa rs.length ca] 26)).heap.size := by simp
  obtain ⟨al, cl, rfl⟩ := h2.form
  have hlen := h2.1
  unfold maxLen at hlen
  clear hr h2
  go_enter Try.func20, Try.ntmps20
  go_wp2_with fail
  generalize w.alloc (.cells #[.int .i64 a, .slice aa rs.length ca] 26) = W at HR1 HL1 hW q0 q1 hz ⊢
  have hBW : B ≤ W.heap.size := by omega
  have k0 := fun p : Past W => Past.cell q0 (by show w.heap.size < _; omega) p
  have k1 := fun p : Past W => Past.cell q1 (by show w.heap.size < _; omega) p
  have HBW := Lib.hid hW
  clear q0 q1 hW
  have HAR := Lib.hid fun p : Past W => p.of (spec_areRules a (.slice al l.length cl) l B p.w (HL1.out.below p.h hBW) (Nat.le_trans hBW p.size))
  have HHO := Lib.hid fun (p : Past W) (r : PInt) => p.of (spec_holds a (.slice aa rs.length ca) rs r B p.w (Past.reads HR1.out hBW p) (Nat.le_trans hBW p.size))
  have hic0 := (Past.start W).of (spec_isCtx a (.slice aa rs.length ca) rs B W HR1.out hBW)
  obtain ⟨m, hm⟩ : ∃ m, l.length = m := ⟨_, rfl⟩
  have HM := Lib.hid hm
  rw [hm] at HAR hlen HL1 ⊢
  clear hm
  refine hic0.mono ?_
  rintro e _ ⟨rfl, p, rfl⟩
  clear hic0
  have kp0 := k0 p
  have kp1 := k1 p
  cases hic : isCtx a rs with
  | false =>
    have HX : Hid (isBase a rs l = false) := Lib.hid (isBase_no (by rw [hic]; rfl))
    have hbb := HBW.out.trans (p.h.mono (by omega))
    clear hic
    go_wp2_with fail
    go_ret
    exact ⟨by rw [HX.out]; rfl, hbb⟩
  | true =>
    cases har : areR a l with
    | false =>
      have HX : Hid (isBase a rs l = false) := Lib.hid (isBase_no (by rw [hic, har]; rfl))
      rw [har] at HAR
      clear hic har
      go_wp2_with fail
      refine (HAR.out p).mono ?_
      rintro e _ ⟨rfl, p2, rfl⟩
      have hbb := HBW.out.trans (p2.h.mono (by omega))
      go_wp2_with fail
      go_ret
      exact ⟨by rw [HX.out]; rfl, hbb⟩
    | true =>
      have HX : Hid (l.all (holds a rs) = true → isBase a rs l = allFollow (stemOf a rs) l) := Lib.hid fun h => by rw [isBase, hic, har, h]; rfl
      have HST := Lib.hid fun p : Past W => l10Stem a (.slice aa rs.length ca) rs B p.w (Past.reads HR1.out hBW p) (Nat.le_trans hBW p.size) hic
      have HL8 := Lib.hid (allIn_to8 (areR_all har))
      have HS8 := Lib.hid (stemOf_8 hic)
      rw [har] at HAR
      clear hic har
      go_wp2_with fail
      refine (HAR.out p).mono ?_
      rintro e _ ⟨rfl, p2, rfl⟩
      clear HAR
      go_wp2_with fail
      go_loopw [5] (fun i wr => ∃ k : Nat, k ≤ m ∧ i = .int .i64 k ∧ Hid ((l.take k).all (holds a rs) = true) ∧ ∃ p : Past W, wr = p.w) (fun i _ => m - (intOf i).toNat)
      case atStart => exact ⟨0, Nat.zero_le _, rfl, Lib.hid rfl, p2, rfl⟩
      case round =>
        obtain ⟨k, hk, rfl, hall, p3, rfl⟩ := hrel
        have kq0 := k0 p3
        have kq1 := k1 p3
        by_cases hlt : k < m
        · have hkl : k < l.length := by rw [HM.out]; exact hlt
          have HRL : Hid (ReadsP W B (.slice al l.length cl) l) := Lib.hid (by rw [HM.out]; exact HL1.out)
          obtain ⟨b, o, rfl, hb, h0, h1⟩ := readsP_at HRL.out hkl
          have c0 := fun q : Past W => Past.cell h0 (by show b < _; omega) q
          have c1 := fun q : Past W => Past.cell h1 (by show b < _; omega) q
          have HSN := Lib.hid (all_snoc (f := holds a rs) hkl)
          have HFL := Lib.hid fun h => all_false (f := holds a rs) hkl h
          have HK := Lib.hid fun q : Past W => HHO.out q (rl l k)
          clear h0 h1
          generalize rl l k = r at c0 c1 HSN HFL HK
          obtain ⟨r0, r1⟩ := r
          simp only at c0 c1
          obtain ⟨d, hd⟩ : ∃ d, holds a rs (r0, r1) = d := ⟨_, rfl⟩
          rw [hd] at HK HSN HFL
          clear hd
          cases d with
          | true =>
            have HA : Hid ((l.take (k + 1)).all (holds a rs) = true) := Lib.hid (by rw [HSN.out, hall.out]; rfl)
            go_wp2_with fail
            refine wp_region_pastIn p3 (by kernel_rfl) (by kernel_rfl) ?_
            repeat (go_big_quiet_step (first | with_reducible exact HK.out _))
            refine wpQuiet_nil ?_
            rintro _ ⟨p4, rfl⟩
            go_wp2_with fail
            go_roundw
            case rel => exact ⟨k + 1, by omega, by simp, HA, p4, rfl⟩
            case measure => simp [intOf]; omega
          | false =>
            have HA : Hid (isBase a rs l = false) := Lib.hid (isBase_hold (HFL.out rfl))
            go_wp2_with fail
            refine wp_region_pastIn p3 (by kernel_rfl) (by kernel_rfl) ?_
            repeat (go_big_quiet_step (first | with_reducible exact HK.out _))
            refine wpQuiet_nil ?_
            rintro _ ⟨p4, rfl⟩
            have hbb := HBW.out.trans (p4.h.mono (by omega))
            go_wp2_with fail
            go_ret
            exact ⟨by rw [HA.out]; rfl, hbb⟩
        · have HA : Hid (isBase a rs l = allFollow (stemOf a rs) l) := Lib.hid (HX.out (by
            have := hall.out
            rwa [List.take_of_length_le (by have := HM.out; omega)] at this))
          have HS := Lib.hid (HST.out p3)
          have hbp := HBW.out.trans (p3.h.mono (by omega))
          have hpz := p3.size
          have HRL : Hid (ReadsP W B (.slice al l.length cl) l) := Lib.hid (by rw [HM.out]; exact HL1.out)
          go_wp2_with fail
          refine HS.out.mono ?_
          rintro e w2 ⟨u, rfl, o2, b2⟩
          have hz2 := b2.size
          have HAL := l10All u (.slice al l.length cl) (stemOf a rs) l w2.heap.size w2 o2.reads (((HRL.out.below p3.h hBW).below b2 (by omega)).mono (by omega)) (Nat.le_refl _) HS8.out HL8.out
          rw [HM.out] at HAL
          have HAH := Lib.hid HAL
          have hb2 := hbp.trans (b2.mono (by omega))
          clear HAL o2 b2
          go_wp2_with fail
          refine HAH.out.mono ?_
          rintro e w3 ⟨rfl, b3⟩
          have hbb := hb2.trans (b3.mono (by omega))
          go_wp2_with fail
          go_ret
          exact ⟨by rw [HA.out]; rfl, hbb⟩
set_option maxHeartbeats 3200000 in
theorem spec_short (a : Int) (v vl : Value) (rs : List Int) (l : List PInt) (B : Nat) (w : World) (hr : Reads w B v (ints rs)) (h2 : ReadsP w B vl l) (hB : B ≤ w.heap.size) :
    Calls Try.prog 22 #[ctx a v, vl] w fun e w' => e = .returned (.bool (isShortest a rs l)) ∧ Below w.heap.size w w' := by
  obtain ⟨aa, ca, rfl⟩ := reads_form hr
  have hW := (Below.refl w.heap.size w).alloc (Nat.le_refl _) (.cells #[.int .i64 a, .slice aa rs.length ca] 26)
  have HR1 := Lib.hid (hr.below hW hB)
  have HL1 := Lib.hid (h2.below hW hB)
  have q0 : (w.alloc (.cells #[.int .i64 a, .slice aa rs.length ca] 26)).cell? ⟨w.heap.size, 0, none⟩ = some (.int .i64 a) := by simp
  have q1 : (w.alloc (.cells #[.int .i64 a, .slice aa rs.length ca] 26)).cell? ⟨w.heap.size, 1, none⟩ = some (.slice aa rs.length ca) := by simp
  have hz : w.heap.size < (w.alloc (.cells #[.int .i64 a, .slice aa rs.length ca] 26)).heap.size := by simp
  obtain ⟨al, cl, rfl⟩ := h2.form
  clear hr h2
  go_enter Try.func22, Try.ntmps22
  go_wp2_with fail
  generalize w.alloc (.cells #[.int .i64 a, .slice aa rs.length ca] 26) = W at HR1 HL1 hW q0 q1 hz ⊢
  have hBW : B ≤ W.heap.size := by omega
  have k0 := fun p : Past W => Past.cell q0 (by show w.heap.size < _; omega) p
  have k1 := fun p : Past W => Past.cell q1 (by show w.heap.size < _; omega) p
  have HBW := Lib.hid hW
  clear q0 q1 hW
  refine ((Past.start W).of (spec_isBase a (.slice aa rs.length ca) (.slice al l.length cl) rs l B W HR1.out HL1.out hBW)).mono ?_
  rintro e _ ⟨rfl, p, rfl⟩
  have kp0 := k0 p
  have kp1 := k1 p
  cases hb : isBase a rs l with
  | false =>
    have HX : Hid (isShortest a rs l = false) := Lib.hid (by rw [isShortest, hb]; rfl)
    have hbb := HBW.out.trans (p.h.mono (by omega))
    clear hb
    go_wp2_with fail
    go_ret
    exact ⟨by rw [HX.out]; rfl, hbb⟩
  | true =>
    have hic : isCtx a rs = true := by
      cases h : isCtx a rs with
      | true => rfl
      | false => rw [isBase_no (by rw [h]; rfl)] at hb; cases hb
    have HP := Lib.hid (l10Pseudo a (.slice aa rs.length ca) rs B p.w (Past.reads HR1.out hBW p) (Nat.le_trans hBW p.size) hic)
    have HX : Hid (isShortest a rs l = (((l.length : Nat) : Int) == ((pseudo a rs).length : Int))) := Lib.hid (by
      rw [isShortest, hb, Bool.true_and, Bool.eq_iff_iff]
      simp only [decide_eq_true_eq, beq_iff_eq]
      omega)
    have hbp := HBW.out.trans (p.h.mono (by omega))
    clear hb hic
    go_wp2_with fail
    refine HP.out.mono ?_
    rintro e w2 ⟨u, rfl, o2, b2⟩
    obtain ⟨au, cu, rfl⟩ := own_form o2
    have hbb := hbp.trans (b2.mono (by have := p.size; omega))
    clear o2 b2
    go_wp2_with fail
    go_ret
    exact ⟨by rw [HX.out]; rfl, hbb⟩
end Go.Proofs.Ythodmmckekgkdaa.Stem
