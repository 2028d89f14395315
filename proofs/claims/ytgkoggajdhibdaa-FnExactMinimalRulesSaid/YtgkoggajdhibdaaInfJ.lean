/-
  Chapter 11 of the program: the rules that stay, the shortest list.
-/
import Derived.Test.YtgkoggajdhibdaaInfI
import Derived.Shelf.Abstract
namespace Go.Proofs.Ytgkoggajdhibdaa.Infer
open Go Go.RowKit Mem Sets Ctx Tab Rule Stem Lectic
set_option maxRecDepth 100000

set_option maxHeartbeats 3200000 in
theorem impl_minimal (a : Option Addr) (c : Nat) (l : List PInt) (B : Nat) (w : World) (hr : ReadsP w B (.slice a l.length c) l) (hB : B ≤ w.heap.size) (hlen : l.length ≤ 1048576) :
    Calls Try.prog 41 #[.slice a l.length c] w fun e w' => ∃ u, e = .returned u ∧ OwnP 43 w' w.heap.size w'.heap.size u (minimal l) ∧ Below w.heap.size w w' := by
  have HL := Lib.hid ((Past.start w).of (areRulesOf 8 (.slice a l.length c) l B w hr hB))
  cases h8 : allIn 8 l with
  | false =>
    have HX := Lib.hid (minimal_no h8)
    rw [h8] at HL
    clear h8 hr
    go_enter Try.func41, Try.ntmps41
    go_wp2_with fail
    refine HL.out.mono ?_
    rintro e _ ⟨rfl, p, rfl⟩
    have HO := Lib.hid (OwnP.made (l := []) (n := 0) (World.ownsRow_nil p.w w.heap.size 43 2))
    have hbb := p.h
    go_wp2_with fail
    go_ret
    exact ⟨_, rfl, by rw [HX.out]; exact HO.out, hbb⟩
  | true =>
    have HX := Lib.hid (minimal_yes h8)
    rw [h8] at HL
    have HRD := Lib.hid fun q : Past w => q.ofB' (SlP.cloneR a c l B q.w (hr.below q.h hB) (Nat.le_trans hB q.size) (by omega))
    clear h8 hr
    go_enter Try.func41, Try.ntmps41
    go_wp2_with fail
    refine HL.out.mono ?_
    rintro e _ ⟨rfl, p, rfl⟩
    have hzp := p.size
    go_wp2_with fail
    refine (HRD.out p).mono ?_
    rintro e _ ⟨a1, c1, rfl, p1, rfl, o1⟩
    have HO1 := Lib.hid (o1.mono (lo' := w.heap.size) hzp (Nat.le_refl _))
    clear o1 HRD HL
    go_wp2_with fail
    go_loopw [3, 4] (fun ov kv wr => ∃ (l' : List PInt) (k : Nat) (au : Option Addr) (cu : Nat) (p : Past w), k ≤ l'.length ∧ kv = .int .i64 k ∧ ov = .slice au l'.length cu ∧ Hid (minF (l'.length - k) l' k = minimal l) ∧ l'.length ≤ l.length ∧ Hid (OwnP 43 p.w w.heap.size p.w.heap.size (.slice au l'.length cu) l') ∧ wr = p.w) (fun ov kv _ => lenV ov - (intOf kv).toNat)
    case atStart => exact ⟨l, 0, a1, c1, p1, Nat.zero_le _, rfl, rfl, HX, Nat.le_refl _, HO1, rfl⟩
    case round =>
      obtain ⟨l', k, au, cu, p2, hk, rfl, rfl, HM, hl2, HO2, rfl⟩ := hrel
      by_cases hlt : k < l'.length
      · have HC := Lib.hid (p2.ofB (impl_redundant au cu l' (k : Int) p2.w.heap.size p2.w HO2.out.reads (Nat.le_refl _) (capP HO2.out) (by omega)))
        rw [redundant_nat] at HC
        have HR := Lib.hid (minF_red hlt)
        have HN := Lib.hid (minF_next hlt)
        have hz2p := p2.size
        cases hd : isRed l' k with
        | true =>
          have HE := Lib.hid ((HR.out hd).symm.trans HM.out)
          have hwl := without_len hlt
          rw [hd] at HC
          clear hd HR HN
          go_wp2_with fail
          refine HC.out.mono ?_
          rintro e _ ⟨rfl, p3, rfl, b3⟩
          have HO3 := Lib.hid ((HO2.out.below b3 (Nat.le_refl _)).mono (Nat.le_refl _) b3.size)
          obtain ⟨g, rfl⟩ : ∃ g, au = some ⟨g, 0, none⟩ := by
            rcases HO3.out.1.2 with ⟨h1, h2⟩ | ⟨g, cap, cur, hv, _⟩
            · omega
            · injection hv with e1 e2 e3; exact ⟨g, e1⟩
          have HW := Lib.hid (SlP.deleteR g cu l' k w.heap.size p3.w.heap.size p3.w HO3.out hlt (by omega))
          clear b3
          go_wp2_with fail
          refine HW.out.mono ?_
          rintro e w4 ⟨rfl, o4, b4⟩
          have HP4 : Hid (∃ p4 : Past w, p4.w = w4) := Lib.hid ⟨⟨w4, p3.h.trans b4⟩, rfl⟩
          have HO4 := Lib.hid (o4.mono (Nat.le_refl _) b4.size)
          obtain ⟨p4, rfl⟩ := HP4.out
          clear o4 b4 HP4
          go_wp2_with fail
          go_roundw
          case rel => exact ⟨without l' k, k, _, cu, p4, by omega, rfl, by rw [hwl], HE, by omega, by rw [hwl]; exact HO4, rfl⟩
          case measure => simp [intOf, lenV]; omega
        | false =>
          have HE := Lib.hid ((HN.out hd).symm.trans HM.out)
          rw [hd] at HC
          clear hd HR HN
          go_wp2_with fail
          refine HC.out.mono ?_
          rintro e _ ⟨rfl, p3, rfl, b3⟩
          have HO3 := Lib.hid ((HO2.out.below b3 (Nat.le_refl _)).mono (Nat.le_refl _) b3.size)
          clear b3
          go_wp2_with fail
          go_roundw
          case rel => exact ⟨l', k + 1, au, cu, p3, hlt, by simp, rfl, HE, hl2, HO3, rfl⟩
          case measure => simp [intOf, lenV]; omega
      · have HE := Lib.hid ((minF_end (l := l') (k := k) (by omega)).symm.trans HM.out)
        have hbb := p2.h
        go_wp2_with fail
        go_ret
        exact ⟨_, rfl, by rw [← HE.out]; exact HO2.out, hbb⟩
/-- The shortest list is what going through all sets in lectic order finds. -/
theorem shortN_up {n : Nat} {l : List PInt} (hn : n ≤ 8) : Up (shortN n l) := by
  have h1 := sortPs_asc (cl := clN n l) hn
  unfold Up shortN shortP
  rw [List.pairwise_map]
  refine List.Pairwise.imp_of_mem (fun {x y} hx hy h => ?_) h1
  obtain ⟨u, hu, rfl⟩ := (sortPs_mem hn).1 hx
  obtain ⟨v, hv, rfl⟩ := (sortPs_mem hn).1 hy
  have := ps_256 hn hu
  have := ps_256 hn hv
  unfold key at h
  rw [Int.toNat_natCast, Int.toNat_natCast] at h ⊢
  rw [mirror_mir u (by omega), mirror_mir v (by omega)] at h
  exact h
theorem short_lec {n : Nat} {l : List PInt} (hn : n ≤ 6) : shortN n l = (lecN n).filter (isPs (clN n l) n) := by
  have hb := shortN_base (n := n) (l := l) (by omega)
  refine up_unique _ _ (shortN_up (by omega)) (List.Pairwise.sublist List.filter_sublist (lecN_up hn)) fun x => ?_
  rw [hb.mem, List.mem_filter, lecN_mem hn]
  unfold isPs
  rw [decide_eq_true_eq]
  exact ⟨fun h => ⟨ps_lt h, h⟩, fun h => h.2⟩
theorem short_all {n : Nat} {l : List PInt} (hn : n ≤ 6) : stemTo (clN n l) (lecN n) (2 ^ n) = shortOf n l := by
  rw [stemTo_eq hn _ (Nat.le_refl _), List.take_of_length_le (by rw [lecN_len]; exact Nat.le_refl _), ← short_lec hn]; rfl
theorem closedBy_N {n x : Nat} {l : List PInt} (h : areR (n : Int) l = true) (hx : x < 2 ^ n) : closedBy l (x : Int) = ((clN n l x : Nat) : Int) := by
  have hn := (areR_lt h).1
  have h8 := pow_le8 (n := n) (by omega)
  rw [closedBy, if_pos ⟨allIn_to8 (areR_all h), isSet8_true (by omega)⟩, Int.toNat_natCast, clN_eq hx]
theorem short_fn (v : Value) (l : List PInt) (x : Int) (B b : Nat) (w : World) (hr : ReadsP w B v l) (hB : B ≤ w.heap.size) (h0 : w.cell? ⟨b, 0, none⟩ = some v) :
    Calls Try.prog 111 #[.int .i64 x, .pointer (some ⟨b, 0, none⟩)] w fun e w' => e = .returned (.int .i64 (closedBy l x)) ∧ Below w.heap.size w w' := by
  have HC := Lib.hid (impl_closedBy v l x B w hr hB)
  obtain ⟨aa, ca, rfl⟩ := hr.form
  clear hr
  go_enter Try.func111, Try.ntmps111
  go_wp2_with fail
  refine HC.out.mono ?_
  rintro e w' ⟨rfl, hbb⟩
  go_wp2_with fail
  go_ret
  exact ⟨rfl, hbb⟩
set_option maxHeartbeats 3200000 in
theorem impl_shortR (n : Int) (v : Value) (l : List PInt) (B : Nat) (w : World) (hr : ReadsP w B v l) (hB : B ≤ w.heap.size) :
    Calls Try.prog 43 #[.int .i64 n, v] w fun e w' => ∃ u, e = .returned (.tuple #[u, .bool (areR n l)]) ∧ OwnP 43 w' w.heap.size w'.heap.size u (shortRules n l) ∧ Below w.heap.size w w' := by
  obtain ⟨aa, ca, rfl⟩ := hr.form
  have hW := (Below.refl w.heap.size w).alloc (Nat.le_refl _) (.cells #[.slice aa l.length ca] 28)
  have HR1 := Lib.hid (hr.below hW hB)
  have q0 : (w.alloc (.cells #[.slice aa l.length ca] 28)).cell? ⟨w.heap.size, 0, none⟩ = some (.slice aa l.length ca) := by simp
  have hz : w.heap.size < (w.alloc (.cells #[.slice aa l.length ca] 28)).heap.size := by simp
  clear hr
  go_enter Try.func43, Try.ntmps43
  go_wp2_with fail
  generalize w.alloc (.cells #[.slice aa l.length ca] 28) = W at HR1 hW q0 hz ⊢
  have hBW : B ≤ W.heap.size := by omega
  have k0 := fun p : Past W => Past.cell q0 (by show w.heap.size < _; omega) p
  have HBW := Lib.hid hW
  clear q0 hW
  refine ((Past.start W).of (impl_areRules n _ l B W HR1.out hBW)).mono ?_
  rintro e _ ⟨rfl, p, rfl⟩
  have kp0 := k0 p
  have hbb := HBW.out.trans (p.h.mono (by omega))
  have hpz := p.size
  cases ha : areR n l with
  | false =>
    have HX : Hid (shortRules n l = []) := Lib.hid (by rw [shortRules, if_neg (by rw [ha]; decide)])
    have HO := Lib.hid (ownP_nil 43 p.w w.heap.size)
    have HA := Lib.hid ha
    clear ha
    go_wp2_with fail
    go_ret2
    exact ⟨_, by rw [HA.out]; rfl, by rw [HX.out]; exact HO.out, hbb⟩
  | true =>
    have hnn := areR_nn ha
    obtain ⟨m, rfl⟩ := Int.eq_ofNat_of_zero_le hnn.1
    have hm6 : m ≤ 6 := by omega
    have HX : Hid (shortRules (m : Int) l = shortOf m l) := Lib.hid (by rw [shortRules, if_pos ha, Int.toNat_natCast])
    have HB := impl_closureBase m hm6 111 #[.pointer (some ⟨w.heap.size, 0, none⟩)] (clN m l) (clN_ok ha) p.w (enters_of Try.func111 (by kernel_rfl) rfl) (fun q x hx => by
      have := short_fn (.slice aa l.length ca) l (x : Int) B w.heap.size q.w (HR1.out.below (p.h.trans (q.h.mono p.size)) hBW) (Nat.le_trans hBW (up p q).size) (k0 (up p q))
      rw [closedBy_N ha hx] at this
      exact this)
    rw [short_all hm6, ← HX.out] at HB
    have HBH := Lib.hid HB
    have HA := Lib.hid ha
    clear ha hnn HB HR1 HX
    go_wp2_with fail
    refine HBH.out.mono ?_
    rintro e w2 ⟨u, rfl, o, b2⟩
    have hb2 := hbb.trans (b2.mono (by omega))
    have HO := Lib.hid (o.mono (lo' := w.heap.size) (by omega) (Nat.le_refl _))
    clear o b2
    go_wp2_with fail
    go_ret2
    exact ⟨_, by rw [HA.out]; rfl, HO.out, hb2⟩
end Go.Proofs.Ytgkoggajdhibdaa.Infer
