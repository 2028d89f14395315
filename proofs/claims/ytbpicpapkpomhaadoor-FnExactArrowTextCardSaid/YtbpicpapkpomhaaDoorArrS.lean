/-
  Chapter 8 of the model: DownArrows, UpArrows, DoubleArrows, IsIrreducibleObject, IsIrreducibleAttribute.
-/
import Derived.Test.YtbpicpapkpomhaaDoorRedS2
import Derived.Test.YtbpicpapkpomhaaDoorArrI
namespace Go.Proofs.YtbpicpapkpomhaaDoor.Ctx
open Go Go.RowKit Mem Sets Elems Tab
set_option maxRecDepth 100000

set_option maxHeartbeats 4000000 in
theorem l8Down (a : Int) (v : Value) (rs : List Int) (n : Nat) (B : Nat) (w : World) (hr : Reads w B v (ints rs)) (hB : B ≤ w.heap.size) (hc : isCtx a rs = true) (hn : n < rs.length) :
    Calls Tryd.prog 38 #[ctx a v, .int .i64 n] w fun e w' => e = .returned (.int .i64 (downN a rs n : Nat)) ∧ Below w.heap.size w w' := by
  obtain ⟨_, aa, ca, rfl, hcells⟩ := hr
  simp only [ints, List.length_map] at hcells ⊢
  obtain ⟨bk, o, rfl, hb, gca⟩ := hcells (by intro h; simp at h; subst h; simp at hn)
  have hW := (Below.refl w.heap.size w).alloc (Nat.le_refl _) (.cells #[.int .i64 a, .slice (some ⟨bk, o, none⟩) rs.length ca] 26)
  have q0 : (w.alloc (.cells #[.int .i64 a, .slice (some ⟨bk, o, none⟩) rs.length ca] 26)).cell? ⟨w.heap.size, 0, none⟩ = some (.int .i64 a) := by simp
  have q1 : (w.alloc (.cells #[.int .i64 a, .slice (some ⟨bk, o, none⟩) rs.length ca] 26)).cell? ⟨w.heap.size, 1, none⟩ = some (.slice (some ⟨bk, o, none⟩) rs.length ca) := by simp
  have hz : w.heap.size < (w.alloc (.cells #[.int .i64 a, .slice (some ⟨bk, o, none⟩) rs.length ca] 26)).heap.size := by simp
  have HD : Hid (∀ j, j < rs.length → (w.alloc (.cells #[.int .i64 a, .slice (some ⟨bk, o, none⟩) rs.length ca] 26)).cell? ⟨bk, o + j, none⟩ = some (.int .i64 (rs.getD j 0))) := Lib.hid fun j hj => by rw [World.cell?_alloc_lt _ _ _ (by show bk < _; omega), gca j hj, ints_get rs j hj]
  clear gca hcells
  go_enter Tryd.func38, Tryd.ntmps38
  go_upto_region 1 with fail
  generalize w.alloc (.cells #[.int .i64 a, .slice (some ⟨bk, o, none⟩) rs.length ca] 26) = W at hW q0 q1 hz HD ⊢
  have hbW : bk < W.heap.size := by omega
  have HRW := Lib.hid (row_le hc)
  have hp := isCtx_parts hc
  have hl8 := hp.2.2.1
  have HBW := Lib.hid hW
  have hxn := HRW.out n
  have cn := HD.out n hn
  have HF := Lib.hid fun p : Past W => p.ofSame (spec_full a p.w)
  rw [full_nat hp.1 (by omega)] at HF
  have hsub : ((fullA a : Nat) : Int) - rs.getD n 0 = ((fullA a - (rs.getD n 0).toNat : Nat) : Int) := by
    obtain ⟨m, hm, hlt, -, -⟩ := isSet_to_nat (isCtx_mem hc (getD_mem hn))
    rw [hm, Int.toNat_natCast]; show ((2 ^ a.toNat - 1 : Nat) : Int) - (m : Int) = ((2 ^ a.toNat - 1 - m : Nat) : Int)
    omega
  have hf : fullA a < 256 := fullA_256 hc
  change Hid (∀ p : Past W, Calls _ _ _ _ fun e w' => e = .returned (.int .i64 ((fullA a : Nat) : Int)) ∧ ∃ q : Past W, w' = q.w) at HF
  have HX : Hid (downN a rs n = cpTo (fullA a - (rs.getD n 0).toNat) (rs.getD n 0) rs rs.length) := Lib.hid rfl
  have HY := Lib.hid fun k => cpTo_yes (f := fullA a - (rs.getD n 0).toNat) (x := rs.getD n 0) (xs := rs) (k := k)
  have HN := Lib.hid fun k => cpTo_no (f := fullA a - (rs.getD n 0).toNat) (x := rs.getD n 0) (xs := rs) (k := k)
  have H0 : Hid (fullA a - (rs.getD n 0).toNat = cpTo (fullA a - (rs.getD n 0).toNat) (rs.getD n 0) rs 0) := Lib.hid rfl
  have hf2 : fullA a - (rs.getD n 0).toNat < 256 := by omega
  generalize fullA a - (rs.getD n 0).toNat = f at HX HY HN H0 hsub hf2
  generalize rs.getD n 0 = x at *
  generalize fullA a = fa at HF hsub hf
  have kn := fun p : Past W => Past.cell cn (by show bk < _; omega) p
  have k0 := fun p : Past W => Past.cell q0 (by show w.heap.size < _; omega) p
  have k1 := fun p : Past W => Past.cell q1 (by show w.heap.size < _; omega) p
  have HSUB := Lib.hid hsub
  clear hp hc cn q0 q1 hW hsub
  refine wp_region_past (by kernel_rfl) (by kernel_rfl) ?_
  repeat (go_big_quiet_step (first | with_reducible exact HF.out _))
  refine wpQuiet_nil ?_
  rintro _ ⟨p, rfl⟩
  go_wp2_with fail
  go_loopw [5, 6] (fun t i wr => ∃ k c : Nat, k ≤ rs.length ∧ i = .int .i64 k ∧ t = .int .i64 c ∧ c < 256 ∧ Hid (c = cpTo f x rs k) ∧ ∃ p : Past W, wr = p.w) (fun _ i _ => rs.length - (intOf i).toNat)
  case atStart => exact ⟨0, f, Nat.zero_le _, rfl, by rw [HSUB.out], hf2, H0, p, rfl⟩
  case round =>
    obtain ⟨k, c, hk, rfl, rfl, hc, HC, p, rfl⟩ := hrel
    have kp := k1 p
    by_cases hlt : k < rs.length
    · have ck := fun q : Past W => Past.cell (HD.out k hlt) (by show bk < _; omega) q
      have hy := HRW.out k
      have hY := Lib.hid (HY.out k)
      have hN := Lib.hid (HN.out k)
      generalize rs.getD k 0 = y at ck hy hY hN
      have hra := row_and y x hy hxn
      by_cases hyx : y = x
      · have d0 : (y != x) = false := by simp [hyx]
        have HST := Lib.hid (hN.out (fun h => h.1 hyx))
        clear hyx hra
        go_wp2_with fail
        refine wp_region_pastIn p (by kernel_rfl) (by kernel_rfl) ?_
        repeat (go_big_quiet_step (fail))
        refine wpQuiet_nil ?_
        rintro _ ⟨p2, rfl⟩
        go_wp2_with fail
        go_roundw
        case rel => exact ⟨k + 1, c, by omega, by simp, rfl, hc, Lib.hid (by rw [HST.out, ← HC.out]), p2, rfl⟩
        case measure => simp [intOf]; omega
      · have d0 : (y != x) = true := by simp [hyx]
        by_cases hs : y.toNat &&& x.toNat = x.toNat
        · have HST := Lib.hid (hY.out ⟨hyx, hs⟩)
          rw [decide_eq_true hs] at hra
          clear hyx hs
          go_wp2_with fail
          refine wp_region_pastIn p (by kernel_rfl) (by kernel_rfl) ?_
          repeat (go_big_quiet_step (fail))
          refine wpQuiet_nil ?_
          rintro _ ⟨p2, rfl⟩
          have kp2 := k1 p2
          have cp2 := ck p2
          go_wp2_with fail
          go_roundw
          case rel => exact ⟨k + 1, c &&& y.toNat, by omega, by simp, by rw [and_row c y hc hy], and_lt c _ hc, Lib.hid (by rw [HST.out, ← HC.out]), p2, rfl⟩
          case measure => simp [intOf]; omega
        · have HST := Lib.hid (hN.out (fun h => hs h.2))
          rw [decide_eq_false hs] at hra
          clear hyx hs
          go_wp2_with fail
          refine wp_region_pastIn p (by kernel_rfl) (by kernel_rfl) ?_
          repeat (go_big_quiet_step (fail))
          refine wpQuiet_nil ?_
          rintro _ ⟨p2, rfl⟩
          go_wp2_with fail
          go_roundw
          case rel => exact ⟨k + 1, c, by omega, by simp, rfl, hc, Lib.hid (by rw [HST.out, ← HC.out]), p2, rfl⟩
          case measure => simp [intOf]; omega
    · have HK := Lib.hid (show k = rs.length by omega)
      have hbb := HBW.out.trans (p.h.mono (by omega))
      go_wp2_with fail
      go_ret
      exact ⟨by rw [HX.out, HC.out, HK.out]; rfl, hbb⟩
/-- Is what an attribute asks of the first n columns there? -/
def upF (a : Int) (rs : List Int) (g m : Nat) : Nat → Bool
  | 0 => !bit (rs.getD g 0) m
  | n + 1 => upF a rs g m n && (((((colTo rs n rs.length : Nat) : Int) == ((colTo rs m rs.length : Nat) : Int)) || bits .and .i64 ((colTo rs n rs.length : Nat) : Int) ((colTo rs m rs.length : Nat) : Int) != ((colTo rs m rs.length : Nat) : Int)) || bit ((colTo rs n rs.length : Nat) : Int) g)
theorem upF_B {a : Int} {rs : List Int} (hc : isCtx a rs = true) {g : Nat} (hg : g < rs.length) (m : Nat) : upF a rs g m a.toNat = upB a rs g m := by
  have hcl : ∀ m : Nat, colTo rs m rs.length < 256 := fun m => Nat.lt_of_lt_of_le (colTo_lt rs m rs.length) (pow_le8 (isCtx_parts hc).2.2.1)
  unfold upB
  generalize a.toNat = n
  induction n with
  | zero => simp [upF]
  | succ n ih =>
    rw [List.range_succ, List.all_append, ← Bool.and_assoc, ← ih, upF]
    congr 1
    have hb : bit ((colTo rs n rs.length : Nat) : Int) g = bit (rs.getD g 0) n := by
      show (((colTo rs n rs.length : Nat) : Int)).toNat.testBit g = _
      rw [Int.toNat_natCast, Bool.eq_iff_iff, colbit]; simp [hg]
    rw [hb, and_nat _ _ (hcl n) (hcl m)]
    simp only [List.all_cons, List.all_nil, Bool.and_true]
    congr 1
    congr 1
    · rw [Bool.eq_iff_iff]; simp only [beq_iff_eq, decide_eq_true_eq]; omega
    · rw [Bool.eq_iff_iff]; simp only [bne_iff_ne, Bool.not_eq_true', decide_eq_false_iff_not]; omega
set_option maxHeartbeats 8000000 in
theorem l8Up (a : Int) (v : Value) (rs : List Int) (n : Nat) (B : Nat) (w : World) (hr : Reads w B v (ints rs)) (hB : B ≤ w.heap.size) (hc : isCtx a rs = true) (hn : n < rs.length) :
    Calls Tryd.prog 39 #[ctx a v, .int .i64 n] w fun e w' => e = .returned (.int .i64 (upN a rs n : Nat)) ∧ Below w.heap.size w w' := by
  obtain ⟨aa, ca, rfl⟩ := reads_form hr
  have hW := (Below.refl w.heap.size w).alloc (Nat.le_refl _) (.cells #[.int .i64 a, .slice aa rs.length ca] 26)
  have HR1 := Lib.hid (hr.below hW hB)
  have q0 : (w.alloc (.cells #[.int .i64 a, .slice aa rs.length ca] 26)).cell? ⟨w.heap.size, 0, none⟩ = some (.int .i64 a) := by simp
  have q1 : (w.alloc (.cells #[.int .i64 a, .slice aa rs.length ca] 26)).cell? ⟨w.heap.size, 1, none⟩ = some (.slice aa rs.length ca) := by simp
  have hz : w.heap.size < (w.alloc (.cells #[.int .i64 a, .slice aa rs.length ca] 26)).heap.size := by simp
  clear hr
  go_enter Tryd.func39, Tryd.ntmps39
  go_upto_region 1 with fail
  generalize w.alloc (.cells #[.int .i64 a, .slice aa rs.length ca] 26) = W at HR1 hW q0 q1 hz ⊢
  have hBW : B ≤ W.heap.size := by omega
  obtain ⟨_, _, _, hv, hcells⟩ := HR1.out
  injection hv with e1 e2 e3
  subst e1 e3
  clear e2
  obtain ⟨bk, o, rfl, hb, gca⟩ := hcells (by intro h; simp [ints] at h; subst h; simp at hn)
  have HD := Lib.hid ((gca n (by simpa [ints] using hn)).trans (ints_get rs n hn))
  clear gca hcells
  have hxn := row_le hc n
  have hp := isCtx_parts hc
  have HC := Lib.hid fun (p : Past W) (m : Nat) (hm : m < a.toNat) => p.of (l3Column a (.slice (some ⟨bk, o, none⟩) rs.length ca) rs m B p.w (Past.reads HR1.out hBW p) (Nat.le_trans hBW p.size) hc (by omega))
  have hn7 : (0 : Int) ≤ (n : Int) ∧ (n : Int) ≤ 7 := by omega
  have HH := Lib.hid fun (m : Nat) (hm : m < a.toNat) (w : World) => l2Has (rs.getD n 0) m (by omega) hxn w
  have HB := Lib.hid fun (m : Nat) (w : World) => l2Has ((colTo rs m rs.length : Nat) : Int) n hn7 (by have := Nat.lt_of_lt_of_le (colTo_lt rs m rs.length) (pow_le8 hp.2.2.1); omega) w
  have k0 := fun p : Past W => Past.cell q0 (by show w.heap.size < _; omega) p
  have k1 := fun p : Past W => Past.cell q1 (by show w.heap.size < _; omega) p
  have kn := fun p : Past W => Past.cell HD.out (by show bk < _; omega) p
  have HBW := Lib.hid hW
  have HY := Lib.hid fun m => upTo_yes (a := a) (rs := rs) (g := n) (m := m)
  have HN := Lib.hid fun m => upTo_no (a := a) (rs := rs) (g := n) (m := m)
  have HF := Lib.hid fun m => upF_B hc hn m
  have HS : Hid (∀ m k, upF a rs n m (k + 1) = (upF a rs n m k && (((((colTo rs k rs.length : Nat) : Int) == ((colTo rs m rs.length : Nat) : Int)) || bits .and .i64 ((colTo rs k rs.length : Nat) : Int) ((colTo rs m rs.length : Nat) : Int) != ((colTo rs m rs.length : Nat) : Int)) || bit ((colTo rs k rs.length : Nat) : Int) n))) := Lib.hid fun m k => rfl
  have H0 : Hid (∀ m : Nat, upF a rs n m 0 = !bit (rs.getD n 0) m) := Lib.hid fun m => rfl
  have ha := hp.1
  have ha6 := hp.2.1
  have hnl := hn
  have hl8 := hp.2.2.1
  generalize upF a rs n = F at HF HS H0
  obtain ⟨col, hcol⟩ : ∃ col : Nat → Nat, (fun m : Nat => colTo rs (m : Int) rs.length) = col := ⟨_, rfl⟩
  have hcol' : ∀ m : Nat, colTo rs (m : Int) rs.length = col m := fun m => congrFun hcol m
  simp only [hcol'] at HC HB HS
  generalize rs.getD n 0 = x at hxn HH kn H0
  clear hc hp HD q0 q1 hW hcol hcol'
  go_wp2_with fail
  go_loopw [5, 6] (fun t i wr => ∃ m c : Nat, m ≤ a.toNat ∧ i = .int .i64 m ∧ t = .int .i64 c ∧ c < 256 ∧ Hid (c = upTo a rs n m) ∧ ∃ p : Past W, wr = p.w) (fun _ i _ => a.toNat - (intOf i).toNat)
  case atStart => exact ⟨0, 0, Nat.zero_le _, rfl, rfl, by omega, Lib.hid rfl, Past.start W, rfl⟩
  case round =>
    obtain ⟨m, c, hm, rfl, rfl, hc, HCc, p, rfl⟩ := hrel
    have kp0 := k0 p
    have kp1 := k1 p
    by_cases hlt : m < a.toNat
    · have hma : (m : Int) < a := by omega
      have HC1 := Lib.hid (HC.out p m hlt)
      have HH1 := Lib.hid (HH.out m hlt)
      go_wp2_with fail
      refine HC1.out.mono ?_
      rintro e _ ⟨rfl, p2, rfl⟩
      have kq0 := k0 p2
      have kq1 := k1 p2
      have kqn := kn p2
      go_wp2_with fail
      refine (HH1.out _).mono ?_
      rintro e w' ⟨rfl, hw⟩
      subst w'
      go_wp2_with fail
      go_loopw [8, 9] (fun t i wr => ∃ (k : Nat) (f : Bool), k ≤ a.toNat ∧ i = .int .i64 k ∧ t = .bool f ∧ Hid (f = F m k) ∧ ∃ p : Past W, wr = p.w) (fun _ i _ => a.toNat - (intOf i).toNat)
      case atStart => exact ⟨0, _, Nat.zero_le _, rfl, rfl, Lib.hid (H0.out m).symm, p2, rfl⟩
      case round =>
        obtain ⟨k, f, hk, rfl, rfl, HFk, p3, rfl⟩ := hrel
        have kr0 := k0 p3
        have kr1 := k1 p3
        by_cases hkt : k < a.toNat
        · have hka : (k : Int) < a := by omega
          have HC2 := Lib.hid (HC.out p3 k hkt)
          have HB2 := Lib.hid (HB.out k)
          have HS2 := Lib.hid (HS.out m k)
          rw [← HFk.out] at HS2
          have hxk : Hid (∀ q : Past W, ∃ u : Bool, (((col k : Nat) : Int) == ((col m : Nat) : Int)) = u) := Lib.hid fun _ => ⟨_, rfl⟩
          obtain ⟨u, hu⟩ := hxk.out p3
          obtain ⟨d, hd⟩ : ∃ d : Bool, (bits .and .i64 ((col k : Nat) : Int) ((col m : Nat) : Int) != ((col m : Nat) : Int)) = d := ⟨_, rfl⟩
          obtain ⟨b, hb⟩ : ∃ b : Bool, bit ((col k : Nat) : Int) n = b := ⟨_, rfl⟩
          rw [hu, hd, hb] at HS2
          rw [hb] at HB2
          clear hxk hb
          go_wp2_with fail
          refine HC2.out.mono ?_
          rintro e _ ⟨rfl, p4, rfl⟩
          cases f with
          | false =>
            go_wp2_with fail
            go_roundw
            case rel => exact ⟨k + 1, false, by omega, by simp, rfl, Lib.hid (by rw [HS2.out]; rfl), p4, rfl⟩
            case measure => simp [intOf]; omega
          | true =>
            cases u with
            | true =>
              go_wp2_with fail
              go_roundw
              case rel => exact ⟨k + 1, true, by omega, by simp, rfl, Lib.hid (by rw [HS2.out]; rfl), p4, rfl⟩
              case measure => simp [intOf]; omega
            | false =>
              cases d with
              | true =>
                go_wp2_with fail
                go_roundw
                case rel => exact ⟨k + 1, true, by omega, by simp, rfl, Lib.hid (by rw [HS2.out]; rfl), p4, rfl⟩
                case measure => simp [intOf]; omega
              | false =>
                go_wp2_with fail
                refine (HB2.out _).mono ?_
                rintro e w' ⟨rfl, hw⟩
                subst w'
                go_wp2_with fail
                go_roundw
                case rel => exact ⟨k + 1, b, by omega, by simp, rfl, Lib.hid (by rw [HS2.out]; cases b <;> rfl), p4, rfl⟩
                case measure => simp [intOf]; omega
        · have HKa := Lib.hid (show k = a.toNat by omega)
          have HFB := Lib.hid (HF.out m)
          rw [← HKa.out, ← HFk.out] at HFB
          cases f with
          | false =>
            have HST := Lib.hid (HN.out m HFB.out.symm)
            go_wp2_with fail
            go_roundw
            case rel => exact ⟨m + 1, c, by omega, by simp, rfl, hc, Lib.hid (by rw [HST.out, ← HCc.out]), p3, rfl⟩
            case measure => simp [intOf]; omega
          | true =>
            have HST := Lib.hid (HY.out m HFB.out.symm)
            go_wp2_with fail
            go_roundw
            case rel => exact ⟨m + 1, c ||| 2 ^ m, by omega, by simp, by rw [or_pow c m hc (by omega)], Nat.or_lt_two_pow (n := 8) hc (Nat.pow_lt_pow_right (by omega) (by omega)), Lib.hid (by rw [HST.out, ← HCc.out]), p3, rfl⟩
            case measure => simp [intOf]; omega
    · have HK := Lib.hid (show m = a.toNat by omega)
      have hbb := HBW.out.trans (p.h.mono (by omega))
      go_wp2_with fail
      go_ret
      exact ⟨by rw [HCc.out, HK.out]; rfl, hbb⟩
set_option maxHeartbeats 1600000 in
theorem spec_down (a : Int) (v : Value) (rs : List Int) (g : Int) (B : Nat) (w : World) (hr : Reads w B v (ints rs)) (hB : B ≤ w.heap.size) :
    Calls Tryd.prog 10 #[ctx a v, .int .i64 g] w fun e w' => e = .returned (.int .i64 (downOf a rs g : Nat)) ∧ Below w.heap.size w w' := by
  obtain ⟨aa, ca, rfl⟩ := reads_form hr
  have hW := (Below.refl w.heap.size w).alloc (Nat.le_refl _) (.cells #[.int .i64 a, .slice aa rs.length ca] 26)
  have HR1 := Lib.hid (hr.below hW hB)
  have q0 : (w.alloc (.cells #[.int .i64 a, .slice aa rs.length ca] 26)).cell? ⟨w.heap.size, 0, none⟩ = some (.int .i64 a) := by simp
  have q1 : (w.alloc (.cells #[.int .i64 a, .slice aa rs.length ca] 26)).cell? ⟨w.heap.size, 1, none⟩ = some (.slice aa rs.length ca) := by simp
  have hz : w.heap.size < (w.alloc (.cells #[.int .i64 a, .slice aa rs.length ca] 26)).heap.size := by simp
  clear hr
  go_enter Tryd.func10, Tryd.ntmps10
  go_wp2_with fail
  generalize w.alloc (.cells #[.int .i64 a, .slice aa rs.length ca] 26) = W at HR1 hW q0 q1 hz ⊢
  have hBW : B ≤ W.heap.size := by omega
  have k0 := fun p : Past W => Past.cell q0 (by show w.heap.size < _; omega) p
  have k1 := fun p : Past W => Past.cell q1 (by show w.heap.size < _; omega) p
  have HBW := Lib.hid hW
  clear q0 q1 hW
  refine ((Past.start W).of (spec_isCtx a _ rs B W HR1.out hBW)).mono ?_
  rintro e _ ⟨rfl, p, rfl⟩
  have p0 := k0 p
  have p1 := k1 p
  cases hic : isCtx a rs with
  | false =>
    have HX : Hid (downOf a rs g = 0) := Lib.hid (by rw [downOf, if_neg (by simp [hic])])
    have hbb := HBW.out.trans (p.h.mono (by omega))
    clear hic
    go_wp2_with fail
    go_ret
    exact ⟨by rw [HX.out]; rfl, hbb⟩
  | true =>
    have hl8 := (isCtx_parts hic).2.2.1
    go_wp2_with fail
    refine (l1In g 0 (rs.length - 1) _).mono ?_
    rintro e w' ⟨rfl, hw⟩
    subst w'
    by_cases hg : 0 ≤ g ∧ g ≤ (rs.length : Int) - 1
    · rw [decide_eq_true hg]
      obtain ⟨n, rfl⟩ := Int.eq_ofNat_of_zero_le hg.1
      have hn : n < rs.length := by omega
      have HX : Hid (downOf a rs n = downN a rs n) := Lib.hid (by rw [downOf, if_pos ⟨hic, by omega, by omega⟩, Int.toNat_natCast])
      have HC := Lib.hid (p.of (l8Down a (.slice aa rs.length ca) rs n B p.w (Past.reads HR1.out hBW p) (Nat.le_trans hBW p.size) hic hn))
      clear hic hg
      go_wp2_with fail
      refine HC.out.mono ?_
      rintro e _ ⟨rfl, p2, rfl⟩
      have hbb := HBW.out.trans (p2.h.mono (by omega))
      go_wp2_with fail
      go_ret
      exact ⟨by rw [HX.out]; rfl, hbb⟩
    · rw [decide_eq_false hg]
      have HX : Hid (downOf a rs g = 0) := Lib.hid (by rw [downOf, if_neg (fun h => hg ⟨h.2.1, by omega⟩)])
      have hbb := HBW.out.trans (p.h.mono (by omega))
      clear hg hic
      go_wp2_with fail
      go_ret
      exact ⟨by rw [HX.out]; rfl, hbb⟩
set_option maxHeartbeats 1600000 in
theorem spec_up (a : Int) (v : Value) (rs : List Int) (g : Int) (B : Nat) (w : World) (hr : Reads w B v (ints rs)) (hB : B ≤ w.heap.size) :
    Calls Tryd.prog 11 #[ctx a v, .int .i64 g] w fun e w' => e = .returned (.int .i64 (upOf a rs g : Nat)) ∧ Below w.heap.size w w' := by
  obtain ⟨aa, ca, rfl⟩ := reads_form hr
  have hW := (Below.refl w.heap.size w).alloc (Nat.le_refl _) (.cells #[.int .i64 a, .slice aa rs.length ca] 26)
  have HR1 := Lib.hid (hr.below hW hB)
  have q0 : (w.alloc (.cells #[.int .i64 a, .slice aa rs.length ca] 26)).cell? ⟨w.heap.size, 0, none⟩ = some (.int .i64 a) := by simp
  have q1 : (w.alloc (.cells #[.int .i64 a, .slice aa rs.length ca] 26)).cell? ⟨w.heap.size, 1, none⟩ = some (.slice aa rs.length ca) := by simp
  have hz : w.heap.size < (w.alloc (.cells #[.int .i64 a, .slice aa rs.length ca] 26)).heap.size := by simp
  clear hr
  go_enter Tryd.func11, Tryd.ntmps11
  go_wp2_with fail
  generalize w.alloc (.cells #[.int .i64 a, .slice aa rs.length ca] 26) = W at HR1 hW q0 q1 hz ⊢
  have hBW : B ≤ W.heap.size := by omega
  have k0 := fun p : Past W => Past.cell q0 (by show w.heap.size < _; omega) p
  have k1 := fun p : Past W => Past.cell q1 (by show w.heap.size < _; omega) p
  have HBW := Lib.hid hW
  clear q0 q1 hW
  refine ((Past.start W).of (spec_isCtx a _ rs B W HR1.out hBW)).mono ?_
  rintro e _ ⟨rfl, p, rfl⟩
  have p0 := k0 p
  have p1 := k1 p
  cases hic : isCtx a rs with
  | false =>
    have HX : Hid (upOf a rs g = 0) := Lib.hid (by rw [upOf, if_neg (by simp [hic])])
    have hbb := HBW.out.trans (p.h.mono (by omega))
    clear hic
    go_wp2_with fail
    go_ret
    exact ⟨by rw [HX.out]; rfl, hbb⟩
  | true =>
    have hl8 := (isCtx_parts hic).2.2.1
    go_wp2_with fail
    refine (l1In g 0 (rs.length - 1) _).mono ?_
    rintro e w' ⟨rfl, hw⟩
    subst w'
    by_cases hg : 0 ≤ g ∧ g ≤ (rs.length : Int) - 1
    · rw [decide_eq_true hg]
      obtain ⟨n, rfl⟩ := Int.eq_ofNat_of_zero_le hg.1
      have hn : n < rs.length := by omega
      have HX : Hid (upOf a rs n = upN a rs n) := Lib.hid (by rw [upOf, if_pos ⟨hic, by omega, by omega⟩, Int.toNat_natCast])
      have HC := Lib.hid (p.of (l8Up a (.slice aa rs.length ca) rs n B p.w (Past.reads HR1.out hBW p) (Nat.le_trans hBW p.size) hic hn))
      clear hic hg
      go_wp2_with fail
      refine HC.out.mono ?_
      rintro e _ ⟨rfl, p2, rfl⟩
      have hbb := HBW.out.trans (p2.h.mono (by omega))
      go_wp2_with fail
      go_ret
      exact ⟨by rw [HX.out]; rfl, hbb⟩
    · rw [decide_eq_false hg]
      have HX : Hid (upOf a rs g = 0) := Lib.hid (by rw [upOf, if_neg (fun h => hg ⟨h.2.1, by omega⟩)])
      have hbb := HBW.out.trans (p.h.mono (by omega))
      clear hg hic
      go_wp2_with fail
      go_ret
      exact ⟨by rw [HX.out]; rfl, hbb⟩
set_option maxHeartbeats 1600000 in
theorem spec_irrO (a : Int) (v : Value) (rs : List Int) (g : Int) (B : Nat) (w : World) (hr : Reads w B v (ints rs)) (hB : B ≤ w.heap.size) :
    Calls Tryd.prog 17 #[ctx a v, .int .i64 g] w fun e w' => e = .returned (.bool (irrO a rs g)) ∧ Below w.heap.size w w' := by
  obtain ⟨aa, ca, rfl⟩ := reads_form hr
  have hW := (Below.refl w.heap.size w).alloc (Nat.le_refl _) (.cells #[.int .i64 a, .slice aa rs.length ca] 26)
  have HR1 := Lib.hid (hr.below hW hB)
  have q0 : (w.alloc (.cells #[.int .i64 a, .slice aa rs.length ca] 26)).cell? ⟨w.heap.size, 0, none⟩ = some (.int .i64 a) := by simp
  have q1 : (w.alloc (.cells #[.int .i64 a, .slice aa rs.length ca] 26)).cell? ⟨w.heap.size, 1, none⟩ = some (.slice aa rs.length ca) := by simp
  have hz : w.heap.size < (w.alloc (.cells #[.int .i64 a, .slice aa rs.length ca] 26)).heap.size := by simp
  clear hr
  go_enter Tryd.func17, Tryd.ntmps17
  go_wp2_with fail
  generalize w.alloc (.cells #[.int .i64 a, .slice aa rs.length ca] 26) = W at HR1 hW q0 q1 hz ⊢
  have hBW : B ≤ W.heap.size := by omega
  have k0 := fun p : Past W => Past.cell q0 (by show w.heap.size < _; omega) p
  have k1 := fun p : Past W => Past.cell q1 (by show w.heap.size < _; omega) p
  have HBW := Lib.hid hW
  clear q0 q1 hW
  have H2 := Lib.hid fun p : Past W => p.of (spec_redO a _ rs g B p.w (Past.reads HR1.out hBW p) (Nat.le_trans hBW p.size))
  refine ((Past.start W).of (spec_isCtx a _ rs B W HR1.out hBW)).mono ?_
  rintro e _ ⟨rfl, p, rfl⟩
  have p0 := k0 p
  have p1 := k1 p
  cases hic : isCtx a rs with
  | false =>
    have HX : Hid (irrO a rs g = false) := Lib.hid (by rw [irrO, hic]; rfl)
    have hbb := HBW.out.trans (p.h.mono (by omega))
    clear hic
    go_wp2_with fail
    go_ret
    exact ⟨by rw [HX.out]; rfl, hbb⟩
  | true =>
    have hl8 := (isCtx_parts hic).2.2.1
    have h6 := (isCtx_parts hic).2.1
    have h0 := (isCtx_parts hic).1
    go_wp2_with fail
    refine (l1In g 0 ((rs.length : Int) - 1) _).mono ?_
    rintro e w' ⟨rfl, hw⟩
    subst w'
    by_cases hg : 0 ≤ g ∧ g ≤ ((rs.length : Int) : Int) - 1
    · rw [decide_eq_true hg]
      have HX : Hid (irrO a rs g = !redO a rs g) := Lib.hid (by rw [irrO, hic, decide_eq_true ⟨hg.1, by omega⟩]; rfl)
      generalize redO a rs g = r at HX H2
      clear hic hg
      go_wp2_with fail
      refine (H2.out p).mono ?_
      rintro e _ ⟨rfl, p2, rfl⟩
      have hbb := HBW.out.trans (p2.h.mono (by omega))
      go_wp2_with fail
      go_ret
      exact ⟨by rw [HX.out]; rfl, hbb⟩
    · rw [decide_eq_false hg]
      have HX : Hid (irrO a rs g = false) := Lib.hid (by rw [irrO, decide_eq_false (fun h => hg ⟨h.1, by omega⟩), Bool.and_false]; rfl)
      have hbb := HBW.out.trans (p.h.mono (by omega))
      clear hg hic
      go_wp2_with fail
      go_ret
      exact ⟨by rw [HX.out]; rfl, hbb⟩
set_option maxHeartbeats 1600000 in
theorem spec_irrA (a : Int) (v : Value) (rs : List Int) (g : Int) (B : Nat) (w : World) (hr : Reads w B v (ints rs)) (hB : B ≤ w.heap.size) :
    Calls Tryd.prog 19 #[ctx a v, .int .i64 g] w fun e w' => e = .returned (.bool (irrA a rs g)) ∧ Below w.heap.size w w' := by
  obtain ⟨aa, ca, rfl⟩ := reads_form hr
  have hW := (Below.refl w.heap.size w).alloc (Nat.le_refl _) (.cells #[.int .i64 a, .slice aa rs.length ca] 26)
  have HR1 := Lib.hid (hr.below hW hB)
  have q0 : (w.alloc (.cells #[.int .i64 a, .slice aa rs.length ca] 26)).cell? ⟨w.heap.size, 0, none⟩ = some (.int .i64 a) := by simp
  have q1 : (w.alloc (.cells #[.int .i64 a, .slice aa rs.length ca] 26)).cell? ⟨w.heap.size, 1, none⟩ = some (.slice aa rs.length ca) := by simp
  have hz : w.heap.size < (w.alloc (.cells #[.int .i64 a, .slice aa rs.length ca] 26)).heap.size := by simp
  clear hr
  go_enter Tryd.func19, Tryd.ntmps19
  go_wp2_with fail
  generalize w.alloc (.cells #[.int .i64 a, .slice aa rs.length ca] 26) = W at HR1 hW q0 q1 hz ⊢
  have hBW : B ≤ W.heap.size := by omega
  have k0 := fun p : Past W => Past.cell q0 (by show w.heap.size < _; omega) p
  have k1 := fun p : Past W => Past.cell q1 (by show w.heap.size < _; omega) p
  have HBW := Lib.hid hW
  clear q0 q1 hW
  have H2 := Lib.hid fun p : Past W => p.of (spec_redA a _ rs g B p.w (Past.reads HR1.out hBW p) (Nat.le_trans hBW p.size))
  refine ((Past.start W).of (spec_isCtx a _ rs B W HR1.out hBW)).mono ?_
  rintro e _ ⟨rfl, p, rfl⟩
  have p0 := k0 p
  have p1 := k1 p
  cases hic : isCtx a rs with
  | false =>
    have HX : Hid (irrA a rs g = false) := Lib.hid (by rw [irrA, hic]; rfl)
    have hbb := HBW.out.trans (p.h.mono (by omega))
    clear hic
    go_wp2_with fail
    go_ret
    exact ⟨by rw [HX.out]; rfl, hbb⟩
  | true =>
    have hl8 := (isCtx_parts hic).2.2.1
    have h6 := (isCtx_parts hic).2.1
    have h0 := (isCtx_parts hic).1
    go_wp2_with fail
    refine (l1In g 0 (a - 1) _).mono ?_
    rintro e w' ⟨rfl, hw⟩
    subst w'
    by_cases hg : 0 ≤ g ∧ g ≤ (a : Int) - 1
    · rw [decide_eq_true hg]
      have HX : Hid (irrA a rs g = !redA a rs g) := Lib.hid (by rw [irrA, hic, decide_eq_true ⟨hg.1, by omega⟩]; rfl)
      generalize redA a rs g = r at HX H2
      clear hic hg
      go_wp2_with fail
      refine (H2.out p).mono ?_
      rintro e _ ⟨rfl, p2, rfl⟩
      have hbb := HBW.out.trans (p2.h.mono (by omega))
      go_wp2_with fail
      go_ret
      exact ⟨by rw [HX.out]; rfl, hbb⟩
    · rw [decide_eq_false hg]
      have HX : Hid (irrA a rs g = false) := Lib.hid (by rw [irrA, decide_eq_false (fun h => hg ⟨h.1, by omega⟩), Bool.and_false]; rfl)
      have hbb := HBW.out.trans (p.h.mono (by omega))
      clear hg hic
      go_wp2_with fail
      go_ret
      exact ⟨by rw [HX.out]; rfl, hbb⟩
end Go.Proofs.YtbpicpapkpomhaaDoor.Ctx
