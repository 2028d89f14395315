/-
  Chapter 8 of the program: the signs of arrows.
-/
import Derived.Test.YtbpicpapkpomhaaDoorArrI
import Derived.Test.YtbpicpapkpomhaaDoorStrs
import Derived.Laws.BytesArg
import Derived.Lib.LaidTab
import Derived.WalkSpells
namespace Go.Proofs.YtbpicpapkpomhaaDoor.Ctx
open Go Go.RowKit Mem Sets Elems Tab
set_option maxRecDepth 100000

/-- What stands between an object and an attribute: 4 a cross, 3 both arrows, 1 the down one, 2 the up one, 0 nothing. -/
def knd (a : Int) (rs : List Int) (g m : Nat) : Nat :=
  if bit (rs.getD g 0) m = true then 4 else if (downN a rs g &&& upN a rs g).testBit m = true then 3 else if (downN a rs g).testBit m = true then 1 else if (upN a rs g).testBit m = true then 2 else 0
theorem knd_lt (a : Int) (rs : List Int) (g m : Nat) : knd a rs g m < 5 := by
  unfold knd
  repeat' split
  all_goals omega
/-- The signs of the kinds. -/
def signs : List Int := [46, 118, 94, 42, 120]
def lineTo (a : Int) (rs : List Int) (g k : Nat) : List UInt8 := (List.range k).map fun m => UInt8.ofNat (signs.getD (knd a rs g m) 0).toNat
def linesTo (a : Int) (rs : List Int) (k : Nat) : List (List UInt8) := (List.range k).map fun g => lineTo a rs g a.toNat
def arrText (a : Int) (rs : List Int) : List (List UInt8) := if isCtx a rs = true then linesTo a rs rs.length else []
theorem lineTo_length (a : Int) (rs : List Int) (g k : Nat) : (lineTo a rs g k).length = k := by simp [lineTo]
theorem linesTo_length (a : Int) (rs : List Int) (k : Nat) : (linesTo a rs k).length = k := by simp [linesTo]
theorem lineTo_step (a : Int) (rs : List Int) (g k : Nat) : lineTo a rs g (k + 1) = lineTo a rs g k ++ [UInt8.ofNat (signs.getD (knd a rs g k) 0).toNat] := by simp [lineTo, List.range_succ]
theorem linesTo_step (a : Int) (rs : List Int) (k : Nat) : linesTo a rs (k + 1) = linesTo a rs k ++ [lineTo a rs k a.toNat] := by simp [linesTo, List.range_succ]
theorem hasEl_nat {x m : Nat} (hx : x < 256) (hm : m ≤ 7) : hasEl (x : Int) (m : Int) = x.testBit m := by
  rw [hasEl, isSet8_true ⟨by omega, by omega⟩, decide_eq_true (by omega : 0 ≤ (m : Int) ∧ (m : Int) ≤ 7)]
  show (true && true && ((x : Int)).toNat.testBit ((m : Int)).toNat) = _
  rw [Int.toNat_natCast, Int.toNat_natCast]; rfl
theorem hasEl_row {x : Int} {m : Nat} (hx : 0 ≤ x ∧ x ≤ 255) (hm : m ≤ 7) : hasEl x (m : Int) = bit x m := by
  rw [hasEl, isSet8_true hx, decide_eq_true (by omega : 0 ≤ (m : Int) ∧ (m : Int) ≤ 7)]; rfl
set_option maxHeartbeats 1600000 in
theorem kindOf_ (a : Int) (v : Value) (rs : List Int) (n m : Nat) (B : Nat) (w : World) (hr : Reads w B v (ints rs)) (hB : B ≤ w.heap.size) (hc : isCtx a rs = true) (hn : n < rs.length) (hm : m < a.toNat) :
    Calls Tryd.prog 64 #[ctx a v, .int .i64 n, .int .i64 m] w fun e w' => e = .returned (.int .i64 (knd a rs n m : Nat)) ∧ Below w.heap.size w w' := by
  obtain ⟨_, aa, ca, rfl, hcells⟩ := id hr
  simp only [ints, List.length_map] at hcells hr ⊢
  obtain ⟨bk, o, rfl, hb, gca⟩ := hcells (by intro h; simp at h; subst h; simp at hn)
  have hp := isCtx_parts hc
  have hW := (Below.refl w.heap.size w).alloc (Nat.le_refl _) (.cells #[.int .i64 a, .slice (some ⟨bk, o, none⟩) rs.length ca] 26)
  have HR1 := Lib.hid (hr.below hW hB)
  have q0 : (w.alloc (.cells #[.int .i64 a, .slice (some ⟨bk, o, none⟩) rs.length ca] 26)).cell? ⟨w.heap.size, 0, none⟩ = some (.int .i64 a) := by simp
  have q1 : (w.alloc (.cells #[.int .i64 a, .slice (some ⟨bk, o, none⟩) rs.length ca] 26)).cell? ⟨w.heap.size, 1, none⟩ = some (.slice (some ⟨bk, o, none⟩) rs.length ca) := by simp
  have hz : w.heap.size < (w.alloc (.cells #[.int .i64 a, .slice (some ⟨bk, o, none⟩) rs.length ca] 26)).heap.size := by simp
  have cn : (w.alloc (.cells #[.int .i64 a, .slice (some ⟨bk, o, none⟩) rs.length ca] 26)).cell? ⟨bk, o + n, none⟩ = some (.int .i64 (rs.getD n 0)) := by
    rw [World.cell?_alloc_lt _ _ _ (by show bk < _; omega), gca n hn]; exact ints_get rs n hn
  have hxn := row_le hc n
  clear gca hcells hr
  obtain ⟨W, hWe⟩ : ∃ W, w.alloc (.cells #[.int .i64 a, .slice (some ⟨bk, o, none⟩) rs.length ca] 26) = W := ⟨_, rfl⟩
  rw [hWe] at HR1 hW q0 q1 hz cn
  have hBW : B ≤ W.heap.size := by omega
  have k0 := fun p : Past W => Past.cell q0 (by show w.heap.size < _; omega) p
  have k1 := fun p : Past W => Past.cell q1 (by show w.heap.size < _; omega) p
  have HBW := Lib.hid hW
  have edn : downOf a rs n = downN a rs n := by rw [downOf, if_pos ⟨hc, by omega, by omega⟩, Int.toNat_natCast]
  have eup : upOf a rs n = upN a rs n := by rw [upOf, if_pos ⟨hc, by omega, by omega⟩, Int.toNat_natCast]
  have hdl : downN a rs n < 256 := by rw [← edn]; exact downOf_lt _ _ _
  have hul : upN a rs n < 256 := by rw [← eup]; exact upOf_lt _ _ _
  have H0 := Lib.hid fun w => impl_hasEl (rs.getD n 0) m w
  rw [hasEl_row hxn (by omega)] at H0
  have H1 := Lib.hid fun p : Past W => p.of (impl_double a _ rs n B p.w (Past.reads HR1.out hBW p) (Nat.le_trans hBW p.size))
  have H2 := Lib.hid fun p : Past W => p.of (impl_down a _ rs n B p.w (Past.reads HR1.out hBW p) (Nat.le_trans hBW p.size))
  have H3 := Lib.hid fun p : Past W => p.of (impl_up a _ rs n B p.w (Past.reads HR1.out hBW p) (Nat.le_trans hBW p.size))
  rw [edn, eup] at H1
  rw [edn] at H2
  rw [eup] at H3
  have E1 := Lib.hid fun w => impl_hasEl ((downN a rs n &&& upN a rs n : Nat) : Int) m w
  have E2 := Lib.hid fun w => impl_hasEl ((downN a rs n : Nat) : Int) m w
  have E3 := Lib.hid fun w => impl_hasEl ((upN a rs n : Nat) : Int) m w
  rw [hasEl_nat (and_lt _ _ hdl) (by omega)] at E1
  rw [hasEl_nat hdl (by omega)] at E2
  rw [hasEl_nat hul (by omega)] at E3
  obtain ⟨K, hK⟩ : ∃ K, knd a rs n m = K := ⟨_, rfl⟩
  have HK := Lib.hid hK
  unfold knd at hK
  have hK2 := Lib.hid hK
  rw [HK.out]
  have HWE := Lib.hid hWe
  clear hWe
  generalize rs.getD n 0 = x at H0 cn hK2 hxn
  generalize downN a rs n &&& upN a rs n = db at H1 E1 hK2
  generalize downN a rs n = d at H2 E2 hK2
  generalize upN a rs n = u at H3 E3 hK2
  clear hK HK hW hp hc edn eup hdl hul hxn
  go_enter Tryd.func64, Tryd.ntmps64
  go_upto_region 1 with fail
  rw [HWE.out]
  go_wp2_with fail
  refine (H0.out _).mono ?_
  rintro e w' ⟨rfl, hw⟩
  subst w'
  cases b0 : bit x m with
  | true =>
    have hk : K = 4 := by have := hK2.out; rw [if_pos b0] at this; exact this.symm
    subst hk
    have hbb := HBW.out
    go_wp2_with fail
    go_ret
    exact ⟨rfl, hbb⟩
  | false =>
    have HK2 := Lib.hid (hK2.out)
    rw [if_neg (by simp [b0])] at HK2
    clear b0 hK2
    go_wp2_with fail
    refine (H1.out (Past.start W)).mono ?_
    rintro e _ ⟨rfl, p1, rfl⟩
    go_wp2_with fail
    refine (E1.out _).mono ?_
    rintro e w' ⟨rfl, hw⟩
    subst w'
    cases b1 : db.testBit m with
    | true =>
      have hk : K = 3 := by have := HK2.out; rw [if_pos b1] at this; exact this.symm
      subst hk
      have hbb := HBW.out.trans (p1.h.mono (by omega))
      go_wp2_with fail
      go_ret
      exact ⟨rfl, hbb⟩
    | false =>
      have HK3 := Lib.hid (HK2.out)
      rw [if_neg (by simp [b1])] at HK3
      clear b1 HK2
      go_wp2_with fail
      refine (H2.out p1).mono ?_
      rintro e _ ⟨rfl, p2, rfl⟩
      go_wp2_with fail
      refine (E2.out _).mono ?_
      rintro e w' ⟨rfl, hw⟩
      subst w'
      cases b2 : d.testBit m with
      | true =>
        have hk : K = 1 := by have := HK3.out; rw [if_pos b2] at this; exact this.symm
        subst hk
        have hbb := HBW.out.trans (p2.h.mono (by omega))
        go_wp2_with fail
        go_ret
        exact ⟨rfl, hbb⟩
      | false =>
        have HK4 := Lib.hid (HK3.out)
        rw [if_neg (by simp [b2])] at HK4
        clear b2 HK3
        go_wp2_with fail
        refine (H3.out p2).mono ?_
        rintro e _ ⟨rfl, p3, rfl⟩
        go_wp2_with fail
        refine (E3.out _).mono ?_
        rintro e w' ⟨rfl, hw⟩
        subst w'
        cases b3 : u.testBit m with
        | true =>
          have hk : K = 2 := by have := HK4.out; rw [if_pos b3] at this; exact this.symm
          subst hk
          have hbb := HBW.out.trans (p3.h.mono (by omega))
          go_wp2_with fail
          go_ret
          exact ⟨rfl, hbb⟩
        | false =>
          have hk : K = 0 := by have := HK4.out; rw [if_neg (by simp [b3])] at this; exact this.symm
          subst hk
          have hbb := HBW.out.trans (p3.h.mono (by omega))
          go_wp2_with fail
          go_ret
          exact ⟨rfl, hbb⟩
theorem infoB8 : (Tryd.prog.info? 5).map (fun i => (i.zero, i.size, i.bytes)) = some (some (.int .u8 0), 1, 1) := by kernel_rfl
abbrev bsv (l : List UInt8) : List Value := l.map fun b => .int .u8 (b.toNat : Int)
theorem bsv_set (xs : List UInt8) (ys : List Value) (k : Nat) (x : UInt8) (hx : xs.length = k) (hk : k < ys.length) : (bsv xs ++ ys.drop k).set k (.int .u8 (x.toNat : Int)) = bsv (xs ++ [x]) ++ ys.drop (k + 1) := by
  rw [List.set_append_right _ _ (by simp [bsv, hx]), List.drop_eq_getElem_cons hk]
  simp only [bsv, List.length_map, hx, Nat.sub_self, List.set_cons_zero, List.map_append, List.map_cons, List.map_nil, List.append_assoc, List.singleton_append]
theorem strs_set (xs : List (List UInt8)) (ys : List Value) (k : Nat) (x : List UInt8) (hx : xs.length = k) (hk : k < ys.length) : (Strs.strs xs ++ ys.drop k).set k (.string ⟨x.toArray⟩) = Strs.strs (xs ++ [x]) ++ ys.drop (k + 1) := by
  rw [List.set_append_right _ _ (by simp [Strs.strs, hx]), List.drop_eq_getElem_cons hk]
  simp only [Strs.strs, List.length_map, hx, Nat.sub_self, List.set_cons_zero, List.map_append, List.map_cons, List.map_nil, List.append_assoc, List.singleton_append]
theorem str_bsv (l : List UInt8) : strOfNums (l.map fun b => (b.toNat : Int)) = ⟨l.toArray⟩ := by
  apply ByteArray.ext
  apply Array.toList_inj.1
  rw [strOfNums_data, List.map_map]
  show _ = l
  conv => rhs; rw [← List.map_id l]
  apply List.map_congr_left
  intro b _
  simp
/-- The string of an owned row of bytes. -/
theorem conv_bsv {w : World} {base n : Nat} {v : Value} {l : List UInt8} (h : w.ownsRow base 5 1 v n (bsv l)) :
    (convert 22 9 v).run Tryd.prog w = .ok (.string ⟨l.toArray⟩) w := by
  have hl : n = l.length := by have := h.1; simp [bsv] at this; omega
  rcases h.2 with ⟨rfl, h0⟩ | ⟨g, cap, cur, rfl, _⟩
  · have : l = [] := List.length_eq_zero_iff.1 (by omega)
    subst this
    exact run_convert_bytes_nil (P := Tryd.prog) w 22 5 Tryd.underlying22 Tryd.underlying5 0 0 9 Tryd.underlying9
  · have := run_convert_bytes_arg (P := Tryd.prog) w 22 5 Tryd.underlying22 Tryd.underlying5 g 0 n cap (l.map fun b => (b.toNat : Int)) (by simp [hl]) (fun i hi => by
      rw [Nat.zero_add, h.cellAt i (by omega)]
      simp [bsv, List.getD, List.getElem?_eq_getElem (by omega : i < l.length)]) 9 Tryd.underlying9
    rw [this, str_bsv]
/-- The table of signs is there. -/
def Signs (w : World) : Prop := (∀ k, k < 5 → w.cell? ⟨0, k, none⟩ = some (.int .u8 (signs.getD k 0))) ∧ 0 < w.heap.size
theorem Signs.below {w w' : World} {B : Nat} (h : Signs w) (hb : Below B w w') (hB : 0 < B) : Signs w' :=
  ⟨fun k hk => (hb.cell (p := ⟨0, k, none⟩) hB).trans (h.1 k hk), Nat.lt_of_lt_of_le h.2 hb.size⟩
theorem Signs.past {W : World} (h : Signs W) (p : Past W) : Signs p.w := h.below p.h h.2
theorem sign_nat : ∀ K : Nat, K < 5 → signs.getD K 0 = (((UInt8.ofNat (signs.getD K 0).toNat).toNat : Nat) : Int) := by decide
set_option maxHeartbeats 1600000 in
theorem line_ (a : Int) (v : Value) (rs : List Int) (n : Nat) (B : Nat) (w : World) (hr : Reads w B v (ints rs)) (hB : B ≤ w.heap.size) (hc : isCtx a rs = true) (hn : n < rs.length) (hs : Signs w) :
    Calls Tryd.prog 41 #[ctx a v, .int .i64 n] w fun e w' => e = .returned (.string ⟨(lineTo a rs n a.toNat).toArray⟩) ∧ Below w.heap.size w w' := by
  obtain ⟨i0, hi, hz0, hz1, hz2⟩ := info_parts infoB8
  obtain ⟨aa, ca, rfl⟩ := reads_form hr
  have hp := isCtx_parts hc
  have hW := (Below.refl w.heap.size w).alloc (Nat.le_refl _) (.cells #[.int .i64 a, .slice aa rs.length ca] 26)
  have HR1 := Lib.hid (hr.below hW hB)
  have HS1 := Lib.hid (hs.below hW hs.2)
  have q0 : (w.alloc (.cells #[.int .i64 a, .slice aa rs.length ca] 26)).cell? ⟨w.heap.size, 0, none⟩ = some (.int .i64 a) := by simp
  have q1 : (w.alloc (.cells #[.int .i64 a, .slice aa rs.length ca] 26)).cell? ⟨w.heap.size, 1, none⟩ = some (.slice aa rs.length ca) := by simp
  have hz : w.heap.size < (w.alloc (.cells #[.int .i64 a, .slice aa rs.length ca] 26)).heap.size := by simp
  clear hr hs
  obtain ⟨W, hWe⟩ : ∃ W, w.alloc (.cells #[.int .i64 a, .slice aa rs.length ca] 26) = W := ⟨_, rfl⟩
  rw [hWe] at HR1 HS1 hW q0 q1 hz
  have HWE := Lib.hid hWe
  have hBW : B ≤ W.heap.size := by omega
  have k0 := fun p : Past W => Past.cell q0 (by show w.heap.size < _; omega) p
  have k1 := fun p : Past W => Past.cell q1 (by show w.heap.size < _; omega) p
  have HBW := Lib.hid hW
  obtain ⟨A, hA⟩ := Int.eq_ofNat_of_zero_le hp.1
  have hA2 : a.toNat = A := by omega
  have HK := Lib.hid fun (p : Past W) (m : Nat) (hm : m < A) => p.ofB (kindOf_ a (.slice aa rs.length ca) rs n m B p.w (Past.reads HR1.out hBW p) (Nat.le_trans hBW p.size) hc hn (by omega))
  have hA6 : A ≤ 6 := by omega
  have HL := Lib.hid fun k => lineTo_step a rs n k
  have HLL := Lib.hid fun k => lineTo_length a rs n k
  have HL0 : Hid (lineTo a rs n 0 = []) := Lib.hid rfl
  have HKL := Lib.hid fun m => knd_lt a rs n m
  rw [hA2]
  generalize lineTo a rs n = L at HL HLL HL0 ⊢
  generalize knd a rs n = K at HK HL HKL
  subst hA
  clear hp hWe hW hA2 hc
  go_enter Tryd.func41, Tryd.ntmps41
  go_upto_region 1 with fail
  rw [HWE.out]
  go_wp2_with (at_make; refine wpList_make_full _ rfl _ _ 22 rfl W.heap.size 5 i0 (.int .u8 0) 1 Tryd.underlying22 hi hz0 hz1 .i64 .i64 _ _ A rfl rfl rfl rfl (by rw [hz2]; omega) (by unfold maxLen; omega) (Nat.le_refl _) ?_; intro w0 hown0 hgrow0)
  have H0 := Lib.hid hown0
  have HG := Lib.hid hgrow0
  clear hown0 hgrow0
  have hsz : (madeCells (Value.int .u8 0).cells (A * 1)).toList.length = A := by simp [size_madeCells]
  have HSZ := Lib.hid hsz
  clear hsz
  generalize (madeCells (Value.int .u8 0).cells (A * 1)).toList = ys at H0 HSZ
  go_loopw [12] (fun i wr => ∃ k : Nat, k ≤ A ∧ i = .int .i64 k ∧ Hid (wr.ownsRow W.heap.size 5 1 (.slice (some ⟨W.heap.size, 0, none⟩) A A) A (bsv (L k) ++ ys.drop k)) ∧ ∃ p : Past W, wr = p.w) (fun i _ => A - (intOf i).toNat)
  case atStart => exact ⟨0, Nat.zero_le _, rfl, Lib.hid (by rw [HL0.out]; simpa [bsv] using H0.out), ⟨_, (Below.refl _ _).grown HG.out (Nat.le_refl _) (fun q hq => by cases hq)⟩, rfl⟩
  case round =>
    obtain ⟨k, hk, rfl, hown, p, rfl⟩ := hrel
    have kp0 := k0 p
    have kp1 := k1 p
    have hzr : W.heap.size < p.w.heap.size := (hown.out.lt _ rfl).2
    by_cases hlt : k < A
    · have HKk := Lib.hid (HK.out p k hlt)
      have hkl := HKL.out k
      have HLS := Lib.hid (HL.out k)
      have HLK := Lib.hid (HLL.out k)
      have csg := fun q : Past W => (HS1.out.past q).1 _ hkl
      have hsn := sign_nat _ hkl
      generalize UInt8.ofNat (signs.getD (K k) 0).toNat = u at HLS hsn
      simp only [hsn] at csg
      generalize K k = κ at HKk hkl csg
      generalize L k = Lk at hown HLS HLK
      clear hsn
      go_wp2_with fail
      refine HKk.out.mono ?_
      rintro e _ ⟨rfl, p2, rfl, b2⟩
      have hown2 := owns_below hown.out b2
      have hlen : (bsv Lk ++ ys.drop k).length = A := by simp [bsv, HLK.out, HSZ.out]; omega
      obtain ⟨z, c2⟩ : ∃ z, p2.w.cell? ⟨W.heap.size, k, none⟩ = some z := by
        rw [hown2.cellAt k (by omega)]
        exact ⟨_, List.getElem?_eq_getElem (by omega)⟩
      have hfz : p2.w.frozen? ⟨W.heap.size, k, none⟩ = false := hown2.frozenAt k
      have hz2' : W.heap.size < p2.w.heap.size := by have := b2.size; omega
      have st := Lib.hid (hown2.stored k (.int .u8 (u.toNat : Int)))
      have cs2 := csg p2
      clear b2 hown2 hlen
      go_wp2_with fail
      go_roundw
      case rel =>
        refine ⟨k + 1, by omega, by simp, Lib.hid ?_, ⟨_, p2.h.grown st.out.2 p2.size fun q hq => by cases hq; omega⟩, rfl⟩
        have := st.out.1
        rw [bsv_set _ _ _ _ HLK.out (by rw [HSZ.out]; exact hlt), ← HLS.out] at this
        exact this
      case measure => simp [intOf]; omega
    · have HKA := Lib.hid (show k = A by omega)
      have hrow := hown.out
      rw [HKA.out, List.drop_of_length_le (by rw [HSZ.out]; omega), List.append_nil] at hrow
      have hcv := conv_bsv hrow
      have hbb := HBW.out.trans (p.h.mono (by omega))
      clear hrow
      go_wp2_with fail
      go_ret
      exact ⟨rfl, hbb⟩
set_option maxHeartbeats 1600000 in
theorem impl_arrText (a : Int) (v : Value) (rs : List Int) (B : Nat) (w : World) (hr : Reads w B v (ints rs)) (hB : B ≤ w.heap.size) (hs : Signs w) :
    Calls Tryd.prog 14 #[ctx a v] w fun e w' => ∃ u, e = .returned u ∧ Mem.Own 9 w' w.heap.size w'.heap.size u (Strs.strs (arrText a rs)) ∧ Below w.heap.size w w' := by
  obtain ⟨i0, hi, hz0, hz1, hz2⟩ := info_parts Strs.infoS
  obtain ⟨aa, ca, rfl⟩ := reads_form hr
  have hW := (Below.refl w.heap.size w).alloc (Nat.le_refl _) (.cells #[.int .i64 a, .slice aa rs.length ca] 26)
  have HR1 := Lib.hid (hr.below hW hB)
  have HS1 := Lib.hid (hs.below hW hs.2)
  have q0 : (w.alloc (.cells #[.int .i64 a, .slice aa rs.length ca] 26)).cell? ⟨w.heap.size, 0, none⟩ = some (.int .i64 a) := by simp
  have q1 : (w.alloc (.cells #[.int .i64 a, .slice aa rs.length ca] 26)).cell? ⟨w.heap.size, 1, none⟩ = some (.slice aa rs.length ca) := by simp
  have hz : w.heap.size < (w.alloc (.cells #[.int .i64 a, .slice aa rs.length ca] 26)).heap.size := by simp
  clear hr hs
  go_enter Tryd.func14, Tryd.ntmps14
  go_wp2_with fail
  generalize w.alloc (.cells #[.int .i64 a, .slice aa rs.length ca] 26) = W at HR1 HS1 hW q0 q1 hz ⊢
  have hBW : B ≤ W.heap.size := by omega
  have k0 := fun p : Past W => Past.cell q0 (by show w.heap.size < _; omega) p
  have k1 := fun p : Past W => Past.cell q1 (by show w.heap.size < _; omega) p
  have HBW := Lib.hid hW
  clear q0 q1 hW
  refine ((Past.start W).of (impl_isCtx a _ rs B W HR1.out hBW)).mono ?_
  rintro e _ ⟨rfl, p, rfl⟩
  have kp0 := k0 p
  have kp1 := k1 p
  cases hic : isCtx a rs with
  | false =>
    have HX : Hid (arrText a rs = []) := Lib.hid (by rw [arrText, if_neg (by simp [hic])])
    have hbb := HBW.out.trans (p.h.mono (by omega))
    clear hic
    go_wp2_with fail
    go_ret
    exact ⟨.slice none 0 0, rfl, by rw [HX.out]; exact Own.made (World.ownsRow_nil _ _ _ _), hbb⟩
  | true =>
    have hp := isCtx_parts hic
    have HX : Hid (arrText a rs = linesTo a rs rs.length) := Lib.hid (by rw [arrText, if_pos hic])
    have HK := Lib.hid fun (q : Past p.w) (m : Nat) (hm : m < rs.length) => q.ofB (line_ a (.slice aa rs.length ca) rs m B q.w (Past.reads (Past.reads HR1.out hBW p) (Nat.le_trans hBW p.size) q) (Nat.le_trans (Nat.le_trans hBW p.size) q.size) hic hm ((HS1.out.past p).past q))
    have hl8 := hp.2.2.1
    have HL := Lib.hid fun k => linesTo_step a rs k
    have HLL := Lib.hid fun k => linesTo_length a rs k
    have HL0 : Hid (linesTo a rs 0 = []) := Lib.hid rfl
    generalize linesTo a rs = L at HL HLL HL0 HX
    have j0 := fun q : Past p.w => Past.cell kp0 (by show w.heap.size < _; have := p.size; omega) q
    have j1 := fun q : Past p.w => Past.cell kp1 (by show w.heap.size < _; have := p.size; omega) q
    have HBP := Lib.hid (HBW.out.trans (p.h.mono (by omega)))
    have hzp : w.heap.size < p.w.heap.size := by have := p.size; omega
    generalize hn : rs.length = n at *
    obtain ⟨V, hV⟩ : ∃ V, p.w = V := ⟨_, rfl⟩
    rw [hV] at HK kp0 kp1 j0 j1 HBP hzp ⊢
    clear hp hic hV k0 k1
    go_wp2_with (at_make; refine wpList_make_full _ rfl _ _ 32 rfl V.heap.size 9 i0 (.string ByteArray.empty) 1 Tryd.underlying32 hi hz0 hz1 .i64 .i64 _ _ n rfl rfl rfl rfl (by rw [hz2]; omega) (by unfold maxLen; omega) (Nat.le_refl _) ?_; intro w0 hown0 hgrow0)
    have H0 := Lib.hid hown0
    have HG := Lib.hid hgrow0
    clear hown0 hgrow0
    have hsz : (madeCells (Value.string ByteArray.empty).cells (n * 1)).toList.length = n := by simp [size_madeCells]
    have HSZ := Lib.hid hsz
    clear hsz
    generalize (madeCells (Value.string ByteArray.empty).cells (n * 1)).toList = ys at H0 HSZ
    go_loopw [14] (fun i wr => ∃ k : Nat, k ≤ n ∧ i = .int .i64 k ∧ Hid (wr.ownsRow V.heap.size 9 1 (.slice (some ⟨V.heap.size, 0, none⟩) n n) n (Strs.strs (L k) ++ ys.drop k)) ∧ ∃ p : Past V, wr = p.w) (fun i _ => n - (intOf i).toNat)
    case atStart => exact ⟨0, Nat.zero_le _, rfl, Lib.hid (by rw [HL0.out]; simpa [Strs.strs] using H0.out), ⟨_, (Below.refl _ _).grown HG.out (Nat.le_refl _) (fun q hq => by cases hq)⟩, rfl⟩
    case round =>
      obtain ⟨k, hk, rfl, hown, p, rfl⟩ := hrel
      have kq0 := j0 p
      have kq1 := j1 p
      have hzr : V.heap.size < p.w.heap.size := (hown.out.lt _ rfl).2
      by_cases hlt : k < n
      · have HKk := Lib.hid (HK.out p k hlt)
        have HLS := Lib.hid (HL.out k)
        have HLK := Lib.hid (HLL.out k)
        generalize lineTo a rs k a.toNat = t at HKk HLS
        generalize L k = Lk at hown HLS HLK
        go_wp2_with fail
        refine HKk.out.mono ?_
        rintro e _ ⟨rfl, p2, rfl, b2⟩
        have hown2 := owns_below hown.out b2
        have hlen : (Strs.strs Lk ++ ys.drop k).length = n := by simp [Strs.strs, HLK.out, HSZ.out]; omega
        obtain ⟨z, c2⟩ : ∃ z, p2.w.cell? ⟨V.heap.size, k, none⟩ = some z := by
          rw [hown2.cellAt k (by omega)]
          exact ⟨_, List.getElem?_eq_getElem (by omega)⟩
        have hfz : p2.w.frozen? ⟨V.heap.size, k, none⟩ = false := hown2.frozenAt k
        have hz2' : V.heap.size < p2.w.heap.size := by have := b2.size; omega
        have st := Lib.hid (hown2.stored k (.string ⟨t.toArray⟩))
        clear b2 hown2 hlen
        go_wp2_with fail
        go_roundw
        case rel =>
          refine ⟨k + 1, by omega, by simp, Lib.hid ?_, ⟨_, p2.h.grown st.out.2 p2.size fun q hq => by cases hq; omega⟩, rfl⟩
          have := st.out.1
          rw [strs_set _ _ _ _ HLK.out (by rw [HSZ.out]; exact hlt), ← HLS.out] at this
          exact this
        case measure => simp [intOf]; omega
      · have HKA := Lib.hid (show k = n by omega)
        have hrow := hown.out
        rw [HKA.out, List.drop_of_length_le (by rw [HSZ.out]; omega), List.append_nil] at hrow
        have hbb := HBP.out.trans (p.h.mono (by omega))
        have HO := Lib.hid ((Own.made hrow).mono (lo' := w.heap.size) (by omega) (Nat.le_refl _))
        clear hrow
        go_wp2_with fail
        go_ret
        exact ⟨_, rfl, by rw [HX.out]; exact HO.out, hbb⟩
end Go.Proofs.YtbpicpapkpomhaaDoor.Ctx
