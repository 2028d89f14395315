/-
  Chapter 7 of the program: rows without some objects, rows without some attributes.
-/
import Derived.Test.YtlomfgbmijhgiaaRedP
import Derived.Test.YtlomfgbmijhgiaaDerive
import Derived.Deep.RegionHeld3
import Derived.Deep.DeepCutAuto
namespace Go.Proofs.Ytlomfgbmijhgiaa.Ctx
open Go Go.RowKit Mem Sets Elems
set_option maxRecDepth 100000

theorem hasEl_at8 {s : Int} {e : Nat} (hs : 0 ≤ s ∧ s ≤ 255) (he : e < 8) : hasEl s e = bit s e := by
  rw [hasEl, isSet8_true hs, decide_eq_true (by omega : 0 ≤ (e : Int) ∧ (e : Int) ≤ 7)]; rfl
set_option maxHeartbeats 4000000 in
theorem impl_dropO (a : Int) (v : Value) (rs : List Int) (s : Int) (B : Nat) (w : World) (hr : Reads w B v (ints rs)) (hB : B ≤ w.heap.size) :
    Calls Try.prog 74 #[ctx a v, .int .i64 s] w (CtxRes (dropO a rs s) w) := by
  obtain ⟨i0, hi, hz0, hz1, hz2⟩ := info_parts Ints.info
  obtain ⟨aa, ca, rfl⟩ := reads_form hr
  have hW := ((Below.refl w.heap.size w).alloc (Nat.le_refl _) (.cells #[.int .i64 a, .slice aa rs.length ca] 26)).alloc (by simp) (.cells #[.int .i64 0, .slice none 0 0] 26)
  have HR1 := Lib.hid (hr.below hW hB)
  have q0 : ((w.alloc (.cells #[.int .i64 a, .slice aa rs.length ca] 26)).alloc (.cells #[.int .i64 0, .slice none 0 0] 26)).cell? ⟨w.heap.size, 0, none⟩ = some (.int .i64 a) := by simp
  have q1 : ((w.alloc (.cells #[.int .i64 a, .slice aa rs.length ca] 26)).alloc (.cells #[.int .i64 0, .slice none 0 0] 26)).cell? ⟨w.heap.size, 1, none⟩ = some (.slice aa rs.length ca) := by simp
  have hbx : BoxAt ((w.alloc (.cells #[.int .i64 a, .slice aa rs.length ca] 26)).alloc (.cells #[.int .i64 0, .slice none 0 0] 26)) (w.heap.size + 1) 26 #[.int .i64 0, .slice none 0 0] := by
    have := BoxAt.new (w.alloc (.cells #[.int .i64 a, .slice aa rs.length ca] 26)) 26 #[.int .i64 0, .slice none 0 0]; simpa using this
  have hz : w.heap.size + 2 ≤ ((w.alloc (.cells #[.int .i64 a, .slice aa rs.length ca] 26)).alloc (.cells #[.int .i64 0, .slice none 0 0] 26)).heap.size := by simp
  clear hr
  go_enter Try.func74, Try.ntmps74
  go_wp2_with fail
  generalize ((w.alloc (.cells #[.int .i64 a, .slice aa rs.length ca] 26)).alloc (.cells #[.int .i64 0, .slice none 0 0] 26)) = W at HR1 hW q0 q1 hz hbx ⊢
  refine (hasObj a _ rs s B W HR1.out (by omega)).mono ?_
  rintro e w1 ⟨rfl, b1⟩
  have hy1 := b1.size
  have k0 : w1.cell? ⟨w.heap.size, 0, none⟩ = some (.int .i64 a) := (b1.cell (p := ⟨w.heap.size, 0, none⟩) (by show w.heap.size < _; omega)).trans q0
  have k1 : w1.cell? ⟨w.heap.size, 1, none⟩ = some (.slice aa rs.length ca) := (b1.cell (p := ⟨w.heap.size, 1, none⟩) (by show w.heap.size < _; omega)).trans q1
  have HR2 := Lib.hid (HR1.out.below b1 (by omega))
  have B1 := Lib.hid (hW.trans (b1.mono (by omega)))
  have HBX1 := Lib.hid (hbx.below b1 (by omega))
  have hzw : w.heap.size + 2 ≤ w1.heap.size := by omega
  clear b1 q0 q1 hbx hW HR1 hz
  generalize hX : (isCtx a rs && isSet rs.length s) = X
  cases X with
  | false =>
    have HX : Hid (dropO a rs s = none) := Lib.hid (by rw [dropO, if_neg (by simpa using hX)])
    have e0 : w1.cell? ⟨w.heap.size + 1, 0, none⟩ = some (.int .i64 0) := HBX1.out.cell 0
    have e1 : w1.cell? ⟨w.heap.size + 1, 1, none⟩ = some (.slice none 0 0) := HBX1.out.cell 1
    have f0 : w1.frozen? ⟨w.heap.size + 1, 0, none⟩ = false := HBX1.out.free 0
    have f1 : w1.frozen? ⟨w.heap.size + 1, 1, none⟩ = false := HBX1.out.free 1
    clear hX
    go_wp2_with fail
    refine bodyPost_ret (v := .tuple #[ctx 0 (.slice none 0 0), .bool false]) (by simp [results, Try.results74, go_sem, e0, e1]) rfl (ctxRes_none HX.out ?_)
    exact (B1.out.setCell (p := ⟨w.heap.size + 1, 0, none⟩) (by show w.heap.size ≤ w.heap.size + 1; omega) _).setCell (p := ⟨w.heap.size + 1, 1, none⟩) (by show w.heap.size ≤ w.heap.size + 1; omega) _
  | true =>
    simp only [Bool.and_eq_true] at hX
    have HX : Hid (dropO a rs s = some (a, dropTo rs s rs.length)) := Lib.hid (by rw [dropO, if_pos hX])
    have hsb := isSet_le hX.2
    have h8 := (isCtx_parts hX.1).2.2.1
    clear hX
    go_wp2_with fail
    go_loopw [6, 17] (fun v i wr => ∃ k : Nat, k ≤ rs.length ∧ i = .int .i64 k ∧ Hid (wr.ownsRow w1.heap.size 3 1 v (dropTo rs s k).length (ints (dropTo rs s k))) ∧ Hid (Below w1.heap.size w1 wr)) (fun _ i _ => rs.length - (intOf i).toNat)
    case atStart => exact ⟨0, Nat.zero_le _, rfl, Lib.hid (World.ownsRow_nil _ _ _ _), Lib.hid (Below.refl _ _)⟩
    case round =>
      obtain ⟨k, hk, rfl, hown, hbel⟩ := hrel
      by_cases hlt : k < rs.length
      · obtain ⟨_, _, _, hv, hcells⟩ := HR2.out
        injection hv with e1 e2 e3
        subst e1 e3
        clear e2
        obtain ⟨bk, o, rfl, hb, gca⟩ := hcells (by intro h; simp [ints] at h; subst h; simp at hlt)
        have ce : wr.cell? ⟨bk, o + k, none⟩ = some (.int .i64 (rs.getD k 0)) := (hbel.out.cell (p := ⟨bk, o + k, none⟩) (by show bk < _; omega)).trans ((gca k (by simpa [ints] using hlt)).trans (ints_get rs k hlt))
        clear gca hcells
        have hH := Lib.hid (fun w => by have := impl_hasEl s k w; rw [hasEl_at8 hsb (by omega)] at this; exact this)
        cases hbt : bit s k with
        | true =>
          have HST := Lib.hid (dropTo_yes (rs := rs) hbt)
          rw [hbt] at hH
          clear hbt
          generalize rs.getD k 0 = x at ce
          go_wp2_with fail
          refine (hH.out _).mono ?_
          rintro e w' ⟨rfl, hw⟩
          subst w'
          go_wp2_with fail
          go_roundw
          case rel => exact ⟨k + 1, by omega, by simp, Lib.hid (by rw [HST.out]; exact hown.out), hbel⟩
          case measure => simp [intOf]; omega
        | false =>
          have HST := Lib.hid (dropTo_no (rs := rs) hbt)
          rw [hbt] at hH
          clear hbt
          have hlen := Nat.le_trans (dropTo_len rs s k) hk
          generalize dropTo rs s k = xs at *
          generalize rs.getD k 0 = x at ce HST
          have HC3 : Hid (xs.length + 1 ≤ maxLen) := Lib.hid (by unfold maxLen; omega)
          have HC4 : Hid ((xs.length + 1) * 8 ≤ 140737488355328) := Lib.hid (by omega)
          go_wp2_with fail
          refine (hH.out _).mono ?_
          rintro e w' ⟨rfl, hw⟩
          subst w'
          go_wp2_with (at_builtin; refine wpList_append_own _ rfl _ _ 22 rfl w1.heap.size 3 i0 (.int .i64 0) 1 8 Try.underlying22 hi hz0 hz1 hz2 rfl (by decide) _ _ _ rfl (hown.out.alloc _) ⟨wr.heap.size, 0, none⟩ 1 1 [.int .i64 x] rfl rfl ?c1 ?c2 HC3.out HC4.out ?c5 ?_)
          case c1 =>
            intro j u hj
            match j, hj with
            | 0, hj => simp at hj; subst hj; simp [Addr.add]
          case c2 => intro u hu; simp at hu; subst hu; rfl
          case c5 => have := hbel.out.size; simp; omega
          intro v' w2 hown' hgrow _
          have R := Lib.hid hown'
          have B2 := Lib.hid ((hbel.out.alloc hbel.out.size _).grown hgrow (by have := hbel.out.size; simp; omega) fun j hj => (hown.out.lt j hj).1)
          clear hown' hgrow
          go_wp2_with fail
          go_roundw
          case rel => exact ⟨k + 1, by omega, by simp, Lib.hid (by rw [HST.out]; simpa [ints] using R.out), B2⟩
          case measure => simp [intOf]; omega
      · have HK := Lib.hid (show k = rs.length by omega)
        have c0 : wr.cell? ⟨w.heap.size, 0, none⟩ = some (.int .i64 a) := (hbel.out.cell (p := ⟨w.heap.size, 0, none⟩) (by show w.heap.size < _; omega)).trans k0
        have hbr := HBX1.out.below hbel.out (by omega)
        have e0 : wr.cell? ⟨w.heap.size + 1, 0, none⟩ = some (.int .i64 0) := hbr.cell 0
        have e1 : wr.cell? ⟨w.heap.size + 1, 1, none⟩ = some (.slice none 0 0) := hbr.cell 1
        have f0 : wr.frozen? ⟨w.heap.size + 1, 0, none⟩ = false := hbr.free 0
        have f1 : wr.frozen? ⟨w.heap.size + 1, 1, none⟩ = false := hbr.free 1
        obtain ⟨av, cv, rfl⟩ := owns_form hown.out
        clear hbr
        go_wp2_with fail
        refine bodyPost_ret (v := .tuple #[ctx a (.slice av (dropTo rs s k).length cv), .bool true]) (by simp [results, Try.results74, go_sem, e0, e1]) rfl (ctxRes_some HX.out ?_ ?_)
        · rw [← HK.out]
          refine (own_set (own_set (lo := w1.heap.size) (hi := wr.heap.size) (Own.made hown.out) (.inl (by simp; omega)) _) (.inl (by simp; omega)) _).mono (by omega) (by simp)
        · exact ((B1.out.trans (hbel.out.mono (by omega))).setCell (p := ⟨w.heap.size + 1, 0, none⟩) (by show w.heap.size ≤ w.heap.size + 1; omega) _).setCell (p := ⟨w.heap.size + 1, 1, none⟩) (by show w.heap.size ≤ w.heap.size + 1; omega) _
/-- The places below k of a list whose elements are in s. -/
def renTo (s : Int) (l : List Int) : Nat → Nat
  | 0 => 0
  | k + 1 => if hasEl s (l.getD k 0) = true then renTo s l k ||| 2 ^ k else renTo s l k
theorem renTo_yes {s : Int} {l : List Int} {k : Nat} (h : hasEl s (l.getD k 0) = true) : renTo s l (k + 1) = renTo s l k ||| 2 ^ k := if_pos h
theorem renTo_no {s : Int} {l : List Int} {k : Nat} (h : hasEl s (l.getD k 0) = false) : renTo s l (k + 1) = renTo s l k := if_neg (by simp only [h]; simp)
theorem renTo_pack : ∀ keep : Nat, keep < 64 → ∀ s : Nat, s < 64 → renTo (s : Int) (elems (keep : Int)) (elems (keep : Int)).length = pack (s : Int) (keep : Int) := by decide +kernel
theorem elems_count : ∀ keep : Nat, keep < 64 → ((elems (keep : Int)).length : Int) = count (keep : Int) := by decide +kernel
set_option maxHeartbeats 1600000 in
theorem renumbered (s : Int) (v : Value) (l : List Int) (B : Nat) (w : World) (hr : Reads w B v (ints l)) (hl : l.length ≤ 8) :
    Calls Try.prog 86 #[.int .i64 s, v] w fun e w' => e = .returned (.int .i64 (renTo s l l.length : Nat)) ∧ w' = w := by
  obtain ⟨_, aa, ca, rfl, hca⟩ := hr
  simp only [ints, List.length_map] at hca ⊢
  have HC := Lib.hid hca
  clear hca
  by_cases hne : l = []
  · subst hne
    go_enter Try.func86, Try.ntmps86
    go_wp2_with fail
    refine wp_loop_rounds 1 ?_
    rw [rounds_succ]
    go_wp2_with fail
    go_ret
    exact ⟨rfl, rfl⟩
  · obtain ⟨b, o, rfl, hb, gca⟩ := HC.out (by simpa using hne)
    have HD := Lib.hid gca
    clear gca HC hne
    go_enter Try.func86, Try.ntmps86
    go_wp2_with fail
    go_loop [5, 10] (fun t i => ∃ k x : Nat, k ≤ l.length ∧ i = .int .i64 k ∧ t = .int .i64 x ∧ x < 256 ∧ Hid (x = renTo s l k)) (fun _ i => l.length - (intOf i).toNat)
    case atStart => exact ⟨0, 0, Nat.zero_le _, rfl, rfl, by omega, Lib.hid rfl⟩
    case round =>
      obtain ⟨k, x, hk, rfl, rfl, hx, HX⟩ := hrel
      by_cases hlt : k < l.length
      · have c2 : w.cell? ⟨b, o + k, none⟩ = some (.int .i64 (l.getD k 0)) := by rw [HD.out k hlt, ints_get l k hlt]
        have hH := Lib.hid (fun w => impl_hasEl s (l.getD k 0) w)
        cases hbt : hasEl s (l.getD k 0) with
        | true =>
          have HST := Lib.hid (renTo_yes hbt)
          rw [hbt] at hH
          clear hbt
          generalize l.getD k 0 = y at c2 hH
          go_wp2_with fail
          refine (hH.out _).mono ?_
          rintro e w' ⟨rfl, hw⟩
          subst w'
          go_wp2_with fail
          go_round
          case rel => exact ⟨k + 1, x ||| 2 ^ k, by omega, by simp, by rw [or_pow x k hx (by omega)], Nat.or_lt_two_pow (n := 8) hx (Nat.pow_lt_pow_right (by omega) (by omega)), Lib.hid (by rw [HST.out, ← HX.out])⟩
          case measure => simp [intOf]; omega
        | false =>
          have HST := Lib.hid (renTo_no hbt)
          rw [hbt] at hH
          clear hbt
          generalize l.getD k 0 = y at c2 hH
          go_wp2_with fail
          refine (hH.out _).mono ?_
          rintro e w' ⟨rfl, hw⟩
          subst w'
          go_wp2_with fail
          go_round
          case rel => exact ⟨k + 1, x, by omega, by simp, rfl, hx, Lib.hid (by rw [HST.out, ← HX.out])⟩
          case measure => simp [intOf]; omega
      · have HK := Lib.hid (show k = l.length by omega)
        go_wp2_with fail
        go_ret
        exact ⟨by rw [HX.out, HK.out]; rfl, rfl⟩
set_option maxHeartbeats 4000000 in
theorem impl_dropA (a : Int) (v : Value) (rs : List Int) (s : Int) (B : Nat) (w : World) (hr : Reads w B v (ints rs)) (hB : B ≤ w.heap.size) :
    Calls Try.prog 76 #[ctx a v, .int .i64 s] w (CtxRes (dropA a rs s) w) := by
  obtain ⟨i0, hi, hz0, hz1, hz2⟩ := info_parts Ints.info
  obtain ⟨aa, ca, rfl⟩ := reads_form hr
  have hW := ((Below.refl w.heap.size w).alloc (Nat.le_refl _) (.cells #[.int .i64 a, .slice aa rs.length ca] 26)).alloc (by simp) (.cells #[.int .i64 0, .slice none 0 0] 26)
  have HR1 := Lib.hid (hr.below hW hB)
  have q0 : ((w.alloc (.cells #[.int .i64 a, .slice aa rs.length ca] 26)).alloc (.cells #[.int .i64 0, .slice none 0 0] 26)).cell? ⟨w.heap.size, 0, none⟩ = some (.int .i64 a) := by simp
  have q1 : ((w.alloc (.cells #[.int .i64 a, .slice aa rs.length ca] 26)).alloc (.cells #[.int .i64 0, .slice none 0 0] 26)).cell? ⟨w.heap.size, 1, none⟩ = some (.slice aa rs.length ca) := by simp
  have hbx : BoxAt ((w.alloc (.cells #[.int .i64 a, .slice aa rs.length ca] 26)).alloc (.cells #[.int .i64 0, .slice none 0 0] 26)) (w.heap.size + 1) 26 #[.int .i64 0, .slice none 0 0] := by
    have := BoxAt.new (w.alloc (.cells #[.int .i64 a, .slice aa rs.length ca] 26)) 26 #[.int .i64 0, .slice none 0 0]; simpa using this
  have hz : w.heap.size + 2 ≤ ((w.alloc (.cells #[.int .i64 a, .slice aa rs.length ca] 26)).alloc (.cells #[.int .i64 0, .slice none 0 0] 26)).heap.size := by simp
  clear hr
  go_enter Try.func76, Try.ntmps76
  go_wp2_with fail
  generalize ((w.alloc (.cells #[.int .i64 a, .slice aa rs.length ca] 26)).alloc (.cells #[.int .i64 0, .slice none 0 0] 26)) = W at HR1 hW q0 q1 hz hbx ⊢
  refine (hasAtt a _ rs s B W HR1.out (by omega)).mono ?_
  rintro e w1 ⟨rfl, b1⟩
  have hy1 := b1.size
  have k0 : w1.cell? ⟨w.heap.size, 0, none⟩ = some (.int .i64 a) := (b1.cell (p := ⟨w.heap.size, 0, none⟩) (by show w.heap.size < _; omega)).trans q0
  have k1 : w1.cell? ⟨w.heap.size, 1, none⟩ = some (.slice aa rs.length ca) := (b1.cell (p := ⟨w.heap.size, 1, none⟩) (by show w.heap.size < _; omega)).trans q1
  have HR2 := Lib.hid (HR1.out.below b1 (by omega))
  have B1 := Lib.hid (hW.trans (b1.mono (by omega)))
  have HBX1 := Lib.hid (hbx.below b1 (by omega))
  have hzw : w.heap.size + 2 ≤ w1.heap.size := by omega
  clear b1 q0 q1 hbx hW HR1 hz
  generalize hX : (isCtx a rs && isSet a s) = X
  cases X with
  | false =>
    have HX : Hid (dropA a rs s = none) := Lib.hid (by rw [dropA, if_neg (by simpa using hX)])
    have e0 : w1.cell? ⟨w.heap.size + 1, 0, none⟩ = some (.int .i64 0) := HBX1.out.cell 0
    have e1 : w1.cell? ⟨w.heap.size + 1, 1, none⟩ = some (.slice none 0 0) := HBX1.out.cell 1
    have f0 : w1.frozen? ⟨w.heap.size + 1, 0, none⟩ = false := HBX1.out.free 0
    have f1 : w1.frozen? ⟨w.heap.size + 1, 1, none⟩ = false := HBX1.out.free 1
    clear hX
    go_wp2_with fail
    refine bodyPost_ret (v := .tuple #[ctx 0 (.slice none 0 0), .bool false]) (by simp [results, Try.results76, go_sem, e0, e1]) rfl (ctxRes_none HX.out ?_)
    exact (B1.out.setCell (p := ⟨w.heap.size + 1, 0, none⟩) (by show w.heap.size ≤ w.heap.size + 1; omega) _).setCell (p := ⟨w.heap.size + 1, 1, none⟩) (by show w.heap.size ≤ w.heap.size + 1; omega) _
  | true =>
    simp only [Bool.and_eq_true] at hX
    obtain ⟨kn, hkn, hkl⟩ := keepOf_nat hX.1 hX.2
    have HX : Hid (dropA a rs s = some (count kn, packRows rs kn rs.length)) := Lib.hid (by rw [dropA, if_pos hX, hkn])
    have hrow : Hid (∀ k, k < rs.length → ∃ n : Nat, rs.getD k 0 = n ∧ n < 64) := Lib.hid fun k hk => by
      obtain ⟨n, hn, hlt, -, -⟩ := isSet_to_nat ((isCtx_parts hX.1).2.2.2 k hk)
      have h64 : 2 ^ a.toNat ≤ 2 ^ 6 := Nat.pow_le_pow_right (by omega) (by have := isCtx_parts hX.1; omega)
      exact ⟨n, hn, by omega⟩
    have HAN : Hid (bits .andNot .i64 (full a) s = ((kn : Nat) : Int)) := Lib.hid (by rw [andNot_full a s hX.2]; exact hkn)
    have h8 := (isCtx_parts hX.1).2.2.1
    have HEC := Lib.hid (elems_count kn hkl)
    have HEN := Lib.hid (Nat.le_trans (elemsTo_le (kn : Int) 8) (Nat.le_refl 8))
    have HRP := Lib.hid (renTo_pack kn hkl)
    clear hX hkn
    go_wp2_with fail
    refine (impl_full _ _).mono ?_
    rintro e w' ⟨rfl, hw⟩
    subst w'
    go_wp2_with fail
    rw [HAN.out]
    refine (impl_elems _ _).mono ?_
    rintro e w2 ⟨u2, rfl, o2, b2⟩
    obtain ⟨p2, c2, rfl⟩ := own_form o2
    change Own 3 w2 w1.heap.size w2.heap.size (.slice p2 (elems kn).length c2) (ints (elems kn)) at o2
    have hel : (elems (kn : Int)).length ≤ 8 := HEN.out
    generalize elems (kn : Int) = es at o2 hel HEC HRP
    have hy2 := b2.size
    have k0' : w2.cell? ⟨w.heap.size, 0, none⟩ = some (.int .i64 a) := (b2.cell (p := ⟨w.heap.size, 0, none⟩) (by show w.heap.size < _; omega)).trans k0
    have k1' : w2.cell? ⟨w.heap.size, 1, none⟩ = some (.slice aa rs.length ca) := (b2.cell (p := ⟨w.heap.size, 1, none⟩) (by show w.heap.size < _; omega)).trans k1
    have HR3 := Lib.hid (HR2.out.below b2 (by omega))
    have B2 := Lib.hid (B1.out.trans (b2.mono (by omega)))
    have HBX2 := Lib.hid (HBX1.out.below b2 (by omega))
    have HE := Lib.hid o2.reads
    clear o2 b2 k0 k1 HR2 B1 HBX1
    go_wp2_with (at_make; refine wpList_make_full _ rfl _ _ 22 rfl w2.heap.size 3 i0 (.int .i64 0) 1 Try.underlying22 hi hz0 hz1 .i64 .i64 _ _ rs.length rfl rfl rfl rfl (by rw [hz2]; omega) (by unfold maxLen; omega) (Nat.le_refl _) ?_; intro w0 hown0 hgrow0; have p1 := (((Below.refl w2.heap.size w2).grown hgrow0 (Nat.le_refl _) (fun q hq => by cases hq)).cell (p := ⟨w.heap.size, 1, none⟩) (by show w.heap.size < _; omega)).trans k1')
    have H0 := Lib.hid hown0
    have HG := Lib.hid hgrow0
    clear hown0 hgrow0
    have hsz : (madeCells (Value.int .i64 0).cells (rs.length * 1)).toList.length = rs.length := by simp [size_madeCells]
    have HSZ := Lib.hid hsz
    clear hsz
    generalize (madeCells (Value.int .i64 0).cells (rs.length * 1)).toList = ys at H0 HSZ
    go_loopw [28] (fun i wr => ∃ k : Nat, k ≤ rs.length ∧ i = .int .i64 k ∧ Hid (wr.ownsRow w2.heap.size 3 1 (.slice (some ⟨w2.heap.size, 0, none⟩) rs.length rs.length) rs.length (ints (packRows rs kn k) ++ ys.drop k)) ∧ Hid (Below w2.heap.size w2 wr)) (fun i _ => rs.length - (intOf i).toNat)
    case atStart => exact ⟨0, Nat.zero_le _, rfl, Lib.hid (by simpa [packRows] using H0.out), Lib.hid ((Below.refl _ _).grown HG.out (Nat.le_refl _) (fun q hq => by cases hq))⟩
    case round =>
      obtain ⟨k, hk, rfl, hown, hbel⟩ := hrel
      have hzr : w2.heap.size < wr.heap.size := (hown.out.lt _ rfl).2
      by_cases hlt : k < rs.length
      · have HRk := Lib.hid (HR3.out.below hbel.out (by omega))
        obtain ⟨_, _, _, hv, hcells⟩ := HRk.out
        injection hv with e1 e2 e3
        subst e1 e3
        clear e2
        obtain ⟨bk, o, rfl, hb, gca⟩ := hcells (by intro h; simp [ints] at h; subst h; simp at hlt)
        have ce : wr.cell? ⟨bk, o + k, none⟩ = some (.int .i64 (rs.getD k 0)) := (gca k (by simpa [ints] using hlt)).trans (ints_get rs k hlt)
        clear gca hcells
        have HST := Lib.hid (packRows_step rs kn k hlt)
        obtain ⟨n, hn, hn64⟩ := hrow.out k hlt
        rw [hn] at ce HST
        have HP := Lib.hid (renumbered n _ es _ wr (HE.out.below hbel.out (Nat.le_refl _)) hel)
        rw [HRP.out n hn64] at HP
        generalize pack n kn = px at HP HST
        clear hn
        have hown2 := hown.out
        have hlen : (ints (packRows rs kn k) ++ ys.drop k).length = rs.length := by simp [ints, packRows_length rs kn k hk, HSZ.out]; omega
        have hsome : ∃ u, wr.cell? ⟨w2.heap.size, k, none⟩ = some u := by
          rw [hown2.cellAt k (by omega)]
          exact ⟨_, List.getElem?_eq_getElem (by omega)⟩
        obtain ⟨u, c2⟩ := hsome
        have hfz : wr.frozen? ⟨w2.heap.size, k, none⟩ = false := hown2.frozenAt k
        have st := Lib.hid (hown2.stored k (.int .i64 (px : Nat)))
        clear hown2 hlen
        go_wp2_with fail
        refine HP.out.mono ?_
        rintro e w' ⟨rfl, hw⟩
        subst w'
        go_wp2_with fail
        go_roundw
        case rel =>
          refine ⟨k + 1, by omega, by simp, Lib.hid ?_, Lib.hid (hbel.out.grown st.out.2 (by omega) (fun q hq => by cases hq; omega))⟩
          have := st.out.1
          rw [set_step _ _ _ _ (packRows_length rs kn k hk) (by rw [HSZ.out]; exact hlt), ← HST.out] at this
          exact this
        case measure => simp [intOf]; omega
      · have HK := Lib.hid (show k = rs.length by omega)
        have hbr := HBX2.out.below hbel.out (by omega)
        have e0 : wr.cell? ⟨w.heap.size + 1, 0, none⟩ = some (.int .i64 0) := hbr.cell 0
        have e1 : wr.cell? ⟨w.heap.size + 1, 1, none⟩ = some (.slice none 0 0) := hbr.cell 1
        have f0 : wr.frozen? ⟨w.heap.size + 1, 0, none⟩ = false := hbr.free 0
        have f1 : wr.frozen? ⟨w.heap.size + 1, 1, none⟩ = false := hbr.free 1
        clear hbr
        go_wp2_with fail
        refine bodyPost_ret (v := .tuple #[ctx es.length (.slice (some ⟨w2.heap.size, 0, none⟩) rs.length rs.length), .bool true]) (by simp [results, Try.results76, go_sem, e0, e1]) rfl (ctxRes_some (by rw [HX.out, HEC.out]) ?_ ?_)
        · have := hown.out
          rw [HK.out, List.drop_of_length_le (by rw [HSZ.out]; omega), List.append_nil] at this
          refine (own_set (own_set (lo := w2.heap.size) (hi := wr.heap.size) (Own.made this) (.inl (by simp; omega)) _) (.inl (by simp; omega)) _).mono (by omega) (by simp)
        · exact ((B2.out.trans (hbel.out.mono (by omega))).setCell (p := ⟨w.heap.size + 1, 0, none⟩) (by show w.heap.size ≤ w.heap.size + 1; omega) _).setCell (p := ⟨w.heap.size + 1, 1, none⟩) (by show w.heap.size ≤ w.heap.size + 1; omega) _
end Go.Proofs.Ytlomfgbmijhgiaa.Ctx
