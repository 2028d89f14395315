/-
  The laws' own helpers over lists of Rule: eq, mark, held, one contract each.
-/
import Derived.Test.YthodmmckekgkdaaPairs
import Derived.Deep.RegionHeld3
namespace Go.Proofs.Ythodmmckekgkdaa.PRule
open Go Go.RowKit Mem
set_option maxRecDepth 100000

abbrev mk (p : PInt) : Value := .agg #[.int .i64 p.1, .int .i64 p.2]
theorem eq1 (p q : PInt) (w : World) :
    Calls Try.prog 94 #[mk p, mk q] w fun e w' => e = .returned (.bool (p == q)) ∧ Below w.heap.size w w' := by
  obtain ⟨a, b⟩ := p
  obtain ⟨c, d⟩ := q
  have hb : Below w.heap.size w ((w.alloc (.cells #[.int .i64 a, .int .i64 b] 43)).alloc (.cells #[.int .i64 c, .int .i64 d] 43)) := ((Below.refl _ _).alloc (Nat.le_refl _) _).alloc (by simp) _
  have HB := Lib.hid hb
  clear hb
  by_cases h1 : a = c
  · have d1 : (a != c) = false := by simp [h1]
    by_cases h2 : b = d
    · have d2 : (b != d) = false := by simp [h2]
      have HQ : Hid (((a, b) == (c, d)) = true) := Lib.hid (by simp [h1, h2])
      clear h1 h2
      go_enter Try.func94, Try.ntmps94
      go_wp2_with fail
      go_ret
      exact ⟨by rw [HQ.out]; rfl, HB.out⟩
    · have d2 : (b != d) = true := by simp [h2]
      have HQ : Hid (((a, b) == (c, d)) = false) := Lib.hid (by simp [h2])
      clear h1 h2
      go_enter Try.func94, Try.ntmps94
      go_wp2_with fail
      go_ret
      exact ⟨by rw [HQ.out]; rfl, HB.out⟩
  · have d1 : (a != c) = true := by simp [h1]
    have HQ : Hid (((a, b) == (c, d)) = false) := Lib.hid (by simp [h1])
    clear h1
    go_enter Try.func94, Try.ntmps94
    go_wp2_with fail
    go_ret
    exact ⟨by rw [HQ.out]; rfl, HB.out⟩
set_option maxHeartbeats 800000 in
theorem eqS (va vb : Value) (xs ys : List PInt) (Ba Bb : Nat) (w : World) (ha : ReadsP w Ba va xs) (hb : ReadsP w Bb vb ys) (hBa : Ba ≤ w.heap.size) (hBb : Bb ≤ w.heap.size) :
    Calls Try.prog 50 #[va, vb] w fun e w' => e = .returned (.bool (xs == ys)) ∧ Below w.heap.size w w' := by
  have hla := ha.1
  have hlb := hb.1
  unfold maxLen at hla hlb
  have HA := Lib.hid ha
  have HB := Lib.hid hb
  obtain ⟨aa, ca, rfl⟩ := ha.form
  obtain ⟨ab, cb, rfl⟩ := hb.form
  clear ha hb
  by_cases hl : xs.length = ys.length
  · have hd : ((xs.length : Int) != (ys.length : Int)) = false := by simp [hl]
    by_cases hne : xs = []
    · have hy : ys = [] := List.length_eq_zero_iff.1 (by rw [← hl, hne]; rfl)
      subst hne hy
      go_enter Try.func50, Try.ntmps50
      go_wp2_with fail
      refine wp_loop_rounds 1 ?_
      rw [rounds_succ]
      go_wp2_with fail
      go_ret
      exact ⟨rfl, Below.refl _ _⟩
    · have hny : ys ≠ [] := by rintro rfl; exact hne (List.length_eq_zero_iff.1 hl)
      obtain ⟨_, _, _, hv, hcells⟩ := HA.out
      obtain ⟨_, _, _, hv2, hcells2⟩ := HB.out
      injection hv with e1 e2 e3
      injection hv2 with e4 e5 e6
      subst e1 e3 e4 e6
      clear e2 e5
      obtain ⟨b1, o1, rfl, hb1, g1⟩ := hcells hne
      obtain ⟨b2, o2, rfl, hb2, g2⟩ := hcells2 hny
      have G1 := Lib.hid g1
      have G2 := Lib.hid g2
      have HL := Lib.hid hl
      obtain ⟨n, hn⟩ : ∃ n, xs.length = n := ⟨_, rfl⟩
      rw [hn] at hl G1 hd hla
      rw [← hl] at G2 hd hlb
      have HN := Lib.hid hn
      rw [hn, ← hl]
      clear hcells hcells2 g1 g2 HA HB hn hl hne hny
      go_enter Try.func50, Try.ntmps50
      go_wp2_with fail
      go_loopw [5] (fun i wr => ∃ k : Nat, k ≤ n ∧ i = .int .i64 k ∧ Hid (∀ j, j < k → xs.getD j (0, 0) = ys.getD j (0, 0)) ∧ Hid (Below w.heap.size w wr)) (fun i _ => n - (intOf i).toNat)
      case atStart => exact ⟨0, Nat.zero_le _, rfl, Lib.hid (fun j hj => by omega), Lib.hid (Below.refl _ _)⟩
      case round =>
        obtain ⟨k, hk, rfl, hq, hbel⟩ := hrel
        by_cases hlt : k < n
        · have c1 : wr.cell? ⟨b1, o1 + k * 2, none⟩ = some (.int .i64 (xs.getD k (0, 0)).1) := (hbel.out.cell (p := ⟨b1, o1 + k * 2, none⟩) (by show b1 < _; omega)).trans (G1.out k hlt).1
          have c2 : wr.cell? ⟨b1, o1 + k * 2 + 1, none⟩ = some (.int .i64 (xs.getD k (0, 0)).2) := (hbel.out.cell (p := ⟨b1, o1 + k * 2 + 1, none⟩) (by show b1 < _; omega)).trans (G1.out k hlt).2
          have c3 : wr.cell? ⟨b2, o2 + k * 2, none⟩ = some (.int .i64 (ys.getD k (0, 0)).1) := (hbel.out.cell (p := ⟨b2, o2 + k * 2, none⟩) (by show b2 < _; omega)).trans (G2.out k hlt).1
          have c4 : wr.cell? ⟨b2, o2 + k * 2 + 1, none⟩ = some (.int .i64 (ys.getD k (0, 0)).2) := (hbel.out.cell (p := ⟨b2, o2 + k * 2 + 1, none⟩) (by show b2 < _; omega)).trans (G2.out k hlt).2
          have hzr := hbel.out.size
          generalize hgx : xs.getD k (0, 0) = x at c1 c2
          generalize hgy : ys.getD k (0, 0) = y at c3 c4
          have GX := Lib.hid hgx
          have GY := Lib.hid hgy
          clear hgx hgy
          have HE := Lib.hid (eq1 x y wr.drew)
          obtain ⟨Q, hQ⟩ : ∃ Q, (x == y) = Q := ⟨_, rfl⟩
          rw [hQ] at HE
          have HQ := Lib.hid hQ
          clear hQ
          go_wp2_with fail
          go_region_held3 (fun wx => wx.cell? ⟨b1, o1 + k * 2, none⟩ = some (.int .i64 x.1) ∧ wx.cell? ⟨b1, o1 + k * 2 + 1, none⟩ = some (.int .i64 x.2) ∧ wx.cell? ⟨b2, o2 + k * 2, none⟩ = some (.int .i64 y.1) ∧ wx.cell? ⟨b2, o2 + k * 2 + 1, none⟩ = some (.int .i64 y.2))
            (first | exact ⟨c1, c2, c3, c4⟩ | exact ⟨(bw.cell (p := ⟨b1, o1 + k * 2, none⟩) (by show b1 < wr.heap.size; omega)).trans c1, (bw.cell (p := ⟨b1, o1 + k * 2 + 1, none⟩) (by show b1 < wr.heap.size; omega)).trans c2, (bw.cell (p := ⟨b2, o2 + k * 2, none⟩) (by show b2 < wr.heap.size; omega)).trans c3, (bw.cell (p := ⟨b2, o2 + k * 2 + 1, none⟩) (by show b2 < wr.heap.size; omega)).trans c4⟩)
            (first | (go_at_call 94; refine HE.out.mono ?_; rintro e w2 ⟨rfl, bw⟩) | fail)
          have B2 := Lib.hid (hbel.out.trans (((Below.refl wr.heap.size wr).drew.trans bw).mono hzr))
          clear bw
          cases Q with
          | true =>
            go_wp2_with fail
            go_roundw
            case rel =>
              refine ⟨k + 1, by omega, by simp, Lib.hid (fun j hj => ?_), B2⟩
              rcases Nat.lt_or_eq_of_le (Nat.le_of_lt_succ hj) with h | rfl
              · exact hq.out j h
              · have := HQ.out; rw [GX.out, GY.out]; simpa using this
            case measure => simp [intOf]; omega
          | false =>
            go_wp2_with fail
            go_ret
            exact ⟨by rw [pair_ne (j := k) (by have := HQ.out; rw [GX.out, GY.out]; simpa using this)]; rfl, B2.out⟩
        · have hkn : Hid (k = xs.length) := Lib.hid (by have := HN.out; omega)
          go_wp2_with fail
          go_ret
          exact ⟨by rw [pair_all HL.out hkn.out hq.out]; rfl, hbel.out⟩
  · have hd : ((xs.length : Int) != (ys.length : Int)) = true := by simp; omega
    have HQ : Hid ((xs == ys) = false) := Lib.hid (by rw [beq_eq_false_iff_ne]; rintro rfl; exact hl rfl)
    clear hl
    go_enter Try.func50, Try.ntmps50
    go_wp2_with fail
    go_ret
    exact ⟨by rw [HQ.out]; rfl, Below.refl _ _⟩
set_option maxHeartbeats 800000 in
theorem markS (v : Value) (xs : List PInt) (k : Nat) (lo hi : Nat) (w : World) (ho : OwnP 43 w lo hi v xs) (hk : k + 2 * xs.length ≤ 9223372036854775807) :
    Calls Try.prog 51 #[v, .int .i64 k] w fun e w' => e = .returned (.int .i64 ((k + 2 * xs.length : Nat) : Int)) ∧ OwnP 43 w' lo hi v (seqP k xs.length) ∧ Apart lo hi w w' := by
  by_cases hne : xs = []
  · subst hne
    obtain ⟨a, ca, rfl⟩ := ho.form
    go_enter Try.func51, Try.ntmps51
    go_wp2_with fail
    refine wp_loop_rounds 1 ?_
    rw [rounds_succ]
    go_wp2_with fail
    go_ret
    exact ⟨by simp, ho, Apart.refl _ _ _⟩
  · have hv : ∃ g cap, v = .slice (some ⟨g, 0, none⟩) xs.length cap := by
      rcases ho.1.2 with ⟨_, h2⟩ | ⟨g, cap, cur, rfl, _⟩
      · exact absurd (List.length_eq_zero_iff.1 h2) hne
      · exact ⟨g, cap, rfl⟩
    obtain ⟨g, cap, rfl⟩ := hv
    have HO := Lib.hid ho
    obtain ⟨n, hn⟩ : ∃ n, xs.length = n := ⟨_, rfl⟩
    have HN := Lib.hid hn
    rw [hn] at HO hk ⊢
    clear ho hne hn
    go_enter Try.func51, Try.ntmps51
    go_wp2_with fail
    go_loopw [1, 5] (fun m i wr => ∃ j : Nat, j ≤ n ∧ i = .int .i64 j ∧ m = .int .i64 ((k + 2 * j : Nat) : Int) ∧ Hid (OwnP 43 wr lo hi (.slice (some ⟨g, 0, none⟩) n cap) (seqP k j ++ xs.drop j)) ∧ Hid (Apart lo hi w wr)) (fun _ i _ => n - (intOf i).toNat)
    case atStart => exact ⟨0, Nat.zero_le _, rfl, by simp, Lib.hid (by simpa [seqP] using HO.out), Lib.hid (Apart.refl _ _ _)⟩
    case round =>
      obtain ⟨j, hj, rfl, rfl, hown, hap⟩ := hrel
      by_cases hlt : j < n
      · have hlen : Hid ((seqP k j ++ xs.drop j).length = n) := Lib.hid (by have := HN.out; simp [seqP_length]; omega)
        have how : Hid (wr.ownsRow lo 43 2 (.slice (some ⟨g, 0, none⟩) n cap) n (prs (seqP k j ++ xs.drop j))) := Lib.hid (by have := hown.out.1; rwa [hlen.out] at this)
        have hp := prs_get (seqP k j ++ xs.drop j) j (by have := hlen.out; omega)
        have hc : wr.cell? ⟨g, j * 2, none⟩ = some (.int .i64 ((seqP k j ++ xs.drop j).getD j (0, 0)).1) := (how.out.cellAt (j * 2) (by omega)).trans hp.1
        have hc1 : wr.cell? ⟨g, j * 2 + 1, none⟩ = some (.int .i64 ((seqP k j ++ xs.drop j).getD j (0, 0)).2) := (how.out.cellAt (j * 2 + 1) (by omega)).trans hp.2
        have hf : wr.frozen? ⟨g, j * 2, none⟩ = false := how.out.frozenAt _
        have hf1 : wr.frozen? ⟨g, j * 2 + 1, none⟩ = false := how.out.frozenAt _
        have hlo := how.out.lt g rfl
        have hhi := hown.out.2 g rfl
        have st1 := how.out.stored (j * 2) (.int .i64 ((k + 2 * j : Nat) : Int))
        have st2 := st1.1.stored (j * 2 + 1) (.int .i64 ((k + 2 * j + 1 : Nat) : Int))
        have HS1 := Lib.hid st1
        have HS2 := Lib.hid st2
        clear hp st1 st2
        generalize ((seqP k j ++ xs.drop j).getD j (0, 0)) = z at hc hc1
        go_wp2_with fail
        go_roundw
        case rel =>
          refine ⟨j + 1, by omega, by simp, by simp; omega, Lib.hid ⟨?_, fun q hq => by cases hq; exact hhi⟩, Lib.hid ((hap.out.trans (Apart.grown HS1.out.2 fun q hq => by cases hq; omega)).trans (Apart.grown HS2.out.2 fun q hq => by cases hq; omega))⟩
          have := HS2.out.1
          rw [set_two k xs j (by have := HN.out; omega)] at this
          have hl2 : (seqP k (j + 1) ++ xs.drop (j + 1)).length = n := by have := HN.out; simp [seqP_length]; omega
          rw [hl2]
          simpa using this
        case measure => simp [intOf]; omega
      · have hjn : j = n := by omega
        subst hjn
        have HD : Hid (xs.drop j = []) := Lib.hid (by have := HN.out; simp; omega)
        go_wp2_with fail
        go_ret
        exact ⟨by simp, by have := hown.out; rw [HD.out, List.append_nil] at this; exact this, hap.out⟩
set_option maxHeartbeats 800000 in
theorem heldS (v : Value) (xs : List PInt) (k n : Nat) (B : Nat) (w : World) (hr : ReadsP w B v xs) (hx : xs = seqP k n) (hk : k + 2 * n ≤ 9223372036854775807) :
    Calls Try.prog 52 #[v, .int .i64 k] w fun e w' => e = .returned (.int .i64 ((k + 2 * n : Nat) : Int)) ∧ w' = w := by
  have hn : xs.length = n := by rw [hx, seqP_length]
  obtain ⟨hla, a, ca, rfl, hca⟩ := hr
  rw [hn] at hca ⊢
  by_cases hne : xs = []
  · have h0 : n = 0 := by rw [← hn, hne]; rfl
    subst h0
    clear hca
    go_enter Try.func52, Try.ntmps52
    go_wp2_with fail
    refine wp_loop_rounds 1 ?_
    rw [rounds_succ]
    go_wp2_with fail
    go_ret
    exact ⟨by simp, rfl⟩
  · obtain ⟨b, o, rfl, hb, gca⟩ := hca hne
    have HC := Lib.hid gca
    have HX := Lib.hid hx
    clear hca gca hx hn hne hla
    go_enter Try.func52, Try.ntmps52
    go_wp2_with fail
    go_loop [1, 5] (fun m i => ∃ j : Nat, j ≤ n ∧ i = .int .i64 j ∧ m = .int .i64 ((k + 2 * j : Nat) : Int)) (fun _ i => n - (intOf i).toNat)
    case atStart => exact ⟨0, Nat.zero_le _, rfl, by simp⟩
    case round =>
      obtain ⟨j, hj, rfl, rfl⟩ := hrel
      by_cases hlt : j < n
      · have hg := HC.out j hlt
        rw [HX.out, seqP_get k n j hlt] at hg
        obtain ⟨hc, hc1⟩ := hg
        have q0 : (((k + 2 * j : Nat) : Int) != ((k + 2 * j : Nat) : Int)) = false := by simp
        have q1 : (((k + 2 * j + 1 : Nat) : Int) != ((k + 2 * j + 1 : Nat) : Int)) = false := by simp
        go_wp2_with fail
        go_round
        case rel => exact ⟨j + 1, by omega, by simp, by simp; omega⟩
        case measure => simp [intOf]; omega
      · have hjn : j = n := by omega
        subst hjn
        go_wp2_with fail
        go_ret
        exact ⟨rfl, rfl⟩
theorem to1 (p : PInt) (w : World) :
    Calls Try.prog 93 #[mk p] w fun e w' => e = .returned (mk p) ∧ Below w.heap.size w w' := by
  obtain ⟨a, b⟩ := p
  go_enter Try.func93, Try.ntmps93
  go_wp2_with fail
  refine bodyPost_ret (v := mk (a, b)) (by simp [results, Try.results93, go_sem]) rfl ⟨rfl, ?_⟩
  repeat (first | exact Below.refl _ _ | refine Below.setCell ?_ (by simp) _ | refine Below.alloc ?_ (by simp <;> omega) _)
theorem szS (v : Value) (n : Nat) (L : Int) (w : World) (hv : ∃ a c, v = .slice a n c) (hn : n ≤ 9223372036854775807) (h0 : 0 ≤ L) (hL : L ≤ 1048576) :
    Calls Try.prog 48 #[v, .int .i64 L] w fun e w' => e = .returned (.int .i64 (if L < (n : Int) then -1 else L - (n : Int))) ∧ w' = w := by
  obtain ⟨a, c, rfl⟩ := hv
  by_cases h : L < (n : Int)
  · have hd : decide (L - (n : Int) < 0) = true := by simp; omega
    rw [if_pos h]
    go_enter Try.func48, Try.ntmps48
    go_wp2_with fail
    go_ret
    exact ⟨rfl, rfl⟩
  · have hd : decide (L - (n : Int) < 0) = false := by simp; omega
    rw [if_neg h]
    go_enter Try.func48, Try.ntmps48
    go_wp2_with fail
    go_ret
    exact ⟨rfl, rfl⟩
theorem infoT : (Try.prog.info? 43).map (fun i => (i.zero, i.size, i.bytes)) = some (some (.agg #[.int .i64 0, .int .i64 0]), 2, 16) := by kernel_rfl
theorem set_pair (xs : List PInt) (ys : List Value) (j : Nat) (x : PInt) (hx : xs.length = j) (hy : j * 2 + 1 < ys.length) :
    ((prs xs ++ ys.drop (j * 2)).set (j * 2) (.int .i64 x.1)).set (j * 2 + 1) (.int .i64 x.2) = prs (xs ++ [x]) ++ ys.drop ((j + 1) * 2) := by
  have hl : (prs xs).length = j * 2 := by rw [prs_length, hx]
  rw [List.drop_eq_getElem_cons (by omega : j * 2 < ys.length), List.drop_eq_getElem_cons (by omega : j * 2 + 1 < ys.length)]
  rw [List.set_append_right _ _ (by omega), hl, Nat.sub_self, List.set_cons_zero, List.set_append_right _ _ (by omega), hl, Nat.add_sub_cancel_left, List.set_cons_succ, List.set_cons_zero, prs_app]
  have e : prs [x] = [.int .i64 x.1, .int .i64 x.2] := rfl
  rw [e, List.append_assoc, show (j + 1) * 2 = j * 2 + 1 + 1 by omega]
  rfl
set_option maxHeartbeats 1600000 in
theorem toS (v : Value) (xs : List PInt) (B : Nat) (w : World) (hr : ReadsP w B v xs) (hB : B ≤ w.heap.size) (hlen : xs.length ≤ 1048576) :
    Calls Try.prog 49 #[v] w fun e w' => ∃ u, e = .returned u ∧ OwnP 43 w' w.heap.size w'.heap.size u xs ∧ Below w.heap.size w w' := by
  obtain ⟨i0, hi, hz0, hz1, hz2⟩ := info_parts infoT
  obtain ⟨hla, a, ca, rfl, hca⟩ := hr
  obtain ⟨n, hn⟩ : ∃ n, xs.length = n := ⟨_, rfl⟩
  have HN := Lib.hid hn
  rw [hn] at hlen hca ⊢
  have HC : Hid (∀ j, j < n → ∃ b o, a = some ⟨b, o, none⟩ ∧ b < B ∧ w.cell? ⟨b, o + j * 2, none⟩ = some (.int .i64 (xs.getD j (0, 0)).1) ∧ w.cell? ⟨b, o + j * 2 + 1, none⟩ = some (.int .i64 (xs.getD j (0, 0)).2)) := Lib.hid fun j hj => by
    obtain ⟨b, o, h1, h2, h3⟩ := hca (by rintro rfl; simp at hn; omega)
    exact ⟨b, o, h1, h2, h3 j hj⟩
  clear hca hla hn
  go_enter Try.func49, Try.ntmps49
  go_wp2_with (at_make; refine wpList_make_full _ rfl _ _ 28 rfl w.heap.size 43 i0 (.agg #[.int .i64 0, .int .i64 0]) 2 Try.underlying28 hi hz0 hz1 .i64 .i64 _ _ n rfl rfl rfl rfl (by rw [hz2]; omega) (by unfold maxLen; omega) (Nat.le_refl _) ?_; intro w0 hown0 hgrow0)
  have H0 := Lib.hid hown0
  have HG := Lib.hid hgrow0
  clear hown0 hgrow0
  have hsz : (madeCells (Value.agg #[.int .i64 0, .int .i64 0]).cells (n * 2)).toList.length = n * 2 := by simp [size_madeCells]
  have HSZ := Lib.hid hsz
  clear hsz
  generalize (madeCells (Value.agg #[.int .i64 0, .int .i64 0]).cells (n * 2)).toList = ys at H0 HSZ
  go_loopw [4] (fun i wr => ∃ j : Nat, j ≤ n ∧ i = .int .i64 j ∧ Hid (wr.ownsRow w.heap.size 43 2 (.slice (some ⟨w.heap.size, 0, none⟩) n n) n (prs (xs.take j) ++ ys.drop (j * 2))) ∧ Hid (Below w.heap.size w wr)) (fun i _ => n - (intOf i).toNat)
  case atStart => exact ⟨0, Nat.zero_le _, rfl, Lib.hid (by simpa [prs] using H0.out), Lib.hid ((Below.refl _ _).grown HG.out (Nat.le_refl _) (fun q hq => by cases hq))⟩
  case round =>
    obtain ⟨j, hj, rfl, hown, hbel⟩ := hrel
    by_cases hlt : j < n
    · obtain ⟨b, o, rfl, hb, hc0, hc1⟩ := HC.out j hlt
      have c0 : wr.cell? ⟨b, o + j * 2, none⟩ = some (.int .i64 (xs.getD j (0, 0)).1) := (hbel.out.cell (p := ⟨b, o + j * 2, none⟩) (by show b < _; omega)).trans hc0
      have c1 : wr.cell? ⟨b, o + j * 2 + 1, none⟩ = some (.int .i64 (xs.getD j (0, 0)).2) := (hbel.out.cell (p := ⟨b, o + j * 2 + 1, none⟩) (by show b < _; omega)).trans hc1
      have hlen : (xs.take j).length = j := by have := HN.out; simp; omega
      have hst : xs.take (j + 1) = xs.take j ++ [xs.getD j (0, 0)] := by
        have := HN.out
        rw [List.take_add_one, List.getElem?_eq_getElem (by omega), List.getD_eq_getElem?_getD, List.getElem?_eq_getElem (by omega)]; rfl
      have HLN := Lib.hid hlen
      have HST := Lib.hid hst
      generalize xs.getD j (0, 0) = x at c0 c1 HST
      obtain ⟨x0, x1⟩ := x
      have hzr : w.heap.size < wr.heap.size := (hown.out.lt _ rfl).2
      have HT := Lib.hid (to1 (x0, x1) wr)
      clear hc0 hc1 hlen hst
      go_wp2_with fail
      refine HT.out.mono ?_
      rintro e w2 ⟨rfl, b2⟩
      have hown2 := rowP_same hown.out fun k hk => b2.block k (hown.out.lt k hk).2
      have hl2 : (prs (xs.take j) ++ ys.drop (j * 2)).length = n * 2 := by rw [List.length_append, prs_length, HLN.out, List.length_drop, HSZ.out]; omega
      obtain ⟨z0, d0⟩ : ∃ z, w2.cell? ⟨w.heap.size, j * 2, none⟩ = some z := by
        rw [hown2.cellAt (j * 2) (by omega)]
        exact ⟨_, List.getElem?_eq_getElem (by omega)⟩
      obtain ⟨z1, d1⟩ : ∃ z, w2.cell? ⟨w.heap.size, j * 2 + 1, none⟩ = some z := by
        rw [hown2.cellAt (j * 2 + 1) (by omega)]
        exact ⟨_, List.getElem?_eq_getElem (by omega)⟩
      have f0 : w2.frozen? ⟨w.heap.size, j * 2, none⟩ = false := hown2.frozenAt _
      have f1 : w2.frozen? ⟨w.heap.size, j * 2 + 1, none⟩ = false := hown2.frozenAt _
      have hz2' : w.heap.size < w2.heap.size := by have := b2.size; omega
      have st1 := Lib.hid (hown2.stored (j * 2) (.int .i64 x0))
      have st2 := Lib.hid (st1.out.1.stored (j * 2 + 1) (.int .i64 x1))
      have B2 := Lib.hid (hbel.out.trans (b2.mono (by omega)))
      clear b2 hown2 hl2
      go_wp2_with fail
      go_roundw
      case rel =>
        refine ⟨j + 1, by omega, by simp, Lib.hid ?_, Lib.hid ((B2.out.grown st1.out.2 B2.out.size fun q hq => by cases hq; omega).grown st2.out.2 (by simp; omega) fun q hq => by cases hq; omega)⟩
        have := st2.out.1
        rw [set_pair _ _ _ (x0, x1) HLN.out (by rw [HSZ.out]; omega), ← HST.out] at this
        exact this
      case measure => simp [intOf]; omega
    · have HJ := Lib.hid (show j = n by omega)
      go_wp2_with fail
      go_ret
      refine ⟨_, rfl, OwnP.made (n := n) ?_, hbel.out⟩
      have := hown.out
      rw [HJ.out, List.drop_of_length_le (by rw [HSZ.out]; omega), List.append_nil, List.take_of_length_le (by have := HN.out; omega)] at this
      exact this
end Go.Proofs.Ythodmmckekgkdaa.PRule
