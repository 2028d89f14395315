/-
  FnSplit: joining the parts restores the string, and no part can be split again.
-/
import Derived.Test.YtpgopifpmacheaaDoorDraw
import Derived.Test.YtpgopifpmacheaaDoorSplit
import Derived.Test.YtpgopifpmacheaaDoorJoin
namespace Go.Proofs.YtpgopifpmacheaaDoor.LSplit
open Go Go.RowKit Mem Mark Strs Cuts Draw

theorem join_cuts (c : UInt8) (l : List UInt8) : Lib.join (cuts c l) [c] = l := by
  induction l with
  | nil => rfl
  | cons b l ih =>
    have hne := cuts_ne c l
    unfold cuts
    cases hk : cuts c l with
    | nil => exact absurd hk hne
    | cons h t =>
      rw [hk, Lib.join_cons] at ih
      split
      · rename_i hb
        subst hb
        rw [Lib.join_cons, List.nil_append]
        simp only [Lib.joinTail, List.map_cons, List.flatten_cons] at ih ⊢
        rw [List.append_assoc, ih]
        rfl
      · rw [Lib.join_cons, List.cons_append, ih]
theorem cut_clean (c : UInt8) (l p : List UInt8) (h : p ∈ cuts c l) : c ∉ p := by
  induction l generalizing p with
  | nil => simp [cuts] at h; subst h; simp
  | cons b l ih =>
    unfold cuts at h
    split at h
    · simp at h
      rcases h with rfl | h
      · simp
      · exact ih p h
    · rename_i hb
      cases hk : cuts c l with
      | nil => exact absurd hk (cuts_ne c l)
      | cons x t =>
        rw [hk] at h ih
        simp at h
        rcases h with rfl | h
        · have := ih x (by simp)
          simp only [List.mem_cons, not_or]
          exact ⟨fun e => hb e.symm, this⟩
        · exact ih p (by simp [h])
theorem cut_le (c : UInt8) (l p : List UInt8) (h : p ∈ cuts c l) : p.length ≤ l.length := by
  induction l generalizing p with
  | nil => simp [cuts] at h; subst h; simp
  | cons b l ih =>
    unfold cuts at h
    split at h
    · simp at h
      rcases h with rfl | h
      · simp
      · have := ih p h; simp; omega
    · cases hk : cuts c l with
      | nil => exact absurd hk (cuts_ne c l)
      | cons x t =>
        rw [hk] at h ih
        simp at h
        rcases h with rfl | h
        · have := ih x (by simp); simp; omega
        · have := ih p (by simp [h]); simp; omega

theorem isBig (v : Value) (xs : List Value) (B : Nat) (w : World) (hr : Reads w B v xs) :
    Calls Tryd.prog 5 #[v] w fun e w' => e = .returned (.bool (decide (1048576 < xs.length))) ∧ w' = w := by
  obtain ⟨hl, a, ca, rfl, hca⟩ := hr
  clear hca
  go_enter Tryd.func5, Tryd.ntmps5
  go_wp2_with fail
  go_ret
  exact ⟨by
    have : decide ((1048576 : Int) < (xs.length : Int)) = decide (1048576 < xs.length) := by rw [decide_eq_decide]; omega
    rw [← this]; rfl, rfl⟩

def words : List (List UInt8) := [[], [97], [97, 44, 98], [44], [97, 44, 44, 98, 44], [97, 10, 98, 10]]
set_option maxRecDepth 100000 in
set_option maxHeartbeats 800000 in
theorem drawSplit (v : Value) (xs : List Int) (B : Nat) (w : World) (hr : Reads w B v (u8s xs)) (hB : B ≤ w.heap.size) (hx : ∀ j, j < xs.length → 0 ≤ xs.getD j 0 ∧ xs.getD j 0 ≤ 255) (hn : xs.length ≤ 1048576) :
    Calls Tryd.prog 13 #[v] w fun e w' => ∃ (l : List UInt8) (c : UInt8), e = .returned (.tuple #[.string ⟨l.toArray⟩, .int .u8 c.toNat]) ∧ l.length ≤ 10 ∧ Below w.heap.size w w' := by
  have HN := Lib.hid (l1New v xs B w hr hB hx hn)
  obtain ⟨_, a, ca, rfl, hca⟩ := hr
  have e0 : (u8s xs).length = xs.length := by simp [u8s]
  rw [e0] at HN ⊢
  clear hca hx hn e0
  go_enter Tryd.func13, Tryd.ntmps13
  go_wp2_with fail
  refine HN.out.mono ?_
  intro e w1 h1
  obtain ⟨he, c1, hs1, b1⟩ := h1
  subst he
  replace hs1 : w.heap.size + 1 ≤ w1.heap.size := by omega
  obtain ⟨wl, hwl⟩ : ∃ wl, wl = w1.alloc (.cells #[.string ⟨#[]⟩, .string ⟨#[97]⟩, .string ⟨#[97, 44, 98]⟩, .string ⟨#[44]⟩, .string ⟨#[97, 44, 44, 98, 44]⟩, .string ⟨#[97, 10, 98, 10]⟩] 9) := ⟨_, rfl⟩
  have o2 : Own 9 wl w1.heap.size wl.heap.size (.slice (some ⟨w1.heap.size, 0, none⟩) 6 6) (strs words) := by
    rw [hwl]
    exact Own.made (World.ownsRow_lit w1 (e := 9) (size := 1) (base := w1.heap.size) _ 6 (Nat.le_refl _) (by unfold maxLen; omega) rfl)
  have c2 : Cur wl B w.heap.size := by rw [hwl]; exact c1.below ((Below.refl _ _).alloc (Nat.le_refl _) _) (by omega)
  have b2 : Below w.heap.size w wl := by rw [hwl]; exact b1.alloc (by omega) _
  have hs2 : w1.heap.size + 1 ≤ wl.heap.size := by rw [hwl]; simp
  have HW := Lib.hid hwl
  have O2 := Lib.hid o2
  have C2 := Lib.hid c2
  have B2 := Lib.hid b2
  clear hwl o2 c2 b2 c1 b1
  go_wp2_with fail
  rw [← HW.out]
  refine (l1Pick B w.heap.size _ words w1.heap.size wl.heap.size wl C2.out O2.out (by omega) (by decide) (by decide)).mono ?_
  rintro e w3 ⟨j, rfl, hj, c3, a3⟩
  have hjl : (words.getD j []).length ≤ 10 := by
    have : ∀ j, j < 6 → (words.getD j []).length ≤ 10 := by decide
    exact this j hj
  generalize words.getD j [] = l at hjl
  have hs3 := a3.size
  have B3 := Lib.hid (B2.out.trans (a3.below (Nat.le_refl _) (by omega)))
  clear a3 B2 C2 O2 HW
  obtain ⟨wm, hwm⟩ : ∃ wm, wm = w3.alloc (.cells #[.int .i64 44, .int .i64 10] 3) := ⟨_, rfl⟩
  have o4 : Own 3 wm w3.heap.size wm.heap.size (.slice (some ⟨w3.heap.size, 0, none⟩) 2 2) (ints [44, 10]) := by
    rw [hwm]
    exact Own.made (World.ownsRow_lit w3 (e := 3) (size := 1) (base := w3.heap.size) _ 2 (Nat.le_refl _) (by unfold maxLen; omega) rfl)
  have c4 : Cur wm B w.heap.size := by rw [hwm]; exact c3.below ((Below.refl _ _).alloc (Nat.le_refl _) _) (by omega)
  have b4 : Below w.heap.size w wm := by rw [hwm]; exact B3.out.alloc (by omega) _
  have hs4 : w3.heap.size + 1 ≤ wm.heap.size := by rw [hwm]; simp
  have HW := Lib.hid hwm
  have O4 := Lib.hid o4
  have C4 := Lib.hid c4
  have B4 := Lib.hid b4
  clear hwm o4 c4 b4 c3 B3
  go_wp2_with fail
  rw [← HW.out]
  refine (l1PickInt B w.heap.size _ [44, 10] w3.heap.size wm.heap.size wm C4.out O4.out (by omega) (by decide) (by decide)).mono ?_
  rintro e w5 ⟨k, rfl, hk, c5, a5⟩
  have B5 := Lib.hid (B4.out.trans (a5.below (Nat.le_refl _) (by omega)))
  have hk2 : k = 0 ∨ k = 1 := by simp at hk; omega
  clear a5 c5 HW O4 C4 B4
  rcases hk2 with rfl | rfl
  · go_wp2_with fail
    go_ret2
    exact ⟨l, 44, rfl, hjl, B5.out⟩
  · go_wp2_with fail
    go_ret2
    exact ⟨l, 10, rfl, hjl, B5.out⟩

set_option maxRecDepth 100000 in
set_option maxHeartbeats 800000 in
theorem walk (v : Value) (xs : List Int) (w : World) (hr : Reads w w.heap.size v (u8s xs)) (hx : ∀ j, j < xs.length → 0 ≤ xs.getD j 0 ∧ xs.getD j 0 ≤ 255) (hS : w.ShapedOpen Tryd.prog) :
    Calls Tryd.prog 4 #[v] w fun e w' => e = .returned (.bool true) ∧ Below w.heap.size w w' := by
  have e0 : (u8s xs).length = xs.length := by simp [u8s]
  by_cases hlen : 1048576 < xs.length
  · have HB := Lib.hid (isBig v (u8s xs) _ w hr)
    have hd : decide (1048576 < (u8s xs).length) = true := by rw [e0]; simp; omega
    clear hr hx
    go_enter Tryd.func4, Tryd.ntmps4
    go_wp2_with fail
    refine HB.out.mono ?_
    rintro e w' ⟨rfl, rfl⟩
    go_wp2_with fail
    go_ret
    exact ⟨rfl, Below.refl _ _⟩
  · have HB := Lib.hid (isBig v (u8s xs) _ w hr)
    have hd : decide (1048576 < (u8s xs).length) = false := by rw [e0]; simp; omega
    have HD := Lib.hid (drawSplit v xs _ w hr (Nat.le_refl _) hx (by omega))
    have HS := Lib.hid hS
    clear hr hx hS
    go_enter Tryd.func4, Tryd.ntmps4
    go_wp2_with fail
    refine HB.out.mono ?_
    rintro e w' ⟨rfl, rfl⟩
    go_wp2_with fail
    refine HD.out.mono ?_
    rintro e w1 ⟨l, c, rfl, hl, b1⟩
    have hs1 := b1.size
    have B1 := Lib.hid b1
    clear b1 HD HB
    go_wp2_with fail
    refine (Split.impl_split l c (by omega) w1 (Split.shaped_below HS.out B1.out)).mono ?_
    rintro e w2 ⟨v2, rfl, o2, b2⟩
    have hs2 := b2.size
    have B2 := Lib.hid (B1.out.trans (b2.mono hs1))
    have O2 := Lib.hid o2
    clear b2 o2
    obtain ⟨a2, ca2, rfl⟩ := Joins.own_form O2.out.1
    have hcl := cuts_length c l
    have hce : ∀ j, j < (cuts c l).length → ((cuts c l).getD j []).length ≤ 10 ∧ cuts c ((cuts c l).getD j []) = [(cuts c l).getD j []] := fun j hj => by
      have hm : (cuts c l).getD j [] ∈ cuts c l := by rw [List.getD, List.getElem?_eq_getElem hj]; exact List.getElem_mem _
      have := cut_le c l _ hm
      exact ⟨by omega, cuts_none c _ (cut_clean c l _ hm)⟩
    have hjn : Joins.joined (cuts c l) [c] = l := by
      unfold Joins.joined
      rw [join_cuts, if_neg (by omega)]
    have e2 : (strs (cuts c l)).length = (cuts c l).length := by simp [strs]
    rw [e2] at O2 ⊢
    have H4 := Lib.hid (Split.spec_split l c (by omega))
    generalize hps : cuts c l = ps at hcl hce hjn O2 H4 ⊢
    have HPS := Lib.hid hps
    generalize hpn : ps.length = n at hcl O2 ⊢
    have HPN := Lib.hid hpn
    have HCE := Lib.hid hce
    have HJ := Lib.hid hjn
    clear hjn hce e2 hps hpn
    have kc := Mark.one_byte (c.toNat : Int) w2
    have hc0 : UInt8.ofNat ((c.toNat : Int)).toNat = c := by simp
    rw [hc0] at kc
    clear hc0
    go_wp2_with fail
    have b3 : Below w2.heap.size w2 (w2.alloc (.cells #[.int .u8 (c.toNat : Int)] 5)) := (Below.refl _ _).alloc (Nat.le_refl _) _
    refine (Joins.impl_join _ ps [c] w2.heap.size _ (O2.out.reads.below b3 (Nat.le_refl _)) O2.out.capOk (by simp) (by rw [HPN.out]; omega) (by simp) (fun j hj => by have := (HCE.out j hj).1; omega)).mono ?_
    intro e w3 h3
    obtain ⟨he, b4⟩ := h3
    subst he
    rw [HJ.out]
    have b34 : Below w2.heap.size w2 w3 := b3.trans (b4.mono (by simp))
    have hs3 := b34.size
    have B3 := Lib.hid (B2.out.trans (b34.mono (by omega)))
    have O3 := Lib.hid (O2.out.below b34 (Nat.le_refl _))
    clear b34 b3 b4 kc B2 O2
    have hq : (l == l) = true := by simp
    go_wp2_with fail
    refine (H4.out w3).mono ?_
    intro e w4 h4
    obtain ⟨v4, he, o4, b4⟩ := h4
    subst he
    have hs4 := b4.size
    have B4 := Lib.hid (B3.out.trans (b4.mono (by omega)))
    have O4 := Lib.hid (O3.out.below b4 (by omega))
    obtain ⟨a4, ca4, rfl⟩ := Joins.own_form o4.1
    have e4 : (strs ps).length = n := by rw [← HPN.out]; simp [strs]
    rw [e4]
    clear b4 o4 B3 O3 e4
    have hqn : ((n : Int) != (n : Int)) = false := by simp
    go_wp2_with fail
    go_loopw [6] (fun i wr => ∃ k : Nat, k ≤ n ∧ i = .int .i64 k ∧ Below w'.heap.size w' wr ∧ w2.heap.size ≤ wr.heap.size ∧ Own 9 wr w1.heap.size w2.heap.size (.slice a2 n ca2) (strs ps)) (fun i _ => n - (intOf i).toNat)
    case atStart => exact ⟨0, Nat.zero_le _, rfl, B4.out, by omega, O4.out⟩
    case round =>
      obtain ⟨k, hk, rfl, hbr, hsr, hor⟩ := hrel
      have BR := Lib.hid hbr
      have OR := Lib.hid hor
      by_cases hlt : k < n
      · obtain ⟨_, a', ca', hv, hca'⟩ := hor.reads
        have e5 : (strs ps).length = n := by rw [← HPN.out]; simp [strs]
        simp only [Value.slice.injEq] at hv
        obtain ⟨rfl, -, rfl⟩ := hv
        obtain ⟨b, off, rfl, hb, hcell⟩ := hca' (by intro h; rw [h] at e5; simp at e5; omega)
        have hlp : k < ps.length := by rw [HPN.out]; exact hlt
        have hcx : wr.cell? ⟨b, off + k, none⟩ = some (.string ⟨(ps.getD k []).toArray⟩) := (hcell k (by omega)).trans (strs_get ps k hlp)
        have hpk := HCE.out k hlp
        clear hca' hcell e5 hlp hbr hor
        generalize ps.getD k [] = pk at hcx hpk
        have hpl := hpk.1
        have HPK := Lib.hid hpk.2
        clear hpk
        go_wp2_with fail
        refine (Split.impl_split pk c (by omega) wr (Split.shaped_below HS.out BR.out)).mono ?_
        intro e w6 h6
        obtain ⟨v6, he, o6, b6⟩ := h6
        subst he
        rw [HPK.out] at o6
        have hs6 := b6.size
        have B6 := Lib.hid (BR.out.trans (b6.mono (by have := BR.out.size; omega)))
        have O6 := Lib.hid (OR.out.below b6 hsr)
        obtain ⟨a6, ca6, rfl⟩ := Joins.own_form o6.1
        simp only [strs, List.map_cons, List.map_nil, List.length_cons, List.length_nil]
        clear b6 o6 BR OR
        go_wp2_with fail
        go_roundw
        case rel => exact ⟨k + 1, by omega, by simp, B6.out, by omega, O6.out⟩
        case measure => simp [intOf]; omega
      · clear hbr hor
        go_wp2_with fail
        go_ret
        exact ⟨rfl, BR.out⟩
end Go.Proofs.YtpgopifpmacheaaDoor.LSplit
