/-
  Chapter 10 of the model: the stem base, bases, how many rules.
-/
import Derived.Test.YthodmmckekgkdaaStemS
import Derived.Test.YthodmmckekgkdaaPRule
import Derived.Deep.RegionHeld3
import Derived.Deep.AppendLies
namespace Go.Proofs.Ythodmmckekgkdaa.Stem
open Go Go.RowKit Mem Sets Ctx Tab Rule Lectic
set_option maxRecDepth 100000

set_option maxHeartbeats 1600000 in
theorem spec_pseudo (a : Int) (v : Value) (rs : List Int) (B : Nat) (w : World) (hr : Reads w B v (ints rs)) (hB : B ≤ w.heap.size) :
    Calls Try.prog 19 #[ctx a v] w fun e w' => ∃ u, e = .returned u ∧ Own 3 w' w.heap.size w'.heap.size u (ints (pseudoIntents a rs)) ∧ Below w.heap.size w w' := by
  obtain ⟨aa, ca, rfl⟩ := reads_form hr
  have hW := (Below.refl w.heap.size w).alloc (Nat.le_refl _) (.cells #[.int .i64 a, .slice aa rs.length ca] 26)
  have HR1 := Lib.hid (hr.below hW hB)
  have q0 : (w.alloc (.cells #[.int .i64 a, .slice aa rs.length ca] 26)).cell? ⟨w.heap.size, 0, none⟩ = some (.int .i64 a) := by simp
  have q1 : (w.alloc (.cells #[.int .i64 a, .slice aa rs.length ca] 26)).cell? ⟨w.heap.size, 1, none⟩ = some (.slice aa rs.length ca) := by simp
  have hz : w.heap.size < (w.alloc (.cells #[.int .i64 a, .slice aa rs.length ca] 26)).heap.size := by simp
  clear hr
  go_enter Try.func19, Try.ntmps19
  go_wp2_with fail
  generalize w.alloc (.cells #[.int .i64 a, .slice aa rs.length ca] 26) = W at HR1 hW q0 q1 hz ⊢
  have hBW : B ≤ W.heap.size := by omega
  have k0 := fun p : Past W => Past.cell q0 (by show w.heap.size < _; omega) p
  have k1 := fun p : Past W => Past.cell q1 (by show w.heap.size < _; omega) p
  have HBW := Lib.hid hW
  clear q0 q1 hW
  refine ((Past.start W).of (spec_isCtx a _ rs B W HR1.out hBW)).mono ?_
  rintro e _ ⟨rfl, p, rfl⟩
  have kp0 := k0 p
  have kp1 := k1 p
  have hbb := HBW.out.trans (p.h.mono (by omega))
  have hpz := p.size
  cases hic : isCtx a rs with
  | false =>
    have HX : Hid (pseudoIntents a rs = []) := Lib.hid (by rw [pseudoIntents, if_neg (by rw [hic]; decide)])
    have ho := World.ownsRow_lit (e := 3) (size := 1) p.w #[] 0 (Nat.le_refl _) (Nat.zero_le _) rfl
    have HO := Lib.hid (Own.made (cs := []) ho)
    clear hic ho
    go_wp2_with fail
    go_ret
    exact ⟨_, rfl, by rw [HX.out]; exact HO.out.mono (by omega) (Nat.le_refl _), hbb.alloc hbb.size _⟩
  | true =>
    have HX : Hid (pseudoIntents a rs = pseudo a rs) := Lib.hid (by rw [pseudoIntents, if_pos hic])
    have HP := Lib.hid (l10Pseudo a (.slice aa rs.length ca) rs B p.w (Past.reads HR1.out hBW p) (Nat.le_trans hBW p.size) hic)
    clear hic
    go_wp2_with fail
    refine HP.out.mono ?_
    rintro e w2 ⟨u, rfl, o2, b2⟩
    have hb2 := hbb.trans (b2.mono (by omega))
    go_wp2_with fail
    go_ret
    exact ⟨_, rfl, by rw [HX.out]; exact o2.mono (by omega) (Nat.le_refl _), hb2⟩
theorem newsQ (w : World) (x y : Int) (t : TypeId) : ∀ (j : Nat) (u : Value), (prs [(x, y)])[j]? = some u → (w.alloc (.cells #[.int .i64 x, .int .i64 y] t)).cell? ((⟨w.heap.size, 0, none⟩ : Addr).add j) = some u := by
  intro j u hj
  match j, hj with
  | 0, hj => simp [prs] at hj; subst hj; simp [Addr.add]
  | 1, hj => simp [prs] at hj; subst hj; simp [Addr.add]
theorem oneQ (p : PInt) : ∀ u ∈ prs [p], u.oneCell' = true := by
  intro u hu
  simp [prs] at hu
  rcases hu with rfl | rfl <;> rfl
theorem keepQ {w w' : World} {b : Nat} {o : Nat} {u : Value} {r : Option Nat} (h : w.cell? ⟨b, o, none⟩ = some u) (hg : w.grownBy w' r) (hb : b < w.heap.size) (hne : r ≠ some b) : w'.cell? ⟨b, o, none⟩ = some u := by
  have := hg.block b hb (fun e => hne e.symm)
  simp only [World.cell?] at h ⊢
  rw [this]; exact h
theorem stem_step {w0 w2 : World} {base n bl ol : Nat} {e : TypeId} {v u : Value} {xs : List Value} (hown : w0.ownsRow base e 2 v n xs) (b2 : Below w0.drew.heap.size w0.drew w2) (hc : w0.cell? ⟨bl, ol, none⟩ = some u) (hbl : bl < w0.heap.size) (ob : Obj) :
    w2.ownsRow base e 2 v n xs ∧ w2.cell? ⟨bl, ol, none⟩ = some u ∧ (w2.alloc ob).cell? ⟨bl, ol, none⟩ = some u ∧ bl < (w2.alloc ob).heap.size ∧ (∀ g, v.ownBlock = some g → base ≤ g) := by
  have h2 : w2.cell? ⟨bl, ol, none⟩ = some u := (b2.cell (p := ⟨bl, ol, none⟩) hbl).trans hc
  have hs : w0.heap.size ≤ w2.heap.size := b2.size
  exact ⟨rowP_same hown fun g hg => b2.block g (hown.lt g hg).2, h2, (World.cell?_alloc_lt w2 _ _ (show bl < w2.heap.size by omega)).trans h2, by simp; omega, fun g hg => (hown.lt g hg).1⟩
theorem stem_grow {W w3 : World} (p : Past W) {bl ol base : Nat} {v u : Value} {ob : Obj} {A C : Prop} (hg : (p.w.alloc ob).grownBy w3 v.ownBlock) (F : A ∧ C ∧ (p.w.alloc ob).cell? ⟨bl, ol, none⟩ = some u ∧ bl < (p.w.alloc ob).heap.size ∧ (∀ g, v.ownBlock = some g → base ≤ g)) (hne : ∀ g, v.ownBlock = some g → g ≠ bl) (hb : W.heap.size ≤ base) :
    ∃ p3 : Past W, p3.w = w3 ∧ p3.w.cell? ⟨bl, ol, none⟩ = some u :=
  ⟨⟨w3, (p.h.alloc p.size ob).grown hg (p.alloc ob).size (fun q hq => Nat.le_trans hb (F.2.2.2.2 q hq))⟩, rfl, keepQ F.2.2.1 hg F.2.2.2.1 (fun e => hne _ e rfl)⟩
set_option maxHeartbeats 6400000 in
theorem l10Stem (a : Int) (v : Value) (rs : List Int) (B : Nat) (w : World) (hr : Reads w B v (ints rs)) (hB : B ≤ w.heap.size) (hc : isCtx a rs = true) :
    Calls Try.prog 64 #[ctx a v] w fun e w' => ∃ u, e = .returned u ∧ OwnP 43 w' w.heap.size w'.heap.size u (stemOf a rs) ∧ Below w.heap.size w w' := by
  obtain ⟨i0, hinf, hz0, hz1, hz2⟩ := info_parts PRule.infoT
  obtain ⟨aa, ca, rfl⟩ := reads_form hr
  have hW := (Below.refl w.heap.size w).alloc (Nat.le_refl _) (.cells #[.int .i64 a, .slice aa rs.length ca] 26)
  have HR1 := Lib.hid (hr.below hW hB)
  have q0 : (w.alloc (.cells #[.int .i64 a, .slice aa rs.length ca] 26)).cell? ⟨w.heap.size, 0, none⟩ = some (.int .i64 a) := by simp
  have q1 : (w.alloc (.cells #[.int .i64 a, .slice aa rs.length ca] 26)).cell? ⟨w.heap.size, 1, none⟩ = some (.slice aa rs.length ca) := by simp
  have hz : w.heap.size < (w.alloc (.cells #[.int .i64 a, .slice aa rs.length ca] 26)).heap.size := by simp
  have HCT := Lib.hid hc
  clear hr hc
  go_enter Try.func64, Try.ntmps64
  go_upto_region 1 with fail
  generalize w.alloc (.cells #[.int .i64 a, .slice aa rs.length ca] 26) = W at HR1 hW q0 q1 hz ⊢
  have hBW : B ≤ W.heap.size := by omega
  have k0 := fun p : Past W => Past.cell q0 (by show w.heap.size < _; omega) p
  have k1 := fun p : Past W => Past.cell q1 (by show w.heap.size < _; omega) p
  have HBW := Lib.hid hW
  have HC := Lib.hid fun (p : Past W) (x : Nat) (hx : x < 256) => p.ofB (l4Closure a (.slice aa rs.length ca) rs (x : Int) B p.w (Past.reads HR1.out hBW p) (Nat.le_trans hBW p.size) HCT.out (by omega))
  change Hid (∀ (p : Past W) (x : Nat) (hx : x < 256), Calls _ _ _ _ fun e w' => e = .returned (.int .i64 ((clo a rs x : Nat) : Int)) ∧ ∃ q : Past W, w' = q.w ∧ Below p.w.heap.size p.w q.w) at HC
  have O0 : Hid ((W.alloc (.cells #[] 43 (0, 0))).ownsRow W.heap.size 43 2 (.slice (some ⟨W.heap.size, 0, none⟩) 0 0) 0 (prs [])) := Lib.hid (World.ownsRow_lit W #[] 0 (Nat.le_refl _) (Nat.zero_le _) rfl)
  have HP := Lib.hid (l10Pseudo a (.slice aa rs.length ca) rs B (W.alloc (.cells #[] 43 (0, 0))) (Past.reads HR1.out hBW ((Past.start W).alloc _)) (Nat.le_trans hBW ((Past.start W).alloc (.cells #[] 43 (0, 0))).size) HCT.out)
  have ka0 := k0 ((Past.start W).alloc (.cells #[] 43 (0, 0)))
  have ka1 := k1 ((Past.start W).alloc (.cells #[] 43 (0, 0)))
  clear hW
  go_wp2_with fail
  refine HP.out.mono ?_
  rintro e w1 ⟨u, rfl, o1, b1⟩
  have hz1w : W.heap.size + 1 ≤ w1.heap.size := by have := b1.size; simpa using this
  have HP1 : Hid (∃ p1 : Past W, p1.w = w1) := Lib.hid ⟨⟨w1, ((Past.start W).alloc (.cells #[] 43 (0, 0))).h.trans (b1.mono (by simp))⟩, rfl⟩
  have HO1 := Lib.hid (rowP_same O0.out fun g hg => b1.block g (O0.out.lt g hg).2)
  have HG := Lib.hid fun (k : Nat) (hk : k < (pseudo a rs).length) => stem_get HCT.out hk
  have hlen := pseudo_len HCT.out
  have HTL := Lib.hid (show (stemOf a rs).length = (pseudo a rs).length from stemOf_len a rs)
  obtain ⟨n, hn⟩ : ∃ n, (pseudo a rs).length = n := ⟨_, rfl⟩
  obtain ⟨al, cl, rfl, bl, ol, hal, hbl, hbl2, hcl⟩ : ∃ al cl, u = .slice al n cl ∧ ∃ bl ol, (0 < n → al = some ⟨bl, ol, none⟩) ∧ W.heap.size < bl ∧ (0 < n → bl < w1.heap.size) ∧ ∀ j, j < n → w1.cell? ⟨bl, ol + j, none⟩ = some (.int .i64 ((pseudo a rs).getD j 0)) := by
    obtain ⟨al, cl, rfl⟩ := own_form o1
    have hrd := o1.reads
    refine ⟨al, cl, by rw [hn], ?_⟩
    by_cases h0 : 0 < n
    · obtain ⟨_, a', c', hv, hcells⟩ := hrd
      injection hv with e1 e2 e3
      subst e1
      obtain ⟨b, o, rfl, h2, h3⟩ := hcells (by intro h; rw [List.map_eq_nil_iff] at h; rw [h] at hn; simp at hn; omega)
      have hob := (o1.1.lt b rfl).1
      refine ⟨b, o, fun _ => rfl, by simp at hob; omega, fun _ => h2, fun j hj => ?_⟩
      rw [h3 j (by simp [ints]; omega)]
      exact ints_get _ j (by omega)
    · exact ⟨W.heap.size + 1, 0, fun h => absurd h h0, by omega, fun h => absurd h h0, fun j hj => by omega⟩
  rw [hn] at HG hlen HTL
  have HCL := Lib.hid hcl
  obtain ⟨p1, rfl⟩ := HP1.out
  clear HP O0 o1 b1 hcl HP1 hn ka0 ka1
  go_wp2_with fail
  go_loopw [3, 5] (fun ov i wr => ∃ (k : Nat) (v0 : Value) (p : Past W), k ≤ n ∧ i = .int .i64 k ∧ ov = v0 ∧ Hid (p.w.ownsRow W.heap.size 43 2 v0 k (prs ((stemOf a rs).take k))) ∧ Hid (∀ g, v0.ownBlock = some g → g ≠ bl) ∧ (0 < n → bl < p.w.heap.size) ∧ Hid (∀ j, j < n → p.w.cell? ⟨bl, ol + j, none⟩ = some (.int .i64 ((pseudo a rs).getD j 0))) ∧ wr = p.w) (fun _ i _ => n - (intOf i).toNat)
  case atStart => exact ⟨0, _, p1, Nat.zero_le _, rfl, rfl, HO1, Lib.hid (fun g hg => by cases hg; show W.heap.size ≠ bl; omega), hbl2, HCL, rfl⟩
  case round =>
    obtain ⟨k, v0, p, hk, rfl, rfl, hown, hne, hblp, hcel, rfl⟩ := hrel
    by_cases hlt : k < n
    · obtain ⟨x, hx, -, hgx, -, htk⟩ := HG.out k hlt
      obtain rfl := hal (by omega)
      have hblz := hblp (by omega)
      have cx := hcel.out k hlt
      rw [hgx] at cx
      have HTK := Lib.hid htk
      have HCX := Lib.hid (HC.out p.drew x hx)
      clear htk hgx
      generalize clo a rs x = y at HTK HCX
      have HK1 : Hid (k + 1 ≤ maxLen) := Lib.hid (by unfold maxLen; omega)
      have HK2 : Hid ((k + 1) * 16 ≤ 140737488355328) := Lib.hid (by omega)
      have hpz := p.size
      have kp0 := k0 p
      have kp1 := k1 p
      obtain ⟨av, cv, hov⟩ := rowP_form hown.out
      subst hov
      have kd0 := k0 p.drew
      have kd1 := k1 p.drew
      have cxd : p.w.drew.cell? ⟨bl, ol + k, none⟩ = some (.int .i64 (x : Int)) := cx
      go_wp2_with fail
      go_region_held3 (fun wx => wx.cell? ⟨w.heap.size, 0, none⟩ = some (.int .i64 a) ∧ wx.cell? ⟨w.heap.size, 1, none⟩ = some (.slice aa rs.length ca) ∧ wx.cell? ⟨bl, ol + k, none⟩ = some (.int .i64 (x : Int)))
        (first | with_reducible exact ⟨kd0, kd1, cxd⟩ | with_reducible exact ⟨k0 p2, k1 p2, F.2.1⟩ | with_reducible exact ⟨k0 (p2.alloc _), k1 (p2.alloc _), F.2.2.1⟩ | with_reducible exact ⟨k0 p3, k1 p3, F3⟩ | fail)
        (first
          | (go_at_call 71; (with_reducible refine HCX.out.mono ?_); rintro e _ ⟨rfl, p2, rfl, b2⟩; have F := stem_step hown.out b2 cx hblz (.cells #[.int .i64 (x : Int), .int .i64 ((y : Nat) : Int)] 43))
          | (refine step_append_lies _ (by rfl) _ _ _ (by rfl) W.heap.size 43 i0 (.agg #[.int .i64 0, .int .i64 0]) 2 16 Try.underlying28 hinf hz0 hz1 hz2 rfl (by decide) _ k _ (by rfl) (F.1.alloc _) ⟨p2.w.heap.size, 0, none⟩ 1 1 (prs [((x : Int), ((y : Nat) : Int))]) (by rfl) (by rfl) (newsQ _ _ _ _) (oneQ _) Nat.one_pos HK1.out HK2.out (p2.alloc _).size _ rfl ?_; intro g cap w3 hown3 hgrow hat hlt3; obtain ⟨p3, rfl, F3⟩ := stem_grow p2 hgrow F hne.out (Nat.le_refl _)))
      have hsz3 : (p2.w.alloc (.cells #[.int .i64 (x : Int), .int .i64 ((y : Nat) : Int)] 43)).heap.size ≤ p3.w.heap.size := hgrow.size
      have hbl3 := F.2.2.2.1
      have HO4 := Lib.hid hown3
      have HN4 : Hid (∀ g', Value.ownBlock (.slice (some ⟨g, 0, none⟩) (k + 1) cap) = some g' → g' ≠ bl) := Lib.hid fun g' hg' => by
        cases hg'
        rcases hat with h | h
        · exact hne.out _ h
        · show g ≠ bl; omega
      have HC4 : Hid (∀ j, j < n → p3.w.cell? ⟨bl, ol + j, none⟩ = some (.int .i64 ((pseudo a rs).getD j 0))) := Lib.hid fun j hj => by
        obtain ⟨_, h1, h2⟩ := stem_grow p2 hgrow (stem_step hown.out b2 (hcel.out j hj) hblz _) hne.out (Nat.le_refl _)
        rw [h1] at h2; exact h2
      clear hown3 hgrow hat F F3 b2 kd0 kd1 cxd cx
      go_wp2_with fail
      go_roundw
      case rel => exact ⟨k + 1, _, p3, by omega, by simp, rfl, Lib.hid (by rw [HTK.out, prs_app]; exact HO4.out), HN4, fun _ => by omega, HC4, rfl⟩
      case measure => simp [intOf]; omega
    · have hrow := hown.out
      rw [show k = (stemOf a rs).length by have := HTL.out; omega, List.take_length] at hrow
      have HO := Lib.hid (OwnP.made hrow)
      have hkl := HTL.out
      have hbb := HBW.out.trans (p.h.mono (by omega))
      clear hrow hkl
      go_wp2_with fail
      go_ret
      exact ⟨_, rfl, by have h := HO.out.mono (lo' := w.heap.size) (by omega) (Nat.le_refl _); exact h, hbb⟩
end Go.Proofs.Ythodmmckekgkdaa.Stem
