/-
  Chapter 5 of the program: all concepts of a context, collected by a loop over a function.
-/
import Derived.Test.YthodmmckekgkdaaSeq
import Derived.Deep.RegionHeld
import Derived.Deep.AppendLies
namespace Go.Proofs.Ythodmmckekgkdaa.Ctx
open Go Go.RowKit Mem Sets
set_option maxRecDepth 100000
attribute [local go_sem] Oper.semAt_some

theorem grown_of_below {W W' : World} (h : Below W.heap.size W W') : W.grownBy W' none := ⟨h.os, h.tape, h.output, h.size, fun k hk _ => h.block k hk⟩
theorem keepsFrom_of_below {B : Nat} {W W' : World} (h : Below W.heap.size W W') : KeepsFrom B W W' := ⟨h.size, fun k _ _ hk _ => (h.block k (Array.getElem?_eq_some_iff.1 hk).1).trans hk⟩
theorem boxAt_from {β : Type} {B g : Nat} {t : TypeId} {cs : Array Value} (hg : g < B) : OwnFrom B (fun (_ : β) W => BoxAt W g t cs) :=
  fun _ _ _ _ hs hgr hr => (hgr.block g hs.lt (fun e => by have := (hr g e.symm).1; omega)).trans hs
theorem boxAt_not_row {W : World} {g : Nat} {t e : TypeId} {cs : Array Value} (h : BoxAt W g t cs) (hte : t ≠ e) {base size k : Nat} {v : Value} {xs : List Value} (hr : W.ownsRow base e size v k xs) : some g ≠ v.ownBlock := by
  rcases hr.2 with ⟨rfl, _⟩ | ⟨g', cap, cur, rfl, _, hgb, _⟩
  · simp [Value.ownBlock]
  · intro e'
    obtain rfl : g = g' := by simpa [Value.ownBlock] using e'
    have := (show W.heap[g]? = _ from h).symm.trans hgb
    simp at this
    exact hte this.2
/-- The concept of a closed set. -/
def cf (a : Int) (rs : List Int) (x : Nat) : PInt := (extent a rs (x : Nat), ((x : Nat) : Int))
theorem concepts_cf (a : Int) (rs : List Int) : concepts a rs = (closedList a rs).map (cf a rs) := by
  unfold concepts closedList
  cases hi : isCtx a rs with
  | false => rfl
  | true =>
    simp only [if_true]
    refine List.map_congr_left fun x hx => ?_
    obtain ⟨hx1, hx2, -⟩ := (mem_closedFrom (clo_ok hi).n8).1 hx
    have hs : isSet a (x : Int) = true := isSet_of_nat (isCtx_parts hi).1 (by have := isCtx_parts hi; omega) hx1
    have h2 : intTo a rs ((extTo rs (x : Int) rs.length : Nat) : Int) rs.length = x := hx2
    rw [conceptOf, cf, extent, if_pos ⟨hi, hs⟩, h2]
theorem seq_stops (n : Nat) (a : Int) (aa : Option Addr) (ca : Nat) (rs : List Int) (lo Bn : Nat) (w : World) (hb : BoxAt w Bn 26 #[.int .i64 a, .slice aa rs.length ca]) (hr : Reads w lo (.slice aa rs.length ca) (ints rs)) (hlo : lo ≤ Bn) :
    SeqStopsK Fence.wide n Try.prog 123 #[.pointer (some ⟨Bn, 0, none⟩)] (fun x : Nat => #[Value.int .i64 (x : Nat)]) (Keep lo Bn) (fun ys => ys = closedList a rs) (fun pre => pre <+: closedList a rs) (closedList a rs).length w :=
  fun l J Jx W hW hJ _ hY h0 => closed_seq n l Bn lo a _ rs J Jx (fun pre W1 W2 hj hb => hJ pre W1 W2 none hj (grown_of_below hb) (fun r e => by cases e)) hY W (hb.below hW hb.lt) (hr.below hW (by have := hb.lt; omega)) hlo h0
set_option maxHeartbeats 3200000 in
theorem impl_concepts (a : Int) (v : Value) (rs : List Int) (B : Nat) (w : World) (hr : Reads w B v (ints rs)) (hB : B ≤ w.heap.size) :
    Calls Try.prog 69 #[ctx a v] w fun e w' => ∃ u, e = .returned u ∧ OwnP 96 w' w.heap.size w'.heap.size u (concepts a rs) ∧ Below w.heap.size w w' := by
  obtain ⟨i0, hinf, hz0, hz1, hz2⟩ := info_parts infoC
  obtain ⟨aa, ca, rfl⟩ := reads_form hr
  have HR := Lib.hid hr
  clear hr
  refine (callsIn_wide (n := 3)).1 ?_
  refine callsIn_of_wp_marks Try.func69 rfl trivial ?_ rfl
  simp only [Try.ntmps69, List.size_toArray, List.length_cons, List.length_nil, Nat.reduceAdd, Nat.reduceSub, Array.replicate_succ, Array.replicate_zero, List.push_toArray, List.append_toArray, List.nil_append, List.cons_append]
  gi_wp2
  refine ⟨trivial, ?_⟩
  refine (callsIn_wide.2 (closedSets a (.slice aa rs.length ca) _)).mono ?_
  rintro e w' ⟨rfl, hw⟩
  subst w'
  have bC := BoxAt.new w 26 #[.int .i64 a, .slice aa rs.length ca]
  have bL := Boxed.new (w.alloc (.cells #[.int .i64 a, .slice aa rs.length ca] 26)) 66 (.slice none 0 0)
  have bS := BoxAt.new ((w.alloc (.cells #[.int .i64 a, .slice aa rs.length ca] 26)).alloc (.cells #[.slice none 0 0] 66)) 26 #[.int .i64 a, .slice aa rs.length ca]
  simp only [World.size_alloc] at bC bL bS
  have hB0 : Below w.heap.size w (((w.alloc (.cells #[.int .i64 a, .slice aa rs.length ca] 26)).alloc (.cells #[.slice none 0 0] 66)).alloc (.cells #[.int .i64 a, .slice aa rs.length ca] 26)) := (((Below.refl _ w).alloc (Nat.le_refl _) _).alloc (by simp) _).alloc (by simp; omega) _
  have bC' := (bC.alloc (.cells #[.slice none 0 0] 66)).alloc (.cells #[.int .i64 a, .slice aa rs.length ca] 26)
  have bL' := bL.alloc (.cells #[.int .i64 a, .slice aa rs.length ca] 26)
  have HR0 := Lib.hid (HR.out.below hB0 hB)
  gi_wp2
  have hz0' : w.heap.size + 3 = (((w.alloc (.cells #[.int .i64 a, .slice aa rs.length ca] 26)).alloc (.cells #[.slice none 0 0] 66)).alloc (.cells #[.int .i64 a, .slice aa rs.length ca] 26)).heap.size := by simp
  have HZ := Lib.hid hz0'
  clear hz0' bC bL
  generalize (((w.alloc (.cells #[.int .i64 a, .slice aa rs.length ca] 26)).alloc (.cells #[.slice none 0 0] 66)).alloc (.cells #[.int .i64 a, .slice aa rs.length ca] 26)) = W0 at bC' bL' bS hB0 HR0 HZ ⊢
  refine wpIn_rangeFunc_ownG rfl (by decide) (gf := 123) (lb := #[.pointer (some ⟨w.heap.size + 1 + 1, 0, none⟩)]) rfl trivial (enters_of Try.func123 (by kernel_rfl) rfl)
    (seq_stops 2 a aa ca rs B (w.heap.size + 1 + 1) W0 bS HR0.out (by omega)) (fun h k => h.trans k)
    (fun W l o o' hl ho h1 h2 => ⟨belowK_b (w := W0) (by have := HZ.out; omega) W l o o' hl ho h1 h2, World.putObj_heap_other (by have := HZ.out; omega)⟩) (Below.refl _ _) (fun _ => rfl)
    (fun (pre : List Nat) W => (∃ v, Boxed W (w.heap.size + 1) 66 v ∧ W.ownsRow w.heap.size 96 2 v pre.length (prs (pre.map (cf a rs))) ∧ True) ∧ Below w.heap.size w W ∧ BoxAt W w.heap.size 26 #[.int .i64 a, .slice aa rs.length ca] ∧ BoxAt W (w.heap.size + 1 + 1) 26 #[.int .i64 a, .slice aa rs.length ca])
    (fun _ _ _ => False)
    (OwnFrom.and (Own.from (holdsRow_own w.heap.size (w.heap.size + 1) 66 96 2 (fun pre : List Nat => pre.length) (fun pre => prs (pre.map (cf a rs))) (fun _ _ => True)) _) (OwnFrom.and (ownFrom_below (Nat.le_refl _) (by have := HZ.out; omega)) (OwnFrom.and (boxAt_from (by have := HZ.out; omega)) (boxAt_from (by have := HZ.out; omega)))))
    (fun _ _ _ _ _ hs _ _ => hs)
    ⟨⟨_, bL', World.ownsRow_nil _ _ _ _, trivial⟩, hB0, bC', bS⟩
    (fun x => { tmps := #[ctx a (.slice aa rs.length ca), .pointer (some ⟨w.heap.size, 0, none⟩), .slice none 0 0, .pointer (some ⟨w.heap.size + 1, 0, none⟩), .int .i64 (x : Nat), .agg #[.int .i64 a, .slice aa rs.length ca], .func (.func 123) #[] #[.pointer (some ⟨w.heap.size + 1 + 1, 0, none⟩)], .int .i64 (x : Nat), undef, undef, undef, undef, undef, undef, undef, undef, undef], defers := [] }) ?assign ?body ?done ?stop
  case assign =>
    intro l x W K hK
    gi_wp2
    exact hK
  case body =>
    rintro l pre x W ⟨⟨v, hv, hrow, -⟩, hbel, hbox, hboxS⟩ hlen
    have hc0 : W.cell? ⟨w.heap.size, 0, none⟩ = some (.int .i64 a) := hbox.cell 0
    have hc1 : W.cell? ⟨w.heap.size, 1, none⟩ = some (.slice aa rs.length ca) := hbox.cell 1
    have hcl := hv.cell
    have hlv := hv.lt
    gi_wp2
    refine wpIn_round_held (S := fun wx => wx.cell? ⟨w.heap.size, 0, none⟩ = some (.int .i64 a) ∧ wx.cell? ⟨w.heap.size, 1, none⟩ = some (.slice aa rs.length ca)) (by kernel_rfl) (by kernel_rfl) (fun ⟨_, _, h⟩ => h) ?_
    have hS : (W.drew).cell? ⟨w.heap.size, 0, none⟩ = some (.int .i64 a) ∧ (W.drew).cell? ⟨w.heap.size, 1, none⟩ = some (.slice aa rs.length ca) := ⟨hc0, hc1⟩
    refine wpAnyH_take (i := 1) (v := .agg #[.int .i64 a, .slice aa rs.length ca]) rfl (by kernel_rfl) (by kernel_rfl) (by kernel_rfl) (fun _ _ _ h => h) (Or.inl ⟨by rfl, ?_⟩) hS ?_
    · rintro wx ⟨k0, k1⟩
      go_simp
    try simp only [Act.put, List.setIfInBounds_toArray]
    refine wpAnyH_take (i := 2) (v := .int .i64 (x : Nat)) rfl (by kernel_rfl) (by kernel_rfl) (by kernel_rfl) (fun _ _ _ h => h) (Or.inl ⟨by rfl, ?_⟩) hS ?_
    · rintro wx ⟨k0, k1⟩
      go_simp
    try simp only [Act.put]
    refine wpAnyH_take (i := 4) (v := .int .i64 (x : Nat)) rfl (by kernel_rfl) (by kernel_rfl) (by kernel_rfl) (fun _ _ _ h => h) (Or.inl ⟨by rfl, ?_⟩) hS ?_
    · rintro wx ⟨k0, k1⟩
      go_simp
    try simp only [Act.put]
    refine wpAnyH_ready (rs := [0, 3]) (by kernel_rfl) (by simp) ?_
    refine AllReadyH.cons rfl (fun K hK => ?_) (AllReadyH.cons rfl (fun K hK => ?_) AllReadyH.nil)
    · go_simp
      refine hK.out _ _ hS (fun _ => ?_)
      clear hK K
      try simp only [Act.put, List.setIfInBounds_toArray, List.set_cons_zero, List.set_cons_succ]
      refine wpAnyH_ready (rs := [3]) (by kernel_rfl) (by simp) ?_
      refine AllReadyH.cons rfl (fun K hK => ?_) AllReadyH.nil
      go_simp
      refine (impl_extent a (.slice aa rs.length ca) rs (x : Nat) B _ ((HR.out.below hbel hB).below (Below.refl W.heap.size W).drew (Nat.le_trans hB hbel.size)) (Nat.le_trans hB hbel.size)).mono ?_
      rintro e w2 ⟨rfl, b2⟩
      have b2' : Below W.heap.size W w2 := (Below.refl W.heap.size W).drew.trans b2
      clear b2
      have hv2 : Boxed w2 (w.heap.size + 1) 66 v := (b2'.block _ hlv).trans hv
      have hbox2 := hbox.below b2' hbox.lt
      have hboxS2 := hboxS.below b2' hboxS.lt
      have hrow2 := Lib.hid (rowP_same hrow fun k hk => b2'.block k (hrow.lt k hk).2)
      have hB2 := Lib.hid b2'
      have hzz : w.heap.size ≤ w2.heap.size := Nat.le_trans hbel.size b2'.size
      clear b2' hc0 hc1 hcl hS
      have hS : w2.cell? ⟨w.heap.size, 0, none⟩ = some (.int .i64 a) ∧ w2.cell? ⟨w.heap.size, 1, none⟩ = some (.slice aa rs.length ca) := ⟨hbox2.cell 0, hbox2.cell 1⟩
      have hcl2 := hv2.cell
      refine hK.out _ _ hS (fun _ => ?_)
      clear hK K
      try simp only [Act.put, List.setIfInBounds_toArray, List.set_cons_zero, List.set_cons_succ]
      generalize hp : extent a rs (x : Nat) = p
      refine wpAnyH_take (i := 5) (v := .agg #[.int .i64 p, .int .i64 (x : Nat)]) rfl (by kernel_rfl) (by kernel_rfl) (by kernel_rfl) (fun _ _ _ h => h) (Or.inl ⟨by rfl, ?_⟩) hS ?_
      · rintro wx ⟨k0, k1⟩
        go_simp
      try simp only [Act.put, List.setIfInBounds_toArray]
      refine wpAnyH_ready (rs := [6]) (by kernel_rfl) (by simp) ?_
      refine AllReadyH.cons rfl (fun K hK => ?_) AllReadyH.nil
      go_simp
      have hOA := hrow2.out.alloc (.cells #[.int .i64 p, .int .i64 (x : Nat)] 96)
      have hvA := hv2.alloc (.cells #[.int .i64 p, .int .i64 (x : Nat)] 96)
      have hbA := hbox2.alloc (.cells #[.int .i64 p, .int .i64 (x : Nat)] 96)
      have hbSA := hboxS2.alloc (.cells #[.int .i64 p, .int .i64 (x : Nat)] 96)
      have hclA := hvA.cell
      clear hS
      have hS : (w2.alloc (.cells #[.int .i64 p, .int .i64 (x : Nat)] 96)).cell? ⟨w.heap.size, 0, none⟩ = some (.int .i64 a) ∧ (w2.alloc (.cells #[.int .i64 p, .int .i64 (x : Nat)] 96)).cell? ⟨w.heap.size, 1, none⟩ = some (.slice aa rs.length ca) := ⟨hbA.cell 0, hbA.cell 1⟩
      refine hK.out _ _ hS (fun _ => ?_)
      clear hK K
      try simp only [Act.put, List.setIfInBounds_toArray, List.set_cons_zero, List.set_cons_succ]
      refine wpAnyH_ready (rs := [7]) (by kernel_rfl) (by simp) ?_
      refine AllReadyH.cons rfl (fun K hK => ?_) AllReadyH.nil
      have hln : pre.length + 1 ≤ 256 := Nat.le_trans hlen (by unfold closedList; split; exact closedFrom_len _ _ _; simp)
      refine step_append_lies _ rfl _ _ _ rfl w.heap.size 96 i0 (.agg #[.int .i64 0, .int .i64 0]) 2 16 Try.underlying66 hinf hz0 hz1 hz2 rfl (by decide) v pre.length _ rfl hOA ⟨w2.heap.size, 0, none⟩ 1 1 (prs [(p, ((x : Nat) : Int))]) rfl rfl (newsP _ _ _) (oneP _) Nat.one_pos (by unfold maxLen; omega) (by omega) (by simp; omega) _ rfl ?_
      intro g cap w3 hown hgrow hat hlt3
      obtain ⟨hv3, hv4, hr4, hk4, hb4⟩ := hv2.appended (by decide) hrow2.out hzz (Nat.le_succ _) hown hgrow
      have hne : ∀ k, k = w.heap.size ∨ k = w.heap.size + 1 + 1 → some k ≠ v.ownBlock := by
        rintro k (rfl | rfl)
        · exact boxAt_not_row hbA (by decide) hOA
        · exact boxAt_not_row hbSA (by decide) hOA
      have hb3 : BoxAt w3 w.heap.size _ _ := (hgrow.block _ hbA.lt (hne _ (.inl rfl))).trans hbA
      have hbS3 : BoxAt w3 (w.heap.size + 1 + 1) _ _ := (hgrow.block _ hbSA.lt (hne _ (.inr rfl))).trans hbSA
      have hc3 := hv3.cell
      have hf3 := hv3.frozen
      clear hS
      have hS : w3.cell? ⟨w.heap.size, 0, none⟩ = some (.int .i64 a) ∧ w3.cell? ⟨w.heap.size, 1, none⟩ = some (.slice aa rs.length ca) := ⟨hb3.cell 0, hb3.cell 1⟩
      refine hK.out _ _ hS (fun _ => ?_)
      clear hK K
      try simp only [Act.put, List.setIfInBounds_toArray]
      refine wpAnyH_ready (rs := [8]) (by kernel_rfl) (by simp) ?_
      refine AllReadyH.cons rfl (fun K hK => ?_) AllReadyH.nil
      go_simp
      have hb5 : BoxAt (w3.setCell ⟨w.heap.size + 1, 0, none⟩ (.slice (some ⟨g, 0, none⟩) (pre.length + 1) cap)) w.heap.size _ _ := (Below.heap_setCell _ _ _ _ (by simp)).trans hb3
      have hbS5 : BoxAt (w3.setCell ⟨w.heap.size + 1, 0, none⟩ (.slice (some ⟨g, 0, none⟩) (pre.length + 1) cap)) (w.heap.size + 1 + 1) _ _ := (Below.heap_setCell _ _ _ _ (by simp)).trans hbS3
      have hlen2 : Hid ((w3.setCell ⟨w.heap.size + 1, 0, none⟩ (.slice (some ⟨g, 0, none⟩) (pre.length + 1) cap)).ownsRow w.heap.size 96 2 (.slice (some ⟨g, 0, none⟩) (pre.length + 1) cap) (pre ++ [x]).length (prs ((pre ++ [x]).map (cf a rs)))) := Lib.hid (by
        rw [List.map_append, prs_app, List.length_append, List.map_cons, List.map_nil, show cf a rs x = (p, ((x : Nat) : Int)) by rw [cf, hp]]
        exact hr4)
      refine hK.out _ _ ⟨hb5.cell 0, hb5.cell 1⟩ (fun _ => ?_)
      clear hK K
      refine wpAnyH_done (by kernel_rfl) ?_ _
      exact ⟨(keepsFrom_of_below hB2.out).trans (hk4.from _), ⟨(hB2.out.mono (Nat.le_trans hB hbel.size)).trans (hb4.mono hB), hbS5.trans hboxS.symm⟩, ⟨⟨_, hv4, hlen2.out, trivial⟩, hbel.trans ((hB2.out.mono hbel.size).trans hb4), hb5, hbS5⟩⟩
    · go_simp
      refine (impl_extent a (.slice aa rs.length ca) rs (x : Nat) B _ ((HR.out.below hbel hB).below (Below.refl W.heap.size W).drew (Nat.le_trans hB hbel.size)) (Nat.le_trans hB hbel.size)).mono ?_
      rintro e w2 ⟨rfl, b2⟩
      have b2' : Below W.heap.size W w2 := (Below.refl W.heap.size W).drew.trans b2
      clear b2
      have hv2 : Boxed w2 (w.heap.size + 1) 66 v := (b2'.block _ hlv).trans hv
      have hbox2 := hbox.below b2' hbox.lt
      have hboxS2 := hboxS.below b2' hboxS.lt
      have hrow2 := Lib.hid (rowP_same hrow fun k hk => b2'.block k (hrow.lt k hk).2)
      have hB2 := Lib.hid b2'
      have hzz : w.heap.size ≤ w2.heap.size := Nat.le_trans hbel.size b2'.size
      clear b2' hc0 hc1 hcl hS
      have hS : w2.cell? ⟨w.heap.size, 0, none⟩ = some (.int .i64 a) ∧ w2.cell? ⟨w.heap.size, 1, none⟩ = some (.slice aa rs.length ca) := ⟨hbox2.cell 0, hbox2.cell 1⟩
      have hcl2 := hv2.cell
      refine hK.out _ _ hS (fun _ => ?_)
      clear hK K
      try simp only [Act.put, List.setIfInBounds_toArray, List.set_cons_zero, List.set_cons_succ]
      generalize hp : extent a rs (x : Nat) = p
      refine wpAnyH_take (i := 5) (v := .agg #[.int .i64 p, .int .i64 (x : Nat)]) rfl (by kernel_rfl) (by kernel_rfl) (by kernel_rfl) (fun _ _ _ h => h) (Or.inl ⟨by rfl, ?_⟩) hS ?_
      · rintro wx ⟨k0, k1⟩
        go_simp
      try simp only [Act.put, List.setIfInBounds_toArray]
      refine wpAnyH_ready (rs := [0, 6]) (by kernel_rfl) (by simp) ?_
      refine AllReadyH.cons rfl (fun K hK => ?_) (AllReadyH.cons rfl (fun K hK => ?_) AllReadyH.nil)
      · go_simp
        refine hK.out _ _ hS (fun _ => ?_)
        clear hK K
        try simp only [Act.put, List.setIfInBounds_toArray, List.set_cons_zero, List.set_cons_succ]
        refine wpAnyH_ready (rs := [6]) (by kernel_rfl) (by simp) ?_
        refine AllReadyH.cons rfl (fun K hK => ?_) AllReadyH.nil
        go_simp
        have hOA := hrow2.out.alloc (.cells #[.int .i64 p, .int .i64 (x : Nat)] 96)
        have hvA := hv2.alloc (.cells #[.int .i64 p, .int .i64 (x : Nat)] 96)
        have hbA := hbox2.alloc (.cells #[.int .i64 p, .int .i64 (x : Nat)] 96)
        have hbSA := hboxS2.alloc (.cells #[.int .i64 p, .int .i64 (x : Nat)] 96)
        have hclA := hvA.cell
        clear hS
        have hS : (w2.alloc (.cells #[.int .i64 p, .int .i64 (x : Nat)] 96)).cell? ⟨w.heap.size, 0, none⟩ = some (.int .i64 a) ∧ (w2.alloc (.cells #[.int .i64 p, .int .i64 (x : Nat)] 96)).cell? ⟨w.heap.size, 1, none⟩ = some (.slice aa rs.length ca) := ⟨hbA.cell 0, hbA.cell 1⟩
        refine hK.out _ _ hS (fun _ => ?_)
        clear hK K
        try simp only [Act.put, List.setIfInBounds_toArray, List.set_cons_zero, List.set_cons_succ]
        refine wpAnyH_ready (rs := [7]) (by kernel_rfl) (by simp) ?_
        refine AllReadyH.cons rfl (fun K hK => ?_) AllReadyH.nil
        have hln : pre.length + 1 ≤ 256 := Nat.le_trans hlen (by unfold closedList; split; exact closedFrom_len _ _ _; simp)
        refine step_append_lies _ rfl _ _ _ rfl w.heap.size 96 i0 (.agg #[.int .i64 0, .int .i64 0]) 2 16 Try.underlying66 hinf hz0 hz1 hz2 rfl (by decide) v pre.length _ rfl hOA ⟨w2.heap.size, 0, none⟩ 1 1 (prs [(p, ((x : Nat) : Int))]) rfl rfl (newsP _ _ _) (oneP _) Nat.one_pos (by unfold maxLen; omega) (by omega) (by simp; omega) _ rfl ?_
        intro g cap w3 hown hgrow hat hlt3
        obtain ⟨hv3, hv4, hr4, hk4, hb4⟩ := hv2.appended (by decide) hrow2.out hzz (Nat.le_succ _) hown hgrow
        have hne : ∀ k, k = w.heap.size ∨ k = w.heap.size + 1 + 1 → some k ≠ v.ownBlock := by
          rintro k (rfl | rfl)
          · exact boxAt_not_row hbA (by decide) hOA
          · exact boxAt_not_row hbSA (by decide) hOA
        have hb3 : BoxAt w3 w.heap.size _ _ := (hgrow.block _ hbA.lt (hne _ (.inl rfl))).trans hbA
        have hbS3 : BoxAt w3 (w.heap.size + 1 + 1) _ _ := (hgrow.block _ hbSA.lt (hne _ (.inr rfl))).trans hbSA
        have hc3 := hv3.cell
        have hf3 := hv3.frozen
        clear hS
        have hS : w3.cell? ⟨w.heap.size, 0, none⟩ = some (.int .i64 a) ∧ w3.cell? ⟨w.heap.size, 1, none⟩ = some (.slice aa rs.length ca) := ⟨hb3.cell 0, hb3.cell 1⟩
        refine hK.out _ _ hS (fun _ => ?_)
        clear hK K
        try simp only [Act.put, List.setIfInBounds_toArray]
        refine wpAnyH_ready (rs := [8]) (by kernel_rfl) (by simp) ?_
        refine AllReadyH.cons rfl (fun K hK => ?_) AllReadyH.nil
        go_simp
        have hb5 : BoxAt (w3.setCell ⟨w.heap.size + 1, 0, none⟩ (.slice (some ⟨g, 0, none⟩) (pre.length + 1) cap)) w.heap.size _ _ := (Below.heap_setCell _ _ _ _ (by simp)).trans hb3
        have hbS5 : BoxAt (w3.setCell ⟨w.heap.size + 1, 0, none⟩ (.slice (some ⟨g, 0, none⟩) (pre.length + 1) cap)) (w.heap.size + 1 + 1) _ _ := (Below.heap_setCell _ _ _ _ (by simp)).trans hbS3
        have hlen2 : Hid ((w3.setCell ⟨w.heap.size + 1, 0, none⟩ (.slice (some ⟨g, 0, none⟩) (pre.length + 1) cap)).ownsRow w.heap.size 96 2 (.slice (some ⟨g, 0, none⟩) (pre.length + 1) cap) (pre ++ [x]).length (prs ((pre ++ [x]).map (cf a rs)))) := Lib.hid (by
          rw [List.map_append, prs_app, List.length_append, List.map_cons, List.map_nil, show cf a rs x = (p, ((x : Nat) : Int)) by rw [cf, hp]]
          exact hr4)
        refine hK.out _ _ ⟨hb5.cell 0, hb5.cell 1⟩ (fun _ => ?_)
        clear hK K
        refine wpAnyH_done (by kernel_rfl) ?_ _
        exact ⟨(keepsFrom_of_below hB2.out).trans (hk4.from _), ⟨(hB2.out.mono (Nat.le_trans hB hbel.size)).trans (hb4.mono hB), hbS5.trans hboxS.symm⟩, ⟨⟨_, hv4, hlen2.out, trivial⟩, hbel.trans ((hB2.out.mono hbel.size).trans hb4), hb5, hbS5⟩⟩
      · go_simp
        have hOA := hrow2.out.alloc (.cells #[.int .i64 p, .int .i64 (x : Nat)] 96)
        have hvA := hv2.alloc (.cells #[.int .i64 p, .int .i64 (x : Nat)] 96)
        have hbA := hbox2.alloc (.cells #[.int .i64 p, .int .i64 (x : Nat)] 96)
        have hbSA := hboxS2.alloc (.cells #[.int .i64 p, .int .i64 (x : Nat)] 96)
        have hclA := hvA.cell
        clear hS
        have hS : (w2.alloc (.cells #[.int .i64 p, .int .i64 (x : Nat)] 96)).cell? ⟨w.heap.size, 0, none⟩ = some (.int .i64 a) ∧ (w2.alloc (.cells #[.int .i64 p, .int .i64 (x : Nat)] 96)).cell? ⟨w.heap.size, 1, none⟩ = some (.slice aa rs.length ca) := ⟨hbA.cell 0, hbA.cell 1⟩
        refine hK.out _ _ hS (fun _ => ?_)
        clear hK K
        try simp only [Act.put, List.setIfInBounds_toArray, List.set_cons_zero, List.set_cons_succ]
        refine wpAnyH_ready (rs := [0]) (by kernel_rfl) (by simp) ?_
        refine AllReadyH.cons rfl (fun K hK => ?_) AllReadyH.nil
        go_simp
        refine hK.out _ _ hS (fun _ => ?_)
        clear hK K
        try simp only [Act.put, List.setIfInBounds_toArray, List.set_cons_zero, List.set_cons_succ]
        refine wpAnyH_ready (rs := [7]) (by kernel_rfl) (by simp) ?_
        refine AllReadyH.cons rfl (fun K hK => ?_) AllReadyH.nil
        have hln : pre.length + 1 ≤ 256 := Nat.le_trans hlen (by unfold closedList; split; exact closedFrom_len _ _ _; simp)
        refine step_append_lies _ rfl _ _ _ rfl w.heap.size 96 i0 (.agg #[.int .i64 0, .int .i64 0]) 2 16 Try.underlying66 hinf hz0 hz1 hz2 rfl (by decide) v pre.length _ rfl hOA ⟨w2.heap.size, 0, none⟩ 1 1 (prs [(p, ((x : Nat) : Int))]) rfl rfl (newsP _ _ _) (oneP _) Nat.one_pos (by unfold maxLen; omega) (by omega) (by simp; omega) _ rfl ?_
        intro g cap w3 hown hgrow hat hlt3
        obtain ⟨hv3, hv4, hr4, hk4, hb4⟩ := hv2.appended (by decide) hrow2.out hzz (Nat.le_succ _) hown hgrow
        have hne : ∀ k, k = w.heap.size ∨ k = w.heap.size + 1 + 1 → some k ≠ v.ownBlock := by
          rintro k (rfl | rfl)
          · exact boxAt_not_row hbA (by decide) hOA
          · exact boxAt_not_row hbSA (by decide) hOA
        have hb3 : BoxAt w3 w.heap.size _ _ := (hgrow.block _ hbA.lt (hne _ (.inl rfl))).trans hbA
        have hbS3 : BoxAt w3 (w.heap.size + 1 + 1) _ _ := (hgrow.block _ hbSA.lt (hne _ (.inr rfl))).trans hbSA
        have hc3 := hv3.cell
        have hf3 := hv3.frozen
        clear hS
        have hS : w3.cell? ⟨w.heap.size, 0, none⟩ = some (.int .i64 a) ∧ w3.cell? ⟨w.heap.size, 1, none⟩ = some (.slice aa rs.length ca) := ⟨hb3.cell 0, hb3.cell 1⟩
        refine hK.out _ _ hS (fun _ => ?_)
        clear hK K
        try simp only [Act.put, List.setIfInBounds_toArray]
        refine wpAnyH_ready (rs := [8]) (by kernel_rfl) (by simp) ?_
        refine AllReadyH.cons rfl (fun K hK => ?_) AllReadyH.nil
        go_simp
        have hb5 : BoxAt (w3.setCell ⟨w.heap.size + 1, 0, none⟩ (.slice (some ⟨g, 0, none⟩) (pre.length + 1) cap)) w.heap.size _ _ := (Below.heap_setCell _ _ _ _ (by simp)).trans hb3
        have hbS5 : BoxAt (w3.setCell ⟨w.heap.size + 1, 0, none⟩ (.slice (some ⟨g, 0, none⟩) (pre.length + 1) cap)) (w.heap.size + 1 + 1) _ _ := (Below.heap_setCell _ _ _ _ (by simp)).trans hbS3
        have hlen2 : Hid ((w3.setCell ⟨w.heap.size + 1, 0, none⟩ (.slice (some ⟨g, 0, none⟩) (pre.length + 1) cap)).ownsRow w.heap.size 96 2 (.slice (some ⟨g, 0, none⟩) (pre.length + 1) cap) (pre ++ [x]).length (prs ((pre ++ [x]).map (cf a rs)))) := Lib.hid (by
          rw [List.map_append, prs_app, List.length_append, List.map_cons, List.map_nil, show cf a rs x = (p, ((x : Nat) : Int)) by rw [cf, hp]]
          exact hr4)
        refine hK.out _ _ ⟨hb5.cell 0, hb5.cell 1⟩ (fun _ => ?_)
        clear hK K
        refine wpAnyH_done (by kernel_rfl) ?_ _
        exact ⟨(keepsFrom_of_below hB2.out).trans (hk4.from _), ⟨(hB2.out.mono (Nat.le_trans hB hbel.size)).trans (hb4.mono hB), hbS5.trans hboxS.symm⟩, ⟨⟨_, hv4, hlen2.out, trivial⟩, hbel.trans ((hB2.out.mono hbel.size).trans hb4), hb5, hbS5⟩⟩
  case done =>
    rintro D ys W hD rfl ⟨⟨v, hv, hrow, -⟩, hbel, -⟩ hK
    have hc := hv.cell
    gi_wp2
    refine ⟨by simp, .inl ⟨_, _, rfl, run_takeDeferred hK, ?_⟩⟩
    refine ⟨_, results_tmp rfl _ _ _, v, rfl, ?_, hbel.trans (belowK_b (w := w) (Nat.le_refl _) W D _ _ (by have := HZ.out; omega) hK rfl rfl)⟩
    rw [concepts_cf]
    exact OwnP.made (ownsRow_putObj hrow _ hK rfl)
  case stop =>
    rintro D c pre W _ _ h _
    exact h.elim
end Go.Proofs.Ythodmmckekgkdaa.Ctx
