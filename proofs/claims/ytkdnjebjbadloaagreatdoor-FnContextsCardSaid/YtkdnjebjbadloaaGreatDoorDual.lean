/-
  Chapter 3's functions that make a context, one contract each, of the program and of the model: DualContext, ComplementContext.
-/
import Derived.Test.YtkdnjebjbadloaaGreatDoorCol
import Derived.Deep.AppendLies
import Derived.Deep.RegionLaw
import Derived.Deep.DrawnRows
import Derived.Deep.RegionHeld3
import Derived.Deep.DeepCutAuto
namespace Go.Proofs.YtkdnjebjbadloaaGreatDoor.Ctx
open Go Go.RowKit Mem Sets
set_option maxRecDepth 100000
attribute [local go_sem ↓] Go.wp_at_zero Go.wp_at_succ

/-- Block g holds just the cells cs. -/
def BoxAt (w : World) (g : Nat) (t : TypeId) (cs : Array Value) : Prop := w.heap[g]? = some (.cells cs t (0, 0))
theorem BoxAt.lt {w : World} {g : Nat} {t : TypeId} {cs : Array Value} (h : BoxAt w g t cs) : g < w.heap.size := by
  rcases Nat.lt_or_ge g w.heap.size with hlt | hge
  · exact hlt
  · unfold BoxAt at h; rw [Array.getElem?_eq_none hge] at h; cases h
theorem BoxAt.cell {w : World} {g : Nat} {t : TypeId} {cs : Array Value} (h : BoxAt w g t cs) (i : Nat) : w.cell? ⟨g, i, none⟩ = cs[i]? := cell_of_row w g i cs t (0, 0) h
theorem BoxAt.free {w : World} {g : Nat} {t : TypeId} {cs : Array Value} (h : BoxAt w g t cs) (i : Nat) : w.frozen? ⟨g, i, none⟩ = false := by
  unfold BoxAt at h
  simp [World.frozen?, h]
theorem BoxAt.new (w : World) (t : TypeId) (cs : Array Value) : BoxAt (w.alloc (.cells cs t)) w.heap.size t cs := heap_alloc_new w _
theorem BoxAt.below {w w' : World} {g B : Nat} {t : TypeId} {cs : Array Value} (h : BoxAt w g t cs) (hb : Below B w w') (hg : g < B) : BoxAt w' g t cs := (hb.block g hg).trans h
theorem BoxAt.alloc {w : World} {g : Nat} {t : TypeId} {cs : Array Value} (h : BoxAt w g t cs) (o : Obj) : BoxAt (w.alloc o) g t cs := (Below.heap_alloc w o g h.lt).trans h
theorem BoxAt.drew {w : World} {g : Nat} {t : TypeId} {cs : Array Value} (h : BoxAt w g t cs) : BoxAt w.drew g t cs := h
theorem BoxAt.far {w : World} {g : Nat} {t : TypeId} {cs : Array Value} (h : BoxAt w g t cs) {p : Addr} (hp : g ≠ p.block) (u : Value) : BoxAt (w.setCell p u) g t cs := (Below.heap_setCell w p u g hp).trans h
theorem BoxAt.grown {w w' : World} {g : Nat} {t : TypeId} {cs : Array Value} {row : Option Nat} (h : BoxAt w g t cs) (hb : w.grownBy w' row) (hg : some g ≠ row) : BoxAt w' g t cs := (hb.block g h.lt hg).trans h
theorem BoxAt.set {w : World} {g : Nat} {t : TypeId} {cs : Array Value} (h : BoxAt w g t cs) (i : Nat) (u : Value) : BoxAt (w.setCell ⟨g, i, none⟩ u) g t (cs.setIfInBounds i u) := by
  unfold BoxAt at h ⊢
  simp [World.setCell, Array.getElem?_modify, h]

/-- What a call that hands back a context and a bool leaves. -/
def CtxRes (x : Option (Int × List Int)) (w : World) (e : Ending) (w' : World) : Prop :=
  ∃ u, e = .returned (.tuple #[ctx (x.getD (0, [])).1 u, .bool x.isSome]) ∧ Own 3 w' w.heap.size w'.heap.size u (ints (x.getD (0, [])).2) ∧ Below w.heap.size w w'
theorem ctxRes_none {x : Option (Int × List Int)} (hx : x = none) {w w' : World} (h : Below w.heap.size w w') : CtxRes x w (.returned (.tuple #[ctx 0 (.slice none 0 0), .bool false])) w' := by
  subst hx
  exact ⟨_, rfl, Own.made (World.ownsRow_nil _ _ _ _), h⟩
theorem ctxRes_some {x : Option (Int × List Int)} {n : Int} {xs : List Int} (hx : x = some (n, xs)) {w w' : World} {u : Value} (ho : Own 3 w' w.heap.size w'.heap.size u (ints xs)) (h : Below w.heap.size w w') :
    CtxRes x w (.returned (.tuple #[ctx n u, .bool true])) w' := by
  subst hx
  exact ⟨u, rfl, ho, h⟩
theorem owns_form {w : World} {B n : Nat} {e : TypeId} {v : Value} {cs : List Value} (h : w.ownsRow B e 1 v n cs) : ∃ a c, v = .slice a n c := by
  rcases h.2 with ⟨rfl, h2⟩ | ⟨g, cap, cur, rfl, _⟩
  · exact ⟨none, 0, by rw [h2]⟩
  · exact ⟨_, _, rfl⟩

theorem keep3 {w w' : World} {B : Nat} {p q r : Addr} {x y z : Value} (hb : Below B w w') (h : w.cell? p = some x ∧ w.cell? q = some y ∧ w.cell? r = some z ∧ w.frozen? r = false) (hp : p.block < B) (hq : q.block < B) (hr : r.block < B) :
    w'.cell? p = some x ∧ w'.cell? q = some y ∧ w'.cell? r = some z ∧ w'.frozen? r = false :=
  ⟨(hb.cell hp).trans h.1, (hb.cell hq).trans h.2.1, (hb.cell hr).trans h.2.2.1, (hb.frozen hr).trans h.2.2.2⟩
theorem owns_below {e : TypeId} {w w' : World} {lo n : Nat} {v : Value} {cs : List Value} (h : w.ownsRow lo e 1 v n cs) (hb : Below w.heap.size w w') : w'.ownsRow lo e 1 v n cs :=
  ownsRow_same h fun k hk => hb.block k (h.lt k hk).2
theorem news1 (w : World) (x : Value) (t : TypeId) : ∀ (j : Nat) (u : Value), [x][j]? = some u → (w.alloc (.cells #[x] t)).cell? ((⟨w.heap.size, 0, none⟩ : Addr).add j) = some u := by
  intro j u hj
  match j, hj with
  | 0, hj => simp at hj; subst hj; simp [Addr.add]
theorem one1 (k : IntKind) (x : Int) : ∀ u ∈ [Value.int k x], u.oneCell' = true := by intro u hu; simp at hu; subst hu; rfl
def dualTo (rs : List Int) (k : Nat) : List Int := (List.range k).map fun m : Nat => ((colTo rs m rs.length : Nat) : Int)
theorem dualTo_step (rs : List Int) (k : Nat) : dualTo rs (k + 1) = dualTo rs k ++ [((colTo rs k rs.length : Nat) : Int)] := by simp [dualTo, List.range_succ]
theorem dualTo_length (rs : List Int) (k : Nat) : (dualTo rs k).length = k := by simp [dualTo]
def dual (a : Int) (rs : List Int) : Option (Int × List Int) := if isCtx a rs = true ∧ rs.length ≤ 6 then some ((rs.length : Int), dualTo rs a.toNat) else none

set_option maxHeartbeats 800000 in
theorem spec_dual (a : Int) (v : Value) (rs : List Int) (B : Nat) (w : World) (hr : Reads w B v (ints rs)) (hB : B ≤ w.heap.size) :
    Calls Tryz.prog 7 #[ctx a v] w (CtxRes (dual a rs) w) := by
  obtain ⟨i0, hi, hz0, hz1, hz2⟩ := info_parts Ints.info
  obtain ⟨aa, ca, rfl⟩ := reads_form hr
  have HR := Lib.hid hr
  clear hr
  go_enter Tryz.func7, Tryz.ntmps7
  go_wp2_with fail
  refine (spec_isCtx a _ rs B _ ((HR.out.below (B' := w.heap.size) ((Below.refl _ _).alloc (Nat.le_refl _) _ |>.alloc (by simp) _) hB)) (by simp; omega)).mono ?_
  rintro e w1 ⟨rfl, b⟩
  obtain ⟨hc, hf⟩ := bcell b
  have hz := b.size
  simp at hz
  have BB := Lib.hid b
  clear b
  cases hic : isCtx a rs with
  | false =>
    have HX := Lib.hid (show dual a rs = none by simp [dual, hic])
    clear hic
    go_wp2_with fail
    refine bodyPost_ret (v := .tuple #[ctx 0 (.slice none 0 0), .bool false]) (by simp [results, Tryz.results7, go_sem, hc]) rfl (ctxRes_none HX.out ?_)
    exact ((((Below.refl _ _).alloc (Nat.le_refl _) _ |>.alloc (by simp) _).trans (BB.out.mono (by simp; omega))).setCell (by simp) _).setCell (by simp) _
  | true =>
    by_cases h6 : rs.length ≤ 6
    · have HX := Lib.hid (show dual a rs = some ((rs.length : Int), dualTo rs a.toNat) by simp [dual, hic, h6])
      have HI := Lib.hid hic
      have d6 : decide ((6 : Int) < (rs.length : Int)) = false := by simp; omega
      obtain ⟨ha0, ha6, -, -⟩ := isCtx_parts hic
      clear hic
      have q0 : w1.cell? ⟨w.heap.size, 0, none⟩ = some (.int .i64 a) := by rw [hc _ _ (by simp; omega)]; simp
      have q1 : w1.cell? ⟨w.heap.size, 1, none⟩ = some (.slice aa rs.length ca) := by rw [hc _ _ (by simp; omega)]; simp
      have HB1 : Hid (BoxAt w1 (w.heap.size + 1) 26 #[.int .i64 0, .slice none 0 0]) := Lib.hid ((show BoxAt _ (w.heap.size + 1) _ _ by have := BoxAt.new (w.alloc (.cells #[.int .i64 a, .slice aa rs.length ca] 26)) 26 #[.int .i64 0, .slice none 0 0]; simpa using this).below BB.out (by simp))
      have HR1 := Lib.hid ((HR.out.below (B' := w.heap.size) ((Below.refl _ _).alloc (Nat.le_refl _) (.cells #[.int .i64 a, .slice aa rs.length ca] 26) |>.alloc (by simp) (.cells #[.int .i64 0, .slice none 0 0] 26)) hB).below BB.out (by simp; omega))
      go_wp2_with fail
      go_loopw [5] (fun i wr => ∃ (k : Nat) (v' : Value), k ≤ a.toNat ∧ i = .int .i64 k ∧ Hid (BoxAt wr w1.heap.size 26 #[.int .i64 rs.length, v']) ∧ Hid (wr.ownsRow (w1.heap.size + 1) 3 1 v' k (ints (dualTo rs k))) ∧ Hid (Below w1.heap.size w1 wr)) (fun i _ => a.toNat - (intOf i).toNat)
      case atStart => exact ⟨0, .slice none 0 0, Nat.zero_le _, rfl, Lib.hid (BoxAt.new _ _ _), Lib.hid (World.ownsRow_nil _ _ _ _), Lib.hid ((Below.refl _ _).alloc (Nat.le_refl _) _)⟩
      case round =>
        obtain ⟨k, v', hk, rfl, hbox, hown, hbel⟩ := hrel
        obtain ⟨av, cv, rfl⟩ := owns_form hown.out
        have c0 : wr.cell? ⟨w.heap.size, 0, none⟩ = some (.int .i64 a) := (hbel.out.cell (p := ⟨w.heap.size, 0, none⟩) (by show w.heap.size < _; omega)).trans q0
        have c1 : wr.cell? ⟨w.heap.size, 1, none⟩ = some (.slice aa rs.length ca) := (hbel.out.cell (p := ⟨w.heap.size, 1, none⟩) (by show w.heap.size < _; omega)).trans q1
        have c2 : wr.cell? ⟨w1.heap.size, 1, none⟩ = some (.slice av k cv) := hbox.out.cell 1
        have c2f : wr.frozen? ⟨w1.heap.size, 1, none⟩ = false := hbox.out.free 1
        have hzr : w1.heap.size < wr.heap.size := hbox.out.lt
        have HRk : Hid (Reads wr.drew B (.slice aa rs.length ca) (ints rs)) := Lib.hid (HR1.out.below hbel.out.drew (by omega))
        by_cases hlt : k < a.toNat
        · have HK1 : Hid (k + 1 ≤ maxLen) := Lib.hid (by unfold maxLen; omega)
          have HK2 : Hid ((k + 1) * 8 ≤ 140737488355328) := Lib.hid (by omega)
          go_wp2_with fail
          go_region_law (first | (refine step_append_lies _ (by rfl) _ _ _ (by rfl) (w1.heap.size + 1) 3 i0 (.int .i64 0) 1 8 Tryz.underlying24 hi hz0 hz1 hz2 rfl (by decide) _ k _ (by rfl) ((owns_below (w := wr.drew) hown.out b2).alloc _) ⟨w2.heap.size, 0, none⟩ 1 1 [.int .i64 (colTo rs k rs.length : Nat)] (by rfl) (by rfl) (news1 _ _ _) (one1 _ _) Nat.one_pos HK1.out HK2.out (Nat.le_trans hzr (Nat.le_trans b2.size (Below.refl 0 w2 |>.alloc (Nat.zero_le _) _).size)) _ rfl ?_; intro g cap w3 hown3 hgrow hat hlt3; have b4' := b3'.grown hgrow (by have := b2.size; simp at this ⊢; omega) (fun q hq => (hown.out.lt q hq).1); have d4 := (b4'.cell (p := ⟨w1.heap.size, 1, none⟩) (by show w1.heap.size < _; omega)).trans c2; have f4 := (b4'.frozen (p := ⟨w1.heap.size, 1, none⟩) (by show w1.heap.size < _; omega)).trans c2f) | (go_simp; go_wp2_with (go_at_call 28; refine (l3Column a _ rs k B wr.drew HRk.out (by simp; omega) HI.out (by omega)).mono ?_; rintro e w2 ⟨rfl, b2⟩; have b2' := b2.mono hzr; have d2 := (b2'.cell (p := ⟨w1.heap.size, 1, none⟩) (by show w1.heap.size < _; omega)).trans c2; have z2 := Nat.lt_of_lt_of_le hzr b2.size; have b3' := b2'.alloc (Nat.le_trans hzr b2.size) (.cells #[.int .i64 (colTo rs k rs.length : Nat)] 3))) | fail)
          all_goals
            have HB4 := Lib.hid (((((hbox.out.drew.below b2 (by simp; omega)).alloc (.cells #[.int .i64 (colTo rs k rs.length : Nat)] 3)).grown hgrow (fun e => by have := (hown.out.lt _ e.symm).1; omega)).set 1 (.slice (some ⟨g, 0, none⟩) (k + 1) cap)))
            have HO4 := Lib.hid (ownsRow_setCell_below hown3 (a := ⟨w1.heap.size, 1, none⟩) (by show w1.heap.size < _; omega) (.slice (some ⟨g, 0, none⟩) (k + 1) cap))
            have HW4 := Lib.hid ((hbel.out.drew.trans (b4'.mono (by omega : w1.heap.size ≤ w1.heap.size + 1))).setCell (p := ⟨w1.heap.size, 1, none⟩) (by show w1.heap.size ≤ w1.heap.size; omega) (.slice (some ⟨g, 0, none⟩) (k + 1) cap))
            clear b2 b2' b3' b4' hown3 hgrow hat hlt3
            go_wp2_with fail
            go_roundw
            case rel => exact ⟨k + 1, _, by omega, by simp, HB4, Lib.hid (by rw [dualTo_step]; simpa [ints] using HO4.out), HW4⟩
            case measure => simp [intOf]; omega
        · have HK := Lib.hid (show k = a.toNat by omega)
          have c3 : wr.cell? ⟨w1.heap.size, 0, none⟩ = some (.int .i64 rs.length) := hbox.out.cell 0
          have hbr := HB1.out.below hbel.out (by omega)
          have e0 : wr.cell? ⟨w.heap.size + 1, 0, none⟩ = some (.int .i64 0) := hbr.cell 0
          have e1 : wr.cell? ⟨w.heap.size + 1, 1, none⟩ = some (.slice none 0 0) := hbr.cell 1
          have f0 : wr.frozen? ⟨w.heap.size + 1, 0, none⟩ = false := hbr.free 0
          have f1 : wr.frozen? ⟨w.heap.size + 1, 1, none⟩ = false := hbr.free 1
          clear hbr
          go_wp2_with fail
          refine bodyPost_ret (v := .tuple #[ctx rs.length (.slice av k cv), .bool true]) (by simp [results, Tryz.results7, go_sem, e0, e1]) rfl (ctxRes_some HX.out ?_ ?_)
          · rw [← HK.out]
            refine (own_set (own_set (lo := w1.heap.size + 1) (hi := wr.heap.size) (Own.made hown.out) (.inl (by simp; omega)) _) (.inl (by simp; omega)) _).mono (by omega) (by simp)
          · exact ((((Below.refl _ _).alloc (Nat.le_refl _) _ |>.alloc (by simp) _).trans (BB.out.mono (by simp; omega))).trans (hbel.out.mono (by omega))).setCell (by simp) _ |>.setCell (by simp) _
    · have HX := Lib.hid (show dual a rs = none by simp [dual, h6])
      have d6 : decide ((6 : Int) < (rs.length : Int)) = true := by simp; omega
      clear hic h6
      go_wp2_with fail
      refine bodyPost_ret (v := .tuple #[ctx 0 (.slice none 0 0), .bool false]) (by simp [results, Tryz.results7, go_sem, hc]) rfl (ctxRes_none HX.out ?_)
      exact ((((Below.refl _ _).alloc (Nat.le_refl _) _ |>.alloc (by simp) _).trans (BB.out.mono (by simp; omega))).setCell (by simp) _).setCell (by simp) _
theorem set_step (xs : List Int) (ys : List Value) (k : Nat) (x : Int) (hx : xs.length = k) (hk : k < ys.length) : (ints xs ++ ys.drop k).set k (.int .i64 x) = ints (xs ++ [x]) ++ ys.drop (k + 1) := by
  rw [List.set_append_right _ _ (by simp [ints, hx]), List.drop_eq_getElem_cons hk]
  simp only [ints, List.length_map, hx, Nat.sub_self, List.set_cons_zero, List.map_append, List.map_cons, List.map_nil, List.append_assoc, List.singleton_append]
set_option maxHeartbeats 800000 in
theorem impl_cols (a : Int) (v : Value) (rs : List Int) (B : Nat) (w : World) (hr : Reads w B v (ints rs)) (hB : B ≤ w.heap.size) (hic : isCtx a rs = true) :
    Calls Tryz.prog 27 #[ctx a v] w fun e w' => ∃ u, e = .returned u ∧ Own 3 w' w.heap.size w'.heap.size u (ints (dualTo rs a.toNat)) ∧ Below w.heap.size w w' := by
  obtain ⟨i0, hi, hz0, hz1, hz2⟩ := info_parts Ints.info
  obtain ⟨aa, ca, rfl⟩ := reads_form hr
  have HI := Lib.hid hic
  obtain ⟨ha0, ha6, -, -⟩ := isCtx_parts hic
  have hW := (Below.refl w.heap.size w).alloc (Nat.le_refl _) (.cells #[.int .i64 a, .slice aa rs.length ca] 26)
  have HR1 := Lib.hid (hr.below hW hB)
  have HW := Lib.hid hW
  have q0 : (w.alloc (.cells #[.int .i64 a, .slice aa rs.length ca] 26)).cell? ⟨w.heap.size, 0, none⟩ = some (.int .i64 a) := by simp
  have q1 : (w.alloc (.cells #[.int .i64 a, .slice aa rs.length ca] 26)).cell? ⟨w.heap.size, 1, none⟩ = some (.slice aa rs.length ca) := by simp
  have hz : w.heap.size < (w.alloc (.cells #[.int .i64 a, .slice aa rs.length ca] 26)).heap.size := by simp
  clear hic hr hW
  obtain ⟨n, rfl⟩ := Int.eq_ofNat_of_zero_le ha0
  have hn6 : n ≤ 6 := by omega
  clear ha0 ha6
  rw [Int.toNat_natCast]
  go_enter Tryz.func27, Tryz.ntmps27
  go_upto_region 1 with fail
  generalize (w.alloc (.cells #[.int .i64 n, .slice aa rs.length ca] 26)) = w1 at HR1 HW q0 q1 hz ⊢
  go_wp2_with (at_make; refine wpList_make_full _ rfl _ _ 24 rfl w1.heap.size 3 i0 (.int .i64 0) 1 Tryz.underlying24 hi hz0 hz1 .i64 .i64 _ _ n rfl rfl rfl rfl (by rw [hz2]; omega) (by unfold maxLen; omega) (Nat.le_refl _) ?_; intro w0 hown0 hgrow0)
  have H0 := Lib.hid hown0
  have HG := Lib.hid hgrow0
  clear hown0 hgrow0
  have hsz : (madeCells (Value.int .i64 0).cells (n * 1)).toList.length = n := by simp [size_madeCells]
  have HSZ := Lib.hid hsz
  clear hsz
  generalize (madeCells (Value.int .i64 0).cells (n * 1)).toList = ys at H0 HSZ
  go_loopw [10] (fun i wr => ∃ k : Nat, k ≤ n ∧ i = .int .i64 k ∧ Hid (wr.ownsRow w1.heap.size 3 1 (.slice (some ⟨w1.heap.size, 0, none⟩) n n) n (ints (dualTo rs k) ++ ys.drop k)) ∧ Hid (Below w1.heap.size w1 wr)) (fun i _ => n - (intOf i).toNat)
  case atStart => exact ⟨0, Nat.zero_le _, rfl, Lib.hid (by simpa [dualTo] using H0.out), Lib.hid ((Below.refl _ _).grown HG.out (Nat.le_refl _) (fun q hq => by cases hq))⟩
  case round =>
    obtain ⟨k, hk, rfl, hown, hbel⟩ := hrel
    have c0 : wr.cell? ⟨w.heap.size, 0, none⟩ = some (.int .i64 n) := (hbel.out.cell (p := ⟨w.heap.size, 0, none⟩) (by show w.heap.size < _; omega)).trans q0
    have c1 : wr.cell? ⟨w.heap.size, 1, none⟩ = some (.slice aa rs.length ca) := (hbel.out.cell (p := ⟨w.heap.size, 1, none⟩) (by show w.heap.size < _; omega)).trans q1
    have HRk := Lib.hid (HR1.out.below hbel.out (by omega))
    have hzr : w1.heap.size < wr.heap.size := (hown.out.lt _ rfl).2
    by_cases hlt : k < n
    · have hcol : colOf n rs k = (colTo rs k rs.length : Nat) := by rw [colOf, if_pos ⟨HI.out, by omega, by omega⟩]
      have HCOL := Lib.hid hcol
      clear hcol
      go_wp2_with fail
      refine (impl_col n _ rs k B _ HRk.out (by omega)).mono ?_
      rintro e w2 ⟨rfl, b2⟩
      have hown2 := owns_below hown.out b2
      have hlen : (ints (dualTo rs k) ++ ys.drop k).length = n := by simp [ints, dualTo_length, HSZ.out]; omega
      have hsome : ∃ u, w2.cell? ⟨w1.heap.size, k, none⟩ = some u := by
        rw [hown2.cellAt k (by omega)]
        exact ⟨_, List.getElem?_eq_getElem (by omega)⟩
      obtain ⟨u, c2⟩ := hsome
      have hfz : w2.frozen? ⟨w1.heap.size, k, none⟩ = false := hown2.frozenAt k
      have hz2' : w1.heap.size < w2.heap.size := by have := b2.size; omega
      have st := Lib.hid (hown2.stored k (.int .i64 (colOf n rs k)))
      have B2 := Lib.hid (hbel.out.trans (b2.mono (by omega)))
      clear b2 hown2 hlen
      go_wp2_with fail
      go_roundw
      case rel =>
        refine ⟨k + 1, by omega, by simp, Lib.hid ?_, Lib.hid (B2.out.grown st.out.2 (by omega) fun q hq => by cases hq; omega)⟩
        have := st.out.1
        rw [HCOL.out, set_step _ _ _ _ (dualTo_length rs k) (by rw [HSZ.out]; exact hlt), ← dualTo_step] at this
        rw [HCOL.out]
        exact this
      case measure => simp [intOf]; omega
    · have HK := Lib.hid (show k = n by omega)
      go_wp2_with fail
      go_ret
      refine ⟨_, rfl, ?_, HW.out.trans (hbel.out.mono (by omega))⟩
      have := hown.out
      rw [HK.out, List.drop_of_length_le (by rw [HSZ.out]; omega), List.append_nil] at this
      exact (Own.made this).mono (by omega) (Nat.le_refl _)
theorem keepq' {w w' : World} {B : Nat} {p q : Addr} {x y : Value} (hb : Below B w w') (h : w.cell? p = some x ∧ w.cell? q = some y) (hp : p.block < B) (hq : q.block < B) :
    w'.cell? p = some x ∧ w'.cell? q = some y := ⟨(hb.cell hp).trans h.1, (hb.cell hq).trans h.2⟩
set_option maxHeartbeats 800000 in
theorem impl_dual (a : Int) (v : Value) (rs : List Int) (B : Nat) (w : World) (hr : Reads w B v (ints rs)) (hB : B ≤ w.heap.size) :
    Calls Tryz.prog 6 #[ctx a v] w (CtxRes (dual a rs) w) := by
  obtain ⟨aa, ca, rfl⟩ := reads_form hr
  have HR := Lib.hid hr
  clear hr
  go_enter Tryz.func6, Tryz.ntmps6
  go_wp2_with fail
  refine (impl_isCtx a _ rs B _ ((HR.out.below (B' := w.heap.size) ((Below.refl _ _).alloc (Nat.le_refl _) _ |>.alloc (by simp) _) hB)) (by simp; omega)).mono ?_
  rintro e w1 ⟨rfl, b⟩
  obtain ⟨hc, hf⟩ := bcell b
  have hz := b.size
  simp at hz
  have BB := Lib.hid b
  clear b
  cases hic : isCtx a rs with
  | false =>
    have HX := Lib.hid (show dual a rs = none by simp [dual, hic])
    clear hic
    go_wp2_with fail
    refine bodyPost_ret (v := .tuple #[ctx 0 (.slice none 0 0), .bool false]) (by simp [results, Tryz.results6, go_sem, hc]) rfl (ctxRes_none HX.out ?_)
    exact ((((Below.refl _ _).alloc (Nat.le_refl _) _ |>.alloc (by simp) _).trans (BB.out.mono (by simp; omega))).setCell (by simp) _).setCell (by simp) _
  | true =>
    by_cases h6 : rs.length ≤ 6
    · have HX := Lib.hid (show dual a rs = some ((rs.length : Int), dualTo rs a.toNat) by simp [dual, hic, h6])
      have d6 : decide ((6 : Int) < (rs.length : Int)) = false := by simp; omega
      have k0 : w1.cell? ⟨w.heap.size, 0, none⟩ = some (.int .i64 a) := by rw [hc _ _ (by simp; omega)]; simp
      have k1 : w1.cell? ⟨w.heap.size, 1, none⟩ = some (.slice aa rs.length ca) := by rw [hc _ _ (by simp; omega)]; simp
      have HB1 : Hid (BoxAt w1 (w.heap.size + 1) 26 #[.int .i64 0, .slice none 0 0]) := Lib.hid ((show BoxAt _ (w.heap.size + 1) _ _ by have := BoxAt.new (w.alloc (.cells #[.int .i64 a, .slice aa rs.length ca] 26)) 26 #[.int .i64 0, .slice none 0 0]; simpa using this).below BB.out (by simp))
      have HR1 := Lib.hid ((HR.out.below (B' := w.heap.size) ((Below.refl _ _).alloc (Nat.le_refl _) (.cells #[.int .i64 a, .slice aa rs.length ca] 26) |>.alloc (by simp) (.cells #[.int .i64 0, .slice none 0 0] 26)) hB).below BB.out (by simp; omega))
      have B1 := Lib.hid (((Below.refl _ _).alloc (Nat.le_refl w.heap.size) (.cells #[.int .i64 a, .slice aa rs.length ca] 26) |>.alloc (by simp) (.cells #[.int .i64 0, .slice none 0 0] 26)).trans (BB.out.mono (by simp; omega)))
      have HC := Lib.hid (fun w h hB => impl_cols a (.slice aa rs.length ca) rs B w h hB hic)
      generalize dualTo rs a.toNat = xs at HX HC
      clear hic hc hf BB h6
      go_wp2_with fail
      go_region_held3 (fun wx => wx.cell? ⟨w.heap.size, 0, none⟩ = some (.int .i64 a) ∧ wx.cell? ⟨w.heap.size, 1, none⟩ = some (.slice aa rs.length ca))
        (first | exact ⟨k0, k1⟩ | exact keepq' (w := w1.drew) (B := w1.heap.size) b2 ⟨k0, k1⟩ (by show w.heap.size < _; omega) (by show w.heap.size < _; omega) | exact keepq' (w := w1.drew) (B := w.heap.size + 1) (((b2.mono (by show w.heap.size + 1 ≤ w1.heap.size; omega)).setCell (p := ⟨w.heap.size + 1, 0, none⟩) (Nat.le_refl _) _).setCell (p := ⟨w.heap.size + 1, 1, none⟩) (Nat.le_refl _) _) ⟨k0, k1⟩ (by show w.heap.size < _; omega) (by show w.heap.size < _; omega))
        (first | (go_at_call 27; refine (HC.out w1.drew (HR1.out.below (Below.refl w1.heap.size w1).drew (by omega)) (by show B ≤ w1.heap.size; omega)).mono ?_; rintro e w2 ⟨u, rfl, o2, b2⟩; obtain ⟨p2, q2, rfl⟩ := own_form o2; have hb2 := (show BoxAt w1.drew _ _ _ from HB1.out).below b2 (by show w.heap.size + 1 < w1.heap.size; omega); have e0b : w2.cell? ⟨w.heap.size + 1, 0, none⟩ = some (.int .i64 0) := hb2.cell 0; have e1b : w2.cell? ⟨w.heap.size + 1, 1, none⟩ = some (.slice none 0 0) := hb2.cell 1; have f0b : w2.frozen? ⟨w.heap.size + 1, 0, none⟩ = false := hb2.free 0; have f1b : w2.frozen? ⟨w.heap.size + 1, 1, none⟩ = false := hb2.free 1) | fail)
      have O2 := Lib.hid o2
      have B2 := Lib.hid (B1.out.trans (((Below.refl w1.heap.size w1).drew.trans b2).mono (by omega)))
      have hz2 := b2.size
      change w1.heap.size ≤ w2.heap.size at hz2
      clear b2 hb2 o2
      go_wp2_with fail
      refine bodyPost_ret (v := .tuple #[ctx rs.length (.slice p2 xs.length q2), .bool true]) (by simp [results, Tryz.results6, go_sem, e0b, e1b]) rfl (ctxRes_some HX.out ?_ ?_)
      · refine (own_set (own_set O2.out (.inl (by show w.heap.size + 1 < w1.heap.size; omega)) _) (.inl (by show w.heap.size + 1 < w1.heap.size; omega)) _).mono (by show _ ≤ w1.heap.size; omega) (by simp)
      · exact (B2.out.setCell (p := ⟨w.heap.size + 1, 0, none⟩) (by show w.heap.size ≤ w.heap.size + 1; omega) _).setCell (p := ⟨w.heap.size + 1, 1, none⟩) (by show w.heap.size ≤ w.heap.size + 1; omega) _
    · have HX := Lib.hid (show dual a rs = none by simp [dual, h6])
      have d6 : decide ((6 : Int) < (rs.length : Int)) = true := by simp; omega
      clear hic h6
      go_wp2_with fail
      refine bodyPost_ret (v := .tuple #[ctx 0 (.slice none 0 0), .bool false]) (by simp [results, Tryz.results6, go_sem, hc]) rfl (ctxRes_none HX.out ?_)
      exact ((((Below.refl _ _).alloc (Nat.le_refl _) _ |>.alloc (by simp) _).trans (BB.out.mono (by simp; omega))).setCell (by simp) _).setCell (by simp) _
end Go.Proofs.YtkdnjebjbadloaaGreatDoor.Ctx
