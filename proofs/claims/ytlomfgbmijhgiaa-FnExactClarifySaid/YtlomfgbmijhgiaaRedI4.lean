/-
  Chapter 7 of the program: Clarify, ReduceContext.
-/
import Derived.Test.YtlomfgbmijhgiaaRedI3
namespace Go.Proofs.Ytlomfgbmijhgiaa.Ctx
open Go Go.RowKit Mem Sets Elems Tab
set_option maxRecDepth 100000

theorem ctxSome {x : Option (Int × List Int)} {n : Int} {xs : List Int} (hx : x = some (n, xs)) {w : World} {e : Ending} {w' : World} (h : CtxRes x w e w') :
    ∃ p c, e = .returned (.tuple #[ctx n (.slice p xs.length c), .bool true]) ∧ Own 3 w' w.heap.size w'.heap.size (.slice p xs.length c) (ints xs) ∧ Below w.heap.size w w' := by
  subst hx
  obtain ⟨u, he, o, b⟩ := h
  obtain ⟨p, c, rfl⟩ := own_form o
  exact ⟨p, c, he, o, b⟩
theorem dropO_dup {a : Int} {rs : List Int} (h : isCtx a rs = true) : dropO a rs ((dupTo rs rs.length : Nat) : Int) = some (a, dedTo rs rs.length) := by
  rw [dropO, if_pos ⟨h, isSet_of_nat (by omega) (by have := isCtx_parts h; omega) (by rw [Int.toNat_natCast]; exact dupTo_lt _ _)⟩, drop_dup rs (Nat.le_refl _) _ (Nat.le_refl _)]
set_option maxHeartbeats 4000000 in
theorem impl_clarify (a : Int) (v : Value) (rs : List Int) (B : Nat) (w : World) (hr : Reads w B v (ints rs)) (hB : B ≤ w.heap.size) :
    Calls Try.prog 48 #[ctx a v] w (CtxRes (clarify a rs) w) := by
  obtain ⟨aa, ca, rfl⟩ := reads_form hr
  have hW := ((Below.refl w.heap.size w).alloc (Nat.le_refl _) (.cells #[.int .i64 a, .slice aa rs.length ca] 26)).alloc (by simp) (.cells #[.int .i64 0, .slice none 0 0] 26)
  have HR1 := Lib.hid (hr.below hW hB)
  have q0 : ((w.alloc (.cells #[.int .i64 a, .slice aa rs.length ca] 26)).alloc (.cells #[.int .i64 0, .slice none 0 0] 26)).cell? ⟨w.heap.size, 0, none⟩ = some (.int .i64 a) := by simp
  have q1 : ((w.alloc (.cells #[.int .i64 a, .slice aa rs.length ca] 26)).alloc (.cells #[.int .i64 0, .slice none 0 0] 26)).cell? ⟨w.heap.size, 1, none⟩ = some (.slice aa rs.length ca) := by simp
  have hbx : BoxAt ((w.alloc (.cells #[.int .i64 a, .slice aa rs.length ca] 26)).alloc (.cells #[.int .i64 0, .slice none 0 0] 26)) (w.heap.size + 1) 26 #[.int .i64 0, .slice none 0 0] := by
    have := BoxAt.new (w.alloc (.cells #[.int .i64 a, .slice aa rs.length ca] 26)) 26 #[.int .i64 0, .slice none 0 0]; simpa using this
  have hz : w.heap.size + 2 ≤ ((w.alloc (.cells #[.int .i64 a, .slice aa rs.length ca] 26)).alloc (.cells #[.int .i64 0, .slice none 0 0] 26)).heap.size := by simp
  clear hr
  go_enter Try.func48, Try.ntmps48
  go_wp2_with fail
  generalize ((w.alloc (.cells #[.int .i64 a, .slice aa rs.length ca] 26)).alloc (.cells #[.int .i64 0, .slice none 0 0] 26)) = W at HR1 hW q0 q1 hz hbx ⊢
  refine (impl_isCtx a _ rs B W HR1.out (by omega)).mono ?_
  rintro e w1 ⟨rfl, b1⟩
  have hy1 := b1.size
  have k0 : w1.cell? ⟨w.heap.size, 0, none⟩ = some (.int .i64 a) := (b1.cell (p := ⟨w.heap.size, 0, none⟩) (by show w.heap.size < _; omega)).trans q0
  have k1 : w1.cell? ⟨w.heap.size, 1, none⟩ = some (.slice aa rs.length ca) := (b1.cell (p := ⟨w.heap.size, 1, none⟩) (by show w.heap.size < _; omega)).trans q1
  have HR2 := Lib.hid (HR1.out.below b1 (by omega))
  have B1 := Lib.hid (hW.trans (b1.mono (by omega)))
  have HBX1 := Lib.hid (hbx.below b1 (by omega))
  have hzw : w.heap.size + 2 ≤ w1.heap.size := by omega
  clear b1 q0 q1 hbx hW HR1 hz
  cases hic : isCtx a rs with
  | false =>
    have HX : Hid (clarify a rs = none) := Lib.hid (by rw [clarify, if_neg (by simp [hic])])
    have e0 : w1.cell? ⟨w.heap.size + 1, 0, none⟩ = some (.int .i64 0) := HBX1.out.cell 0
    have e1 : w1.cell? ⟨w.heap.size + 1, 1, none⟩ = some (.slice none 0 0) := HBX1.out.cell 1
    have f0 : w1.frozen? ⟨w.heap.size + 1, 0, none⟩ = false := HBX1.out.free 0
    have f1 : w1.frozen? ⟨w.heap.size + 1, 1, none⟩ = false := HBX1.out.free 1
    clear hic
    go_wp2_with fail
    refine bodyPost_ret (v := .tuple #[ctx 0 (.slice none 0 0), .bool false]) (by simp [results, Try.results48, go_sem, e0, e1]) rfl (ctxRes_none HX.out ?_)
    exact (B1.out.setCell (p := ⟨w.heap.size + 1, 0, none⟩) (by show w.heap.size ≤ w.heap.size + 1; omega) _).setCell (p := ⟨w.heap.size + 1, 1, none⟩) (by show w.heap.size ≤ w.heap.size + 1; omega) _
  | true =>
    have hp := isCtx_parts hic
    have HX : Hid (clarify a rs = dropA a (dedTo rs rs.length) ((twins a (dedTo rs rs.length) : Nat) : Int)) := Lib.hid (by rw [clarify, if_pos hic])
    have hB1 : B ≤ w1.heap.size := by omega
    have HP1 := Lib.hid fun p : Past w1 => p.ofB (repeated (.slice aa rs.length ca) rs B p.w (Past.reads HR2.out hB1 p) (Nat.le_trans hB1 p.size) hp.2.2.1 (fun k _ => row_le hic k))
    have HP2 := Lib.hid fun p : Past w1 => p.ofCtx ((impl_dropO a (.slice aa rs.length ca) rs ((dupTo rs rs.length : Nat) : Int) B p.w (Past.reads HR2.out hB1 p) (Nat.le_trans hB1 p.size)).mono fun e w' h => ctxSome (dropO_dup hic) h)
    have HDC := Lib.hid (dedTo_ctx hic)
    have k0' := fun p : Past w1 => Past.cell k0 (by show w.heap.size < _; omega) p
    have k1' := fun p : Past w1 => Past.cell k1 (by show w.heap.size < _; omega) p
    generalize dedTo rs rs.length = ds at HX HP2 HDC
    generalize dupTo rs rs.length = du at HP1 HP2
    clear hp hic k0 k1
    go_upto_region 3 with fail
    go_cut [4] (fun s4 wx => ∃ q pa pc, s4 = .pointer (some ⟨q, 0, none⟩) ∧ w1.heap.size ≤ q ∧ Hid (BoxAt wx q 26 #[.int .i64 a, .slice pa ds.length pc]) ∧ Hid (Reads wx wx.heap.size (.slice pa ds.length pc) (ints ds)) ∧ Hid (Below w1.heap.size w1 wx))
    case first =>
      go_region_held3 (fun wx => wx.cell? ⟨w.heap.size, 0, none⟩ = some (.int .i64 a) ∧ wx.cell? ⟨w.heap.size, 1, none⟩ = some (.slice aa rs.length ca))
        (first | with_reducible exact ⟨k0' ((Past.start w1).drew), k1' ((Past.start w1).drew)⟩ | with_reducible exact ⟨k0' (((Past.start w1).alloc (.cells #[.int .i64 0, .slice none 0 0] 26)).drew), k1' (((Past.start w1).alloc (.cells #[.int .i64 0, .slice none 0 0] 26)).drew)⟩ | with_reducible exact ⟨k0' p1, k1' p1⟩ | with_reducible exact ⟨k0' (p1.alloc (.cells #[.int .i64 0, .slice none 0 0] 26)), k1' (p1.alloc (.cells #[.int .i64 0, .slice none 0 0] 26))⟩ | with_reducible exact ⟨k0' p2, k1' p2⟩ | with_reducible exact ⟨k0' (p2.alloc (.cells #[.int .i64 0, .slice none 0 0] 26)), k1' (p2.alloc (.cells #[.int .i64 0, .slice none 0 0] 26))⟩ | with_reducible exact ⟨k0' (p2.alloc (.cells #[.int .i64 a, .slice pa ds.length pc] 26)), k1' (p2.alloc (.cells #[.int .i64 a, .slice pa ds.length pc] 26))⟩ | exact ⟨k0' ((p2.set ⟨p1.w.heap.size, 0, none⟩ p1.size _).set ⟨p1.w.heap.size, 1, none⟩ p1.size _), k1' ((p2.set ⟨p1.w.heap.size, 0, none⟩ p1.size _).set ⟨p1.w.heap.size, 1, none⟩ p1.size _)⟩ | exact ⟨k0' ((p2.set ⟨w1.heap.size, 0, none⟩ (Nat.le_refl _) _).set ⟨w1.heap.size, 1, none⟩ (Nat.le_refl _) _), k1' ((p2.set ⟨w1.heap.size, 0, none⟩ (Nat.le_refl _) _).set ⟨w1.heap.size, 1, none⟩ (Nat.le_refl _) _)⟩)
        (first | (go_at_call 75; (with_reducible refine (HP1.out ((Past.start w1).drew)).mono ?_); rintro e _ ⟨rfl, p1, rfl, b1⟩) | (go_at_call 75; (with_reducible refine (HP1.out (((Past.start w1).alloc (.cells #[.int .i64 0, .slice none 0 0] 26)).drew)).mono ?_); rintro e _ ⟨rfl, p1, rfl, b1⟩; have x1 := (show BoxAt (w1.alloc (.cells #[.int .i64 0, .slice none 0 0] 26)).drew _ _ _ from BoxAt.new w1 _ _).below b1 (by show w1.heap.size < (w1.alloc _).heap.size; simp)) | (go_at_call 74; (with_reducible refine (HP2.out (p1.alloc (.cells #[.int .i64 0, .slice none 0 0] 26))).mono ?_); rintro e _ ⟨pa, pc, rfl, p2, rfl, o2, b2⟩; have x2 := Past.box p1 _ _ b2; have e0 := x2.cell 0; have e1 := x2.cell 1; have f0 := x2.free 0; have f1 := x2.free 1) | (go_at_call 74; (with_reducible refine (HP2.out p1).mono ?_); rintro e _ ⟨pa, pc, rfl, p2, rfl, o2, b2⟩; have x2 := x1.below b2 x1.lt; have e0 := x2.cell 0; have e1 := x2.cell 1; have f0 := x2.free 0; have f1 := x2.free 1) | (go_at_call 74; (with_reducible refine (HP2.out p1).mono ?_); rintro e _ ⟨pa, pc, rfl, p2, rfl, o2, b2⟩) | fail)
      all_goals go_wp2
      all_goals go_meet
      · obtain ⟨g1, g2, g3, g4⟩ := p2.endAlloc (n := .int .i64 a) (ty := 26) o2
        exact ⟨_, pa, pc, rfl, g1, Lib.hid g2, Lib.hid g3, Lib.hid g4⟩
      · obtain ⟨g1, g2, g3, g4⟩ := p2.endSet (n := .int .i64 a) x2 o2 (by simp) p1.size
        exact ⟨_, pa, pc, rfl, g1, Lib.hid g2, Lib.hid g3, Lib.hid g4⟩
      · have hb1 : w1.heap.size < p1.w.heap.size := x1.lt
        obtain ⟨g1, g2, g3, g4⟩ := p2.endSet (n := .int .i64 a) x2 o2 hb1 (Nat.le_refl _)
        exact ⟨_, pa, pc, rfl, g1, Lib.hid g2, Lib.hid g3, Lib.hid g4⟩
    case rest =>
    obtain ⟨q, pa, pc, rfl, hq, BQ, RQ, BW⟩ := hcut
    have hqc : q < wc.heap.size := BQ.out.lt
    have hrw : w.heap.size + 1 < wc.heap.size := by have := BW.out.size; omega
    have BX := Lib.hid (HBX1.out.below BW.out (by omega))
    have BT := Lib.hid (B1.out.trans (BW.out.mono (by omega)))
    have j0 : ∀ p : Past wc, p.w.cell? ⟨q, 0, none⟩ = some (.int .i64 a) := fun p => Past.cell (BQ.out.cell 0) (by show q < _; omega) p
    have j1 : ∀ p : Past wc, p.w.cell? ⟨q, 1, none⟩ = some (.slice pa ds.length pc) := fun p => Past.cell (BQ.out.cell 1) (by show q < _; omega) p
    have hlen : (cols a ds).length = a.toNat := dualTo_length _ _
    have hp := isCtx_parts HDC.out
    have HC := Lib.hid fun p : Past wc => p.ofIntsB (impl_cols a _ ds _ p.w (Past.reads RQ.out (Nat.le_refl _) p) p.size HDC.out)
    have HR := Lib.hid fun (v : Value) (p : Past wc) (h : Reads p.w p.w.heap.size v (ints (cols a ds))) => p.ofB (repeated v (cols a ds) _ p.w h (Nat.le_refl _) (by omega) (fun k _ => cols_le HDC.out k))
    have htw : dupTo (cols a ds) (cols a ds).length = twins a ds := by rw [hlen]; rfl
    rw [htw] at HR
    obtain ⟨b, hb⟩ : ∃ b, count (keepOf a ((twins a ds : Nat) : Int)) = b := ⟨_, rfl⟩
    obtain ⟨l, hl⟩ : ∃ l, packRows ds (keepOf a ((twins a ds : Nat) : Int)) ds.length = l := ⟨_, rfl⟩
    have hdA : dropA a ds ((twins a ds : Nat) : Int) = some (b, l) := by rw [dropA, if_pos ⟨HDC.out, twins_isSet HDC.out⟩, hb, hl]
    have HD := Lib.hid fun p : Past wc => p.ofCtx ((impl_dropA a (.slice pa ds.length pc) ds ((twins a ds : Nat) : Int) _ p.w (Past.reads RQ.out (Nat.le_refl _) p) p.size).mono fun e w' h => ctxSome hdA h)
    have HXs : Hid (clarify a rs = some (b, l)) := Lib.hid (HX.out.trans hdA)
    change Hid (∀ p : Past wc, Calls _ _ _ _ fun e w' => ∃ a_1 c, e = .returned (.slice a_1 (cols a ds).length c) ∧ ∃ q : Past wc, w' = q.w ∧ Reads q.w q.w.heap.size (.slice a_1 (cols a ds).length c) (ints (cols a ds)) ∧ Below p.w.heap.size p.w q.w) at HC
    generalize cols a ds = cs at HC HR
    generalize twins a ds = tw at HR HD
    clear hp hlen htw hb hl hdA HX HP1 HP2 HDC HR2 k0' k1'
    go_wp2_with fail
    go_region_held3 (fun wx => wx.cell? ⟨q, 0, none⟩ = some (.int .i64 a) ∧ wx.cell? ⟨q, 1, none⟩ = some (.slice pa ds.length pc))
      (first | with_reducible exact ⟨j0 ((Past.start wc).drew), j1 ((Past.start wc).drew)⟩ | with_reducible exact ⟨j0 p1, j1 p1⟩ | with_reducible exact ⟨j0 p2, j1 p2⟩ | with_reducible exact ⟨j0 p3, j1 p3⟩ | exact ⟨(((BQ.out.below p3.h hqc).far (p := ⟨w.heap.size + 1, 0, none⟩) (by show q ≠ w.heap.size + 1; omega) _).far (p := ⟨w.heap.size + 1, 1, none⟩) (by show q ≠ w.heap.size + 1; omega) _).cell 0, (((BQ.out.below p3.h hqc).far (p := ⟨w.heap.size + 1, 0, none⟩) (by show q ≠ w.heap.size + 1; omega) _).far (p := ⟨w.heap.size + 1, 1, none⟩) (by show q ≠ w.heap.size + 1; omega) _).cell 1⟩)
      (first | (go_at_call 54; (with_reducible refine (HC.out ((Past.start wc).drew)).mono ?_); rintro e _ ⟨p4, c4, rfl, p1, rfl, r1, b1⟩) | (go_at_call 75; (with_reducible refine (HR.out _ p1 r1).mono ?_); rintro e _ ⟨rfl, p2, rfl, b2⟩) | (go_at_call 76; (with_reducible refine (HD.out p2).mono ?_); rintro e _ ⟨p5, c5, rfl, p3, rfl, o3, b3⟩; have x3 := BX.out.below p3.h hrw; have e0 : p3.w.cell? ⟨w.heap.size + 1, 0, none⟩ = some (.int .i64 0) := x3.cell 0; have e1 : p3.w.cell? ⟨w.heap.size + 1, 1, none⟩ = some (.slice none 0 0) := x3.cell 1; have f0 := x3.free 0; have f1 := x3.free 1) | fail)
    have BZ := Lib.hid (BT.out.trans (p3.h.mono (by omega)))
    have hlo : wc.heap.size ≤ p2.w.heap.size := p2.size
    have O3 := Lib.hid o3
    clear o3 x3 b1 b2 b3
    go_wp2_with fail
    refine bodyPost_ret (v := .tuple #[ctx b (.slice p5 l.length c5), .bool true]) (by simp [results, Try.results48, go_sem, e0, e1]) rfl (ctxRes_some HXs.out ?_ ?_)
    · refine (own_set (own_set O3.out (p := ⟨w.heap.size + 1, 0, none⟩) (.inl (by show w.heap.size + 1 < _; omega)) _) (p := ⟨w.heap.size + 1, 1, none⟩) (.inl (by show w.heap.size + 1 < _; omega)) _).mono (by omega) (by simp)
    · exact (BZ.out.setCell (p := ⟨w.heap.size + 1, 0, none⟩) (by show w.heap.size ≤ w.heap.size + 1; omega) _).setCell (p := ⟨w.heap.size + 1, 1, none⟩) (by show w.heap.size ≤ w.heap.size + 1; omega) _
theorem clarify_ctx {a b : Int} {rs l : List Int} (h : clarify a rs = some (b, l)) : isCtx b l = true := by
  unfold clarify at h
  split at h
  · rename_i hc
    have hd := dedTo_ctx hc
    have ht := twins_isSet hd
    rw [dropA, if_pos ⟨hd, ht⟩] at h
    simp only [Option.some.injEq, Prod.mk.injEq] at h
    obtain ⟨rfl, rfl⟩ := h
    exact packRows_ctx hd ht
  · cases h
end Go.Proofs.Ytlomfgbmijhgiaa.Ctx
