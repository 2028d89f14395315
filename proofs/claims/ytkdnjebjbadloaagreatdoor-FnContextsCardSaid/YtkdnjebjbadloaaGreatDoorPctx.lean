/-
  ParseContext of the program: for every text what 'Pctx.prog' says, in memory of its own.
-/
import Derived.Test.YtkdnjebjbadloaaGreatDoorPctxPure
import Derived.Test.YtkdnjebjbadloaaGreatDoorAsHit
import Derived.Test.YtkdnjebjbadloaaGreatDoorShelfCut
namespace Go.Proofs.YtkdnjebjbadloaaGreatDoor.Pctx
open Go Go.RowKit Mem Sets Elems Text Joins Strs Ctx Sets2 CtxText Cuts Parse Rowsp Split
set_option maxRecDepth 100000

theorem cut_len (l : List UInt8) : (Lib.cut l [32]).1.length ≤ l.length ∧ (Lib.cut l [32]).2.1.length ≤ l.length := by
  unfold Lib.cut
  split
  · simp; omega
  · simp
theorem drewB {B : Nat} {a w : World} (h : Below B a w) (n : Nat) : Below B a (w.drewN n) := ⟨h.os, h.tape, h.output, h.size, h.block⟩

theorem gErr_lt {w : World} {v : Value} (h : w.cell? ⟨0, 0, none⟩ = some v) : 0 < w.heap.size := by
  rcases Nat.lt_or_ge 0 w.heap.size with h1 | h1
  · exact h1
  · simp [World.cell?, Array.getElem?_eq_none h1] at h

set_option maxHeartbeats 1600000 in
theorem impl_pctx (l : List UInt8) (hl : l.length ≤ 1048576) (w : World) (hs : NumParse.Std w) (hS : w.ShapedOpen Tryz.prog)
    (hg : w.cell? ⟨0, 0, none⟩ = some (.iface 101 (.agg #[As.hd 56]))) :
    Calls Tryz.prog 14 #[.string ⟨l.toArray⟩] w (CtxRes (prog l) w) := by
  obtain ⟨p, r, f, hcut⟩ : ∃ p r f, Lib.cut l [32] = (p, r, f) := ⟨_, _, _, rfl⟩
  have hlen := cut_len l
  have HX := Lib.hid (show prog l = if f = true then progOf p r else none by rw [prog, hcut])
  have hb0 := (Below.refl w.heap.size w).alloc (Nat.le_refl _) (.cells #[.int .i64 0, .slice none 0 0] 26)
  have HC := Lib.hid (Tryz.strings_Cut_shaped ⟨l.toArray⟩ ⟨#[32]⟩ (w.alloc (.cells #[.int .i64 0, .slice none 0 0] 26)) (shaped_below hS hb0) (by simp [ByteArray.size]; omega))
  simp only [hcut] at HC
  rw [hcut] at hlen
  obtain ⟨hp, hr⟩ := hlen
  clear hcut
  have HN := Lib.hid (fun w hs => NumParse.impl_num p (by simp at hp; omega) w hs)
  have HROWS := Lib.hid (fun w hS => impl_rows r (by simp at hr; omega) w hS)
  have HS := Lib.hid hs
  have HSH := Lib.hid hS
  have HG := Lib.hid hg
  have HB0 := Lib.hid hb0
  clear hs hS hg hb0 hp hr
  go_enter Tryz.func14, Tryz.ntmps14
  go_wp2_with fail
  refine HC.out.mono ?_
  rintro e w1 ⟨rfl, n1, rfl⟩
  have HB1 := Lib.hid (drewB HB0.out n1)
  have hx1 := (BoxAt.new w 26 #[.int .i64 0, .slice none 0 0]).below (drewB (Below.refl (w.alloc (.cells #[.int .i64 0, .slice none 0 0] 26)).heap.size _) n1) (by simp)
  generalize hw1 : (w.alloc (.cells #[.int .i64 0, .slice none 0 0] 26)).drewN n1 = w1 at HB1 hx1
  have hz1 : w.heap.size < w1.heap.size := hx1.lt
  have HX1 := Lib.hid hx1
  clear hx1 hw1
  go_wp2_with fail
  refine (HN.out w1 (HS.out.below HB1.out)).mono ?_
  rintro e w2 ⟨rfl, b2⟩
  have HX2 := Lib.hid (HX1.out.below b2 hz1)
  have HB2 := Lib.hid (HB1.out.trans (b2.mono (by omega)))
  have hz2 : w.heap.size < w2.heap.size := HX2.out.lt
  clear b2
  have c0 : w2.cell? ⟨w.heap.size, 0, none⟩ = some (.int .i64 0) := HX2.out.cell 0
  have c1 : w2.cell? ⟨w.heap.size, 1, none⟩ = some (.slice none 0 0) := HX2.out.cell 1
  have f0 : w2.frozen? ⟨w.heap.size, 0, none⟩ = false := HX2.out.free 0
  have f1 : w2.frozen? ⟨w.heap.size, 1, none⟩ = false := HX2.out.free 1
  cases f with
  | false =>
    have HY := Lib.hid (show prog l = none by rw [HX.out]; rfl)
    generalize (NumParse.must p 0 999999).getD 0 = n
    generalize (NumParse.must p 0 999999).isSome = ok
    go_wp2_with fail
    refine bodyPost_ret (v := .tuple #[ctx 0 (.slice none 0 0), .bool false]) (by simp [results, Tryz.results14, go_sem, c0, c1]) rfl (ctxRes_none HY.out ?_)
    exact (HB2.out.setCell (by simp) _).setCell (by simp) _
  | true =>
    cases hm : NumParse.must p 0 999999 with
    | none =>
      have HY := Lib.hid (show prog l = none by rw [HX.out, if_pos rfl, progOf, hm]; rfl)
      clear hm
      go_wp2_with fail
      refine bodyPost_ret (v := .tuple #[ctx 0 (.slice none 0 0), .bool false]) (by simp [results, Tryz.results14, go_sem, c0, c1]) rfl (ctxRes_none HY.out ?_)
      exact (HB2.out.setCell (by simp) _).setCell (by simp) _
    | some n =>
      have HY := Lib.hid (show prog l = (rowsOf r).bind fun rs => if isCtx n rs = true then some (n, rs) else none by rw [HX.out, if_pos rfl, progOf, hm]; rfl)
      clear hm
      go_wp2_with fail
      refine (HROWS.out w2 (shaped_below HSH.out HB2.out)).mono ?_
      rintro e w3 ⟨b3, hrow⟩
      have HX3 := Lib.hid (HX2.out.below b3 hz2)
      have HB3 := Lib.hid (HB2.out.trans (b3.mono (by omega)))
      have hz3 : w.heap.size < w3.heap.size := HX3.out.lt
      clear b3 c0 c1 f0 f1
      have c0 : w3.cell? ⟨w.heap.size, 0, none⟩ = some (.int .i64 0) := HX3.out.cell 0
      have c1 : w3.cell? ⟨w.heap.size, 1, none⟩ = some (.slice none 0 0) := HX3.out.cell 1
      have f0 : w3.frozen? ⟨w.heap.size, 0, none⟩ = false := HX3.out.free 0
      have f1 : w3.frozen? ⟨w.heap.size, 1, none⟩ = false := HX3.out.free 1
      rcases hrow with ⟨xs, v, hrs, rfl, ho⟩ | ⟨s, hrs, rfl⟩
      · obtain ⟨aa, ca, rfl⟩ := own_form ho
        have hbw := ((Below.refl w3.heap.size w3).alloc (Nat.le_refl _) (.cells #[.string ⟨#[]⟩] 60)).alloc (by simp) (.cells #[.int .i64 n, .slice aa xs.length ca] 26)
        have HBW := Lib.hid hbw
        have HO4 := Lib.hid (ho.below hbw (Nat.le_refl _))
        have hq := (BoxAt.new (w3.alloc (.cells #[.string ⟨#[]⟩] 60)) 26 #[.int .i64 n, .slice aa xs.length ca])
        have HQ : Hid (BoxAt ((w3.alloc (.cells #[.string ⟨#[]⟩] 60)).alloc (.cells #[.int .i64 n, .slice aa xs.length ca] 26)) (w3.heap.size + 1) 26 #[.int .i64 n, .slice aa xs.length ca]) := Lib.hid (by simpa using hq)
        clear ho hbw hq
        go_wp2_with fail
        refine (As.as_nil _ _).mono ?_
        rintro e w4 ⟨rfl, rfl⟩
        go_wp2_with fail
        refine (impl_isCtx n _ xs w3.heap.size _ HO4.out.reads (by simp; omega)).mono ?_
        rintro e w5 ⟨rfl, b5⟩
        have HQ5 := Lib.hid (HQ.out.below b5 (by simp))
        have HO5 := Lib.hid (HO4.out.below b5 (by simp; omega))
        have HB5 := Lib.hid (HBW.out.trans (b5.mono (by simp; omega)))
        have HB := Lib.hid (HB3.out.trans (HB5.out.mono (by omega)))
        have HX5 := Lib.hid (HX3.out.below HB5.out hz3)
        have hz5 : w3.heap.size + 1 < w5.heap.size := HQ5.out.lt
        clear b5 c0 c1 f0 f1
        have c0 : w5.cell? ⟨w.heap.size, 0, none⟩ = some (.int .i64 0) := HX5.out.cell 0
        have c1 : w5.cell? ⟨w.heap.size, 1, none⟩ = some (.slice none 0 0) := HX5.out.cell 1
        have f0 : w5.frozen? ⟨w.heap.size, 0, none⟩ = false := HX5.out.free 0
        have f1 : w5.frozen? ⟨w.heap.size, 1, none⟩ = false := HX5.out.free 1
        have q0 : w5.cell? ⟨w3.heap.size + 1, 0, none⟩ = some (.int .i64 n) := HQ5.out.cell 0
        have q1 : w5.cell? ⟨w3.heap.size + 1, 1, none⟩ = some (.slice aa xs.length ca) := HQ5.out.cell 1
        cases hic : isCtx n xs with
        | false =>
          have HZ := Lib.hid (show prog l = none by rw [HY.out, hrs, Option.bind_some, hic]; rfl)
          clear hrs hic
          go_wp2_with fail
          refine bodyPost_ret (v := .tuple #[ctx 0 (.slice none 0 0), .bool false]) (by simp [results, Tryz.results14, go_sem, c0, c1]) rfl (ctxRes_none HZ.out ?_)
          exact (HB.out.setCell (by simp) _).setCell (by simp) _
        | true =>
          have HZ := Lib.hid (show prog l = some (n, xs) by rw [HY.out, hrs, Option.bind_some, hic]; rfl)
          clear hrs hic
          go_wp2_with fail
          refine bodyPost_ret (v := .tuple #[ctx n (.slice aa xs.length ca), .bool true]) (by simp [results, Tryz.results14, go_sem, c0, c1]) rfl (ctxRes_some HZ.out ?_ ?_)
          · exact (own_set (own_set HO5.out (.inl (by simp; omega)) _) (.inl (by simp; omega)) _).mono (by omega) (by simp; omega)
          · exact (HB.out.setCell (by simp) _).setCell (by simp) _
      · have HZ := Lib.hid (show prog l = none by rw [HY.out, hrs]; rfl)
        clear hrs
        go_wp2_with fail
        refine (As.as_hit s ⟨w3.heap.size, 0, none⟩ (.string ⟨#[]⟩) _ ?_ ?_ ?_).mono ?_
        · rw [(HB3.out.alloc (by omega) _).cell (p := ⟨0, 0, none⟩) (gErr_lt HG.out)]; exact HG.out
        · simp
        · simp
        rintro e w4 ⟨rfl, hw4⟩
        have hb4 : Below w3.heap.size w3 w4 := by
          rw [hw4]
          exact (((((Below.refl w3.heap.size w3).alloc (Nat.le_refl _) _).alloc (by simp) _ |>.alloc (by simp; omega) _).alloc (by simp; omega) _).alloc (by simp; omega) _).setCell (by simp) _
        have HX4 := Lib.hid (HX3.out.below hb4 hz3)
        have HB4 := Lib.hid (HB3.out.trans (hb4.mono (by omega)))
        have hz4 : w.heap.size < w4.heap.size := HX4.out.lt
        clear hb4 hw4 c0 c1 f0 f1
        have c0 : w4.cell? ⟨w.heap.size, 0, none⟩ = some (.int .i64 0) := HX4.out.cell 0
        have c1 : w4.cell? ⟨w.heap.size, 1, none⟩ = some (.slice none 0 0) := HX4.out.cell 1
        have f0 : w4.frozen? ⟨w.heap.size, 0, none⟩ = false := HX4.out.free 0
        have f1 : w4.frozen? ⟨w.heap.size, 1, none⟩ = false := HX4.out.free 1
        go_wp2_with fail
        refine bodyPost_ret (v := .tuple #[ctx 0 (.slice none 0 0), .bool false]) (by simp [results, Tryz.results14, go_sem, c0, c1]) rfl (ctxRes_none HZ.out ?_)
        exact (HB4.out.setCell (by simp) _).setCell (by simp) _
end Go.Proofs.YtkdnjebjbadloaaGreatDoor.Pctx
