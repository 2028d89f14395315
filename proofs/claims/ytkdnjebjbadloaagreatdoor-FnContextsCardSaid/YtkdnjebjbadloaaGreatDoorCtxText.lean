/-
  ContextText of the program and of the model.
-/
import Derived.Test.YtkdnjebjbadloaaGreatDoorDual
import Derived.Test.YtkdnjebjbadloaaGreatDoorSets
import Derived.Test.YtkdnjebjbadloaaGreatDoorNum
import Derived.Test.YtkdnjebjbadloaaGreatDoorItoa
import Derived.Deep.RegionHeld3
namespace Go.Proofs.YtkdnjebjbadloaaGreatDoor.CtxText
open Go Go.RowKit Mem Sets Elems Text Joins Strs Ctx Sets2
set_option maxRecDepth 100000

theorem setsFile : True := trivial
def ctxText (a : Int) (rs : List Int) : List UInt8 := if isCtx a rs = true then Lib.itoa a ++ [32] ++ setsText rs else []
theorem itoa_small : ∀ a : Nat, a < 7 → (Lib.itoa a).length = 1 := by decide +kernel
theorem keep2 {w w' : World} {B : Nat} {p q : Addr} {x y : Value} (hb : Below B w w') (h : w.cell? p = some x ∧ w.cell? q = some y) (hp : p.block < B) (hq : q.block < B) :
    w'.cell? p = some x ∧ w'.cell? q = some y := ⟨(hb.cell hp).trans h.1, (hb.cell hq).trans h.2⟩

set_option maxHeartbeats 800000 in
theorem spec_ctxText (a : Int) (v : Value) (rs : List Int) (B : Nat) (w : World) (hr : Reads w B v (ints rs)) (hB : B ≤ w.heap.size) :
    Calls Tryz.prog 24 #[ctx a v] w fun e w' => e = .returned (.string ⟨(ctxText a rs).toArray⟩) ∧ Below w.heap.size w w' := by
  obtain ⟨aa, ca, rfl⟩ := reads_form hr
  have HR := Lib.hid hr
  clear hr
  have hB1 : B ≤ (w.alloc (.cells #[.int .i64 a, .slice aa rs.length ca] 26)).heap.size := by simp; omega
  have HR1 := Lib.hid (HR.out.below (B' := w.heap.size) ((Below.refl _ _).alloc (Nat.le_refl _) (.cells #[.int .i64 a, .slice aa rs.length ca] 26)) hB)
  cases hic : isCtx a rs with
  | false =>
    have HX := Lib.hid (show ctxText a rs = [] by simp [ctxText, hic])
    go_enter Tryz.func24, Tryz.ntmps24
    go_wp2_with fail
    refine (spec_isCtx a _ rs B _ HR1.out hB1).mono ?_
    rintro e w1 ⟨rfl, b1⟩
    rw [hic]
    have B1 := Lib.hid b1
    clear b1
    go_wp2_with fail
    go_ret
    exact ⟨by rw [HX.out]; rfl, ((Below.refl _ _).alloc (Nat.le_refl _) _).trans (B1.out.mono (by simp))⟩
  | true =>
    have HX := Lib.hid (show ctxText a rs = Lib.itoa a ++ [32] ++ setsText rs by simp [ctxText, hic])
    obtain ⟨ha0, ha6, h8, -⟩ := isCtx_parts hic
    have HIC := Lib.hid hic
    have hl1 : (Lib.itoa a).length = 1 := by
      obtain ⟨n, rfl⟩ := Int.eq_ofNat_of_zero_le ha0
      exact itoa_small n (by omega)
    have hl2 := setsText_le rs (by omega)
    generalize hA : Lib.itoa a = la at hl1
    generalize hT : setsText rs = lt at hl2
    have HF := Lib.hid (fun w => by have := Num.spec_format a (by omega) (by omega) w; rw [hA] at this; exact this)
    have HS := Lib.hid (fun v B w h hB => by have := spec_sets v rs B w h hB (by omega); rw [hT] at this; exact this)
    rw [hA, hT] at HX
    clear hA hT hic
    have hbig : (9223372036854775807 < 2 + lt.length) = False := by simp; omega
    have hs1 : (⟨la.toArray⟩ : ByteArray).size = la.length := by simp [ByteArray.size]
    have hs2 : (⟨lt.toArray⟩ : ByteArray).size = lt.length := by simp [ByteArray.size]
    go_enter Tryz.func24, Tryz.ntmps24
    go_wp2_with fail
    refine (spec_isCtx a _ rs B _ HR1.out hB1).mono ?_
    rintro e w1 ⟨rfl, b1⟩
    rw [HIC.out]
    have hbx := (BoxAt.new w 26 #[.int .i64 a, .slice aa rs.length ca]).below b1 (by simp)
    have c0 : w1.cell? ⟨w.heap.size, 0, none⟩ = some (.int .i64 a) := hbx.cell 0
    have c1 : w1.cell? ⟨w.heap.size, 1, none⟩ = some (.slice aa rs.length ca) := hbx.cell 1
    have hz1 : w.heap.size < w1.heap.size := hbx.lt
    have HR2 := Lib.hid (HR1.out.below b1 hB1)
    have B1 := Lib.hid (((Below.refl w.heap.size w).alloc (Nat.le_refl _) _).trans (b1.mono (by simp)))
    clear b1 hbx
    go_wp2_with fail
    go_region_held3 (fun wx => wx.cell? ⟨w.heap.size, 0, none⟩ = some (.int .i64 a) ∧ wx.cell? ⟨w.heap.size, 1, none⟩ = some (.slice aa rs.length ca))
      (first | exact ⟨c0, c1⟩ | exact keep2 (w := w1.drew) b2 ⟨c0, c1⟩ (by show w.heap.size < w1.heap.size; omega) (by show w.heap.size < w1.heap.size; omega) | exact keep2 (w := w1.drew) (b2.trans (b3.mono b2.size)) ⟨c0, c1⟩ (by show w.heap.size < w1.heap.size; omega) (by show w.heap.size < w1.heap.size; omega))
      (first | (go_at_call 52; refine (HF.out _).mono ?_; rintro e w2 ⟨rfl, b2⟩) | (go_at_call 53; refine (HS.out _ B w2 (HR2.out.below (Below.refl w1.heap.size w1).drew (by omega) |>.below b2 (by show B ≤ w1.heap.size; omega)) (by have := b2.size; change w1.heap.size ≤ w2.heap.size at this; omega)).mono ?_; rintro e w3 ⟨rfl, b3⟩) | fail)
    have T3 := Lib.hid (B1.out.drew.trans ((b2.trans (b3.mono b2.size)).mono (by show w.heap.size ≤ w1.heap.size; omega)))
    clear b2 b3
    go_wp2_with fail
    go_ret
    refine ⟨?_, T3.out⟩
    rw [HX.out]
    have : (⟨la.toArray⟩ : ByteArray) ++ ⟨#[32]⟩ ++ ⟨lt.toArray⟩ = ⟨(la ++ [32] ++ lt).toArray⟩ := by apply ByteArray.ext; simp [ByteArray.data_append]
    simp only [List.getElem?_toArray, Array.getD_eq_getD_getElem?]
    exact congrArg (fun x => Ending.returned (Value.string x)) this
set_option maxHeartbeats 800000 in
theorem impl_ctxText (a : Int) (v : Value) (rs : List Int) (B : Nat) (w : World) (hr : Reads w B v (ints rs)) (hB : B ≤ w.heap.size) (hp : Itoa.Pow w) :
    Calls Tryz.prog 23 #[ctx a v] w fun e w' => e = .returned (.string ⟨(ctxText a rs).toArray⟩) ∧ Below w.heap.size w w' := by
  obtain ⟨aa, ca, rfl⟩ := reads_form hr
  have HR := Lib.hid hr
  clear hr
  have hB1 : B ≤ (w.alloc (.cells #[.int .i64 a, .slice aa rs.length ca] 26)).heap.size := by simp; omega
  have HR1 := Lib.hid (HR.out.below (B' := w.heap.size) ((Below.refl _ _).alloc (Nat.le_refl _) (.cells #[.int .i64 a, .slice aa rs.length ca] 26)) hB)
  cases hic : isCtx a rs with
  | false =>
    have HX := Lib.hid (show ctxText a rs = [] by simp [ctxText, hic])
    go_enter Tryz.func23, Tryz.ntmps23
    go_wp2_with fail
    refine (impl_isCtx a _ rs B _ HR1.out hB1).mono ?_
    rintro e w1 ⟨rfl, b1⟩
    rw [hic]
    have B1 := Lib.hid b1
    clear b1
    go_wp2_with fail
    go_ret
    exact ⟨by rw [HX.out]; rfl, ((Below.refl _ _).alloc (Nat.le_refl _) _).trans (B1.out.mono (by simp))⟩
  | true =>
    have HX := Lib.hid (show ctxText a rs = Lib.itoa a ++ [32] ++ setsText rs by simp [ctxText, hic])
    obtain ⟨ha0, ha6, h8, -⟩ := isCtx_parts hic
    have HIC := Lib.hid hic
    have hl1 : (Lib.itoa a).length = 1 := by
      obtain ⟨n, rfl⟩ := Int.eq_ofNat_of_zero_le ha0
      exact itoa_small n (by omega)
    have hl2 := setsText_le rs (by omega)
    generalize hA : Lib.itoa a = la at hl1
    generalize hT : setsText rs = lt at hl2
    have HF := Lib.hid (fun w hp => by have := Itoa.impl_format a (by omega) (by omega) w hp; rw [hA] at this; exact this)
    have HP := Lib.hid hp
    clear hp
    have HS := Lib.hid (fun v B w h hB => by have := impl_sets v rs B w h hB (by omega); rw [hT] at this; exact this)
    rw [hA, hT] at HX
    clear hA hT hic
    have hbig : (9223372036854775807 < 2 + lt.length) = False := by simp; omega
    have hs1 : (⟨la.toArray⟩ : ByteArray).size = la.length := by simp [ByteArray.size]
    have hs2 : (⟨lt.toArray⟩ : ByteArray).size = lt.length := by simp [ByteArray.size]
    go_enter Tryz.func23, Tryz.ntmps23
    go_wp2_with fail
    refine (impl_isCtx a _ rs B _ HR1.out hB1).mono ?_
    rintro e w1 ⟨rfl, b1⟩
    rw [HIC.out]
    have hbx := (BoxAt.new w 26 #[.int .i64 a, .slice aa rs.length ca]).below b1 (by simp)
    have c0 : w1.cell? ⟨w.heap.size, 0, none⟩ = some (.int .i64 a) := hbx.cell 0
    have c1 : w1.cell? ⟨w.heap.size, 1, none⟩ = some (.slice aa rs.length ca) := hbx.cell 1
    have hz1 : w.heap.size < w1.heap.size := hbx.lt
    have HR2 := Lib.hid (HR1.out.below b1 hB1)
    have B1 := Lib.hid (((Below.refl w.heap.size w).alloc (Nat.le_refl _) _).trans (b1.mono (by simp)))
    have HP1 := Lib.hid (HP.out.below B1.out.drew HP.out.2)
    clear b1 hbx
    go_wp2_with fail
    go_region_held3 (fun wx => wx.cell? ⟨w.heap.size, 0, none⟩ = some (.int .i64 a) ∧ wx.cell? ⟨w.heap.size, 1, none⟩ = some (.slice aa rs.length ca))
      (first | exact ⟨c0, c1⟩ | exact keep2 (w := w1.drew) b2 ⟨c0, c1⟩ (by show w.heap.size < w1.heap.size; omega) (by show w.heap.size < w1.heap.size; omega) | exact keep2 (w := w1.drew) (b2.trans (b3.mono b2.size)) ⟨c0, c1⟩ (by show w.heap.size < w1.heap.size; omega) (by show w.heap.size < w1.heap.size; omega))
      (first | (go_at_call 50; refine (HF.out w1.drew HP1.out).mono ?_; rintro e w2 ⟨rfl, b2⟩) | (go_at_call 51; refine (HS.out _ B w2 (HR2.out.below (Below.refl w1.heap.size w1).drew (by omega) |>.below b2 (by show B ≤ w1.heap.size; omega)) (by have := b2.size; change w1.heap.size ≤ w2.heap.size at this; omega)).mono ?_; rintro e w3 ⟨rfl, b3⟩) | fail)
    have T3 := Lib.hid (B1.out.drew.trans ((b2.trans (b3.mono b2.size)).mono (by show w.heap.size ≤ w1.heap.size; omega)))
    clear b2 b3
    go_wp2_with fail
    go_ret
    refine ⟨?_, T3.out⟩
    rw [HX.out]
    have : (⟨la.toArray⟩ : ByteArray) ++ ⟨#[32]⟩ ++ ⟨lt.toArray⟩ = ⟨(la ++ [32] ++ lt).toArray⟩ := by apply ByteArray.ext; simp [ByteArray.data_append]
    simp only [List.getElem?_toArray, Array.getD_eq_getD_getElem?]
    exact congrArg (fun x => Ending.returned (Value.string x)) this
end Go.Proofs.YtkdnjebjbadloaaGreatDoor.CtxText
