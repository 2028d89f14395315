/-
  Chapter 5 of the program: the next closed set, the concept of a set, of an object, of an attribute; of both sides: whether a pair is a concept.
-/
import Derived.Test.YthodmmckekgkdaaConc2
namespace Go.Proofs.Ythodmmckekgkdaa.Ctx
open Go Go.RowKit Mem Sets
set_option maxRecDepth 100000
attribute [local go_sem ↓] Go.wp_at_zero Go.wp_at_succ

theorem keepc4 {w w' : World} {B : Nat} {p q r s : Addr} {x y z t : Value} (hb : Below B w w') (h : w.cell? p = some x ∧ w.cell? q = some y ∧ w.cell? r = some z ∧ w.cell? s = some t) (hp : p.block < B) (hq : q.block < B) (hr : r.block < B) (hs : s.block < B) :
    w'.cell? p = some x ∧ w'.cell? q = some y ∧ w'.cell? r = some z ∧ w'.cell? s = some t :=
  ⟨(hb.cell hp).trans h.1, (hb.cell hq).trans h.2.1, (hb.cell hr).trans h.2.2.1, (hb.cell hs).trans h.2.2.2⟩
theorem closure_clo {a : Int} {rs : List Int} {x : Nat} (hi : isCtx a rs = true) (hx : x < 2 ^ a.toNat) : closure a rs (x : Int) = ((clo a rs x : Nat) : Int) := by
  obtain ⟨h0, h6, -⟩ := isCtx_parts hi
  rw [closure, if_pos ⟨hi, isSet_of_nat h0 (by omega) hx⟩]; rfl
theorem hasEl_bit {n k : Nat} (hn : n < 256) (hk : k < 8) : hasEl (n : Int) (k : Int) = bit n k := by
  rw [hasEl, isSet8_true (by omega), show decide (0 ≤ (k : Int) ∧ (k : Int) ≤ 7) = true by simp; omega]; rfl
set_option maxHeartbeats 3200000 in
theorem impl_next (a : Int) (v : Value) (rs : List Int) (s : Int) (B : Nat) (w : World) (hr : Reads w B v (ints rs)) (hB : B ≤ w.heap.size) :
    Calls Try.prog 124 #[ctx a v, .int .i64 s] w fun e w' => e = .returned (optV (nextClosed a rs s)) ∧ Below w.heap.size w w' := by
  obtain ⟨aa, ca, rfl⟩ := reads_form hr
  have HR := Lib.hid hr
  clear hr
  go_enter Try.func124, Try.ntmps124
  go_wp2_with fail
  refine (hasAtt a _ rs s B _ (boxed HR.out hB _) (by simp; omega)).mono ?_
  rintro e W ⟨rfl, b⟩
  obtain ⟨hc, hf⟩ := bcell b
  have hz := b.size
  simp at hz
  have HR1 := Lib.hid ((boxed HR.out hB (.cells #[.int .i64 a, .slice aa rs.length ca] 26)).below b (by simp; omega))
  have hW := ((Below.refl w.heap.size w).alloc (Nat.le_refl _) (.cells #[.int .i64 a, .slice aa rs.length ca] 26)).trans (b.mono (by simp))
  have q0 : W.cell? ⟨w.heap.size, 0, none⟩ = some (.int .i64 a) := by rw [hc _ _ (by simp)]; simp
  have q1 : W.cell? ⟨w.heap.size, 1, none⟩ = some (.slice aa rs.length ca) := by rw [hc _ _ (by simp)]; simp
  clear b hc hf
  generalize hX : (isCtx a rs && isSet a s) = X
  cases X with
  | false =>
    have HX : Hid (nextClosed a rs s = none) := Lib.hid (by rw [nextClosed, if_neg (by simpa using hX)])
    clear hX
    go_wp2_with fail
    go_ret2
    exact ⟨by rw [HX.out]; rfl, hW⟩
  | true =>
    simp only [Bool.and_eq_true] at hX
    obtain ⟨hi, hs⟩ := hX
    obtain ⟨n, rfl, hn, -, -⟩ := isSet_to_nat hs
    obtain ⟨h0, h6, h8, -⟩ := isCtx_parts hi
    have hn8 : n < 256 := Nat.lt_of_lt_of_le hn (pow_le8 (by omega))
    have HX : Hid (nextClosed a rs (n : Int) = nextTo (clo a rs) n a.toNat) := Lib.hid (by rw [nextClosed, if_pos ⟨hi, hs⟩, Int.toNat_natCast])
    have HI := Lib.hid hi
    have HC : Hid (∀ x, clo a rs x < 256) := Lib.hid (fun x => intTo_256 hi _ _)
    have HB1 : Hid (B ≤ W.heap.size) := Lib.hid (by omega)
    have HW := Lib.hid hW
    clear hi hs hW
    go_wp2_with fail
    go_loopw [6, 7, 8] (fun i b x wr => ∃ (k : Nat) (z : Int), k ≤ a.toNat ∧ i = .int .i64 z ∧ Hid (z + 1 = k) ∧ Hid (nextTo (clo a rs) n a.toNat = nextTo (clo a rs) n k) ∧ Hid (Below W.heap.size W wr)) (fun i _ _ _ => (intOf i + 1).toNat)
    case atStart => exact ⟨a.toNat, a - 1, Nat.le_refl _, rfl, Lib.hid (by omega), Lib.hid rfl, Lib.hid (Below.refl _ _)⟩
    case round =>
      obtain ⟨k, z, hk, rfl, hzk, hnx, hbel⟩ := hrel
      cases k with
      | zero =>
        have hzz : z = -1 := by have := hzk.out; omega
        subst hzz
        go_wp2_with fail
        go_ret2
        exact ⟨by rw [HX.out, hnx.out]; rfl, HW.out.trans (hbel.out.mono (by omega))⟩
      | succ k =>
        have hzz : z = k := by have := hzk.out; omega
        subst hzz
        cases hbt : bit n k with
        | true =>
          have HN2 : Hid (nextTo (clo a rs) n a.toNat = nextTo (clo a rs) n k) := Lib.hid (by rw [hnx.out, nextTo, if_pos (show n.testBit k = true from hbt)])
          have hhas := (hasEl_bit hn8 (show k < 8 by omega)).trans hbt
          clear hbt
          go_wp2_with fail
          refine (impl_hasEl _ _ _).mono ?_
          rintro e w' ⟨rfl, hw⟩
          subst w'
          rw [hhas]
          go_wp2_with fail
          go_roundw
          case rel => exact ⟨k, (k : Int) - 1, by omega, rfl, Lib.hid (by omega), HN2, hbel⟩
          case measure => first | (simp [intOf]; done) | (simp [intOf]; omega)
        | false =>
          have hbf : ¬ n.testBit k = true := by
            have : n.testBit k = false := hbt
            rw [this]; simp
          have hhas := (hasEl_bit hn8 (show k < 8 by omega)).trans hbt
          have HNX := Lib.hid (hnx.out.trans (show nextTo (clo a rs) n (k + 1) = if tryAt (clo a rs) n k % 2 ^ k = n % 2 ^ k then some (tryAt (clo a rs) n k) else nextTo (clo a rs) n k by rw [nextTo, if_neg hbf]))
          have hp8 : 2 ^ k ≤ 256 := pow_le8 (by omega)
          have hm : n % 2 ^ k < 256 := by have := Nat.mod_lt n (Nat.pow_pos (n := k) (show 0 < 2 by omega)); omega
          have hmf := mod_full n k hn8 (by omega)
          have hop := or_pow (n % 2 ^ k) k hm (by omega)
          have HCL := Lib.hid (fun w' h hB => impl_closure a (.slice aa rs.length ca) rs ((n % 2 ^ k ||| 2 ^ k : Nat) : Int) B w' h hB)
          have hx256 := HC.out (n % 2 ^ k ||| 2 ^ k)
          rw [closure_clo HI.out (or_lt (by omega)), show clo a rs (n % 2 ^ k ||| 2 ^ k) = tryAt (clo a rs) n k from rfl] at HCL
          change tryAt (clo a rs) n k < 256 at hx256
          generalize tryAt (clo a rs) n k = x at HNX HCL hx256
          have hmx := mod_full x k hx256 (by omega)
          rw [← hop, show wrap64 (2 ^ k) = IntKind.i64.wrap (2 ^ k) from (IntWalk.i64_left _).symm] at HCL
          have HM := Lib.hid hmf
          have HXm := Lib.hid hmx
          have c0 : wr.cell? ⟨w.heap.size, 0, none⟩ = some (.int .i64 a) := (hbel.out.cell (p := ⟨w.heap.size, 0, none⟩) (by show w.heap.size < _; omega)).trans q0
          have c1 : wr.cell? ⟨w.heap.size, 1, none⟩ = some (.slice aa rs.length ca) := (hbel.out.cell (p := ⟨w.heap.size, 1, none⟩) (by show w.heap.size < _; omega)).trans q1
          have hzr := hbel.out.size
          have HBr : Hid (B ≤ wr.heap.size) := Lib.hid (Nat.le_trans HB1.out hzr)
          have HRr := Lib.hid (HR1.out.below hbel.out HB1.out)
          clear hmf hmx hop hbf hbt
          generalize hgm : n % 2 ^ k = y at HNX HCL HM hm
          clear hgm
          go_wp2_with fail
          refine (impl_hasEl _ _ _).mono ?_
          rintro e w' ⟨rfl, hw⟩
          subst w'
          rw [hhas]
          go_wp2_with fail
          refine (impl_full _ _).mono ?_
          rintro e w' ⟨rfl, hw⟩
          subst w'
          go_wp2_with fail
          rw [HM.out]
          go_wp2_with fail
          go_region_held3 (fun wx => wx.cell? ⟨w.heap.size, 0, none⟩ = some (.int .i64 a) ∧ wx.cell? ⟨w.heap.size, 1, none⟩ = some (.slice aa rs.length ca))
            (first | exact ⟨c0, c1⟩ | exact keepq (w := wr.drew) (B := wr.heap.size) b2 ⟨c0, c1⟩ (by show w.heap.size < _; omega) (by show w.heap.size < _; omega))
            (first | (go_at_call 58; refine (HCL.out wr.drew (HRr.out.below (Below.refl wr.heap.size wr).drew HBr.out) HBr.out).mono ?_; rintro e w2 ⟨rfl, b2⟩) | fail)
          have B2 := Lib.hid (hbel.out.trans ((Below.refl wr.heap.size wr).drew.trans b2 |>.mono hzr))
          clear b2
          go_wp2_with fail
          refine (impl_full _ _).mono ?_
          rintro e w' ⟨rfl, hw⟩
          subst w'
          by_cases hq : x % 2 ^ k = y
          · have hqb : (bits .and .i64 (x : Int) (full k) == (y : Int)) = true := by rw [HXm.out, hq]; simp
            have HN3 : Hid (nextTo (clo a rs) n a.toNat = some x) := Lib.hid (by rw [HNX.out, if_pos hq])
            clear hq
            go_wp2_with fail
            go_ret2
            exact ⟨by rw [HX.out, HN3.out]; rfl, HW.out.trans (B2.out.mono (by omega))⟩
          · have hqb : (bits .and .i64 (x : Int) (full k) == (y : Int)) = false := by rw [HXm.out, beq_eq_false_iff_ne]; exact fun h => hq (Int.ofNat_inj.1 h)
            have HN3 : Hid (nextTo (clo a rs) n a.toNat = nextTo (clo a rs) n k) := Lib.hid (by rw [HNX.out, if_neg hq])
            clear hq
            go_wp2_with fail
            go_roundw
            case rel => exact ⟨k, (k : Int) - 1, by omega, rfl, Lib.hid (by omega), HN3, B2⟩
            case measure => first | (simp [intOf]; done) | (simp [intOf]; omega)
end Go.Proofs.Ythodmmckekgkdaa.Ctx
