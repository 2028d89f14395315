/-
  Chapter 5 of the model: the concept of a set, of an object, of an attribute; whether a pair is a concept.
-/
import Derived.Test.YtdkgmjbhkifcbaaConc
import Derived.Deep.RegionHeld3
namespace Go.Proofs.Ytdkgmjbhkifcbaa.Ctx
open Go Go.RowKit Mem Sets
set_option maxRecDepth 100000

/-- A concept, and whether there is one. -/
def optC (o : Option PInt) : Value := .tuple #[conc (o.getD (0, 0)), .bool o.isSome]
theorem keepk {w w' : World} {B : Nat} {p q r : Addr} {x y z : Value} (hb : Below B w w') (h : w.cell? p = some x ∧ w.cell? q = some y ∧ w.cell? r = some z) (hp : p.block < B) (hq : q.block < B) (hr : r.block < B) :
    w'.cell? p = some x ∧ w'.cell? q = some y ∧ w'.cell? r = some z := ⟨(hb.cell hp).trans h.1, (hb.cell hq).trans h.2.1, (hb.cell hr).trans h.2.2⟩
def conceptAt (a : Int) (rs : List Int) (s : Int) : Option PInt := if isCtx a rs = true ∧ isSet a s = true then some (conceptOf a rs s) else none
def attrConcept (a : Int) (rs : List Int) (m : Int) : Option PInt := if isCtx a rs = true ∧ 0 ≤ m ∧ m ≤ a - 1 then some (conceptOf a rs (2 ^ m.toNat : Nat)) else none
def objConcept (a : Int) (rs : List Int) (g : Int) : Option PInt := if isCtx a rs = true ∧ 0 ≤ g ∧ g ≤ rs.length - 1 then some (conceptOf a rs (rs.getD g.toNat 0)) else none
set_option maxHeartbeats 1600000 in
theorem spec_conceptAt (a : Int) (v : Value) (rs : List Int) (s : Int) (B : Nat) (w : World) (hr : Reads w B v (ints rs)) (hB : B ≤ w.heap.size) :
    Calls Try.prog 39 #[ctx a v, .int .i64 s] w fun e w' => e = .returned (optC (conceptAt a rs s)) ∧ Below w.heap.size w w' := by
  obtain ⟨aa, ca, rfl⟩ := reads_form hr
  have HR := Lib.hid hr
  clear hr
  have q0 : ((w.alloc (.cells #[.int .i64 a, .slice aa rs.length ca] 26)).alloc (.cells #[.int .i64 0, .int .i64 0] 38)).cell? ⟨w.heap.size, 0, none⟩ = some (.int .i64 a) := by simp
  have q1 : ((w.alloc (.cells #[.int .i64 a, .slice aa rs.length ca] 26)).alloc (.cells #[.int .i64 0, .int .i64 0] 38)).cell? ⟨w.heap.size, 1, none⟩ = some (.slice aa rs.length ca) := by simp
  have hW := ((Below.refl w.heap.size w).alloc (Nat.le_refl _) (.cells #[.int .i64 a, .slice aa rs.length ca] 26)).alloc (by simp) (.cells #[.int .i64 0, .int .i64 0] 38)
  have HR1 := Lib.hid (HR.out.below hW hB)
  have hz : w.heap.size + 2 ≤ ((w.alloc (.cells #[.int .i64 a, .slice aa rs.length ca] 26)).alloc (.cells #[.int .i64 0, .int .i64 0] 38)).heap.size := by simp
  have hbx : BoxAt ((w.alloc (.cells #[.int .i64 a, .slice aa rs.length ca] 26)).alloc (.cells #[.int .i64 0, .int .i64 0] 38)) (w.heap.size + 1) 38 #[.int .i64 0, .int .i64 0] := by
    have := BoxAt.new (w.alloc (.cells #[.int .i64 a, .slice aa rs.length ca] 26)) 38 #[.int .i64 0, .int .i64 0]; simpa using this
  go_enter Try.func39, Try.ntmps39
  go_wp2_with fail
  generalize ((w.alloc (.cells #[.int .i64 a, .slice aa rs.length ca] 26)).alloc (.cells #[.int .i64 0, .int .i64 0] 38)) = W at HR1 hW q0 q1 hz hbx ⊢
  refine (spec_isCtx a _ rs B W HR1.out (by omega)).mono ?_
  rintro e w1 ⟨rfl, b1⟩
  have hz1 := b1.size
  have k0 : w1.cell? ⟨w.heap.size, 0, none⟩ = some (.int .i64 a) := (b1.cell (p := ⟨w.heap.size, 0, none⟩) (by show w.heap.size < _; omega)).trans q0
  have k1 : w1.cell? ⟨w.heap.size, 1, none⟩ = some (.slice aa rs.length ca) := (b1.cell (p := ⟨w.heap.size, 1, none⟩) (by show w.heap.size < _; omega)).trans q1
  have HR2 := Lib.hid (HR1.out.below b1 (by omega))
  have B1 := Lib.hid (hW.trans (b1.mono (by omega)))
  have HBX1 := Lib.hid (hbx.below b1 (by omega))
  have e0 : w1.cell? ⟨w.heap.size + 1, 0, none⟩ = some (.int .i64 0) := HBX1.out.cell 0
  have e1 : w1.cell? ⟨w.heap.size + 1, 1, none⟩ = some (.int .i64 0) := HBX1.out.cell 1
  have f0 : w1.frozen? ⟨w.heap.size + 1, 0, none⟩ = false := HBX1.out.free 0
  have f1 : w1.frozen? ⟨w.heap.size + 1, 1, none⟩ = false := HBX1.out.free 1
  have hzw : w.heap.size + 2 ≤ w1.heap.size := by omega
  clear b1 q0 q1 hbx hW HR1 hz
  cases hi : isCtx a rs with
  | false =>
    have HX : Hid (conceptAt a rs s = none) := Lib.hid (by simp [conceptAt, hi])
    clear hi
    go_wp2_with fail
    refine bodyPost_ret (v := .tuple #[.agg #[.int .i64 0, .int .i64 0], .bool false]) (by simp [results, Try.results39, go_sem, e0, e1]) rfl ⟨by rw [HX.out]; rfl, (B1.out.setCell (p := ⟨w.heap.size + 1, 0, none⟩) (by show w.heap.size ≤ w.heap.size + 1; omega) _).setCell (p := ⟨w.heap.size + 1, 1, none⟩) (by show w.heap.size ≤ w.heap.size + 1; omega) _⟩
  | true =>
    obtain ⟨ha0, ha6, hl8, -⟩ := isCtx_parts hi
    by_cases hs : isSet a s = true
    · have HX : Hid (conceptAt a rs s = some (conceptOf a rs (s))) := Lib.hid (by rw [conceptAt, if_pos ⟨hi, hs⟩])
      have hHI := Lib.hid hi
      have hsb := isSet_le hs
      have H1 := Lib.hid (fun v w h hB => l5Concept a v rs s B w h hB hi hsb)
      obtain ⟨p, hp⟩ : ∃ p, conceptOf a rs (s) = p := ⟨_, rfl⟩
      rw [hp] at HX H1
      have hguard := hs
      clear hp hi
      go_wp2_with fail
      refine (spec_isSet _ _ _).mono ?_
      rintro e w' ⟨rfl, hw⟩
      subst w'
      rw [hguard]
      go_wp2_with fail
      refine (H1.out _ w1 HR2.out (by omega)).mono ?_
      rintro e w2 ⟨rfl, b2⟩
      have HBX2 := Lib.hid (HBX1.out.below b2 (by omega))
      have B2 := Lib.hid (B1.out.trans (b2.mono (by omega)))
      clear b2 e0 e1 f0 f1
      have e0 : w2.cell? ⟨w.heap.size + 1, 0, none⟩ = some (.int .i64 0) := HBX2.out.cell 0
      have e1 : w2.cell? ⟨w.heap.size + 1, 1, none⟩ = some (.int .i64 0) := HBX2.out.cell 1
      have f0 : w2.frozen? ⟨w.heap.size + 1, 0, none⟩ = false := HBX2.out.free 0
      have f1 : w2.frozen? ⟨w.heap.size + 1, 1, none⟩ = false := HBX2.out.free 1
      go_wp2_with fail
      refine bodyPost_ret (v := .tuple #[.agg #[.int .i64 p.1, .int .i64 p.2], .bool true]) (by simp [results, Try.results39, go_sem, e0, e1]) rfl ⟨by rw [HX.out]; rfl, (B2.out.setCell (p := ⟨w.heap.size + 1, 0, none⟩) (by show w.heap.size ≤ w.heap.size + 1; omega) _).setCell (p := ⟨w.heap.size + 1, 1, none⟩) (by show w.heap.size ≤ w.heap.size + 1; omega) _⟩
    · have HX : Hid (conceptAt a rs s = none) := Lib.hid (by rw [conceptAt, if_neg (fun h => hs h.2)])
      have hguard := (show isSet a s = false by simpa using hs)
      clear hi hs
      go_wp2_with fail
      refine (spec_isSet _ _ _).mono ?_
      rintro e w' ⟨rfl, hw⟩
      subst w'
      rw [hguard]
      go_wp2_with fail
      refine bodyPost_ret (v := .tuple #[.agg #[.int .i64 0, .int .i64 0], .bool false]) (by simp [results, Try.results39, go_sem, e0, e1]) rfl ⟨by rw [HX.out]; rfl, (B1.out.setCell (p := ⟨w.heap.size + 1, 0, none⟩) (by show w.heap.size ≤ w.heap.size + 1; omega) _).setCell (p := ⟨w.heap.size + 1, 1, none⟩) (by show w.heap.size ≤ w.heap.size + 1; omega) _⟩
set_option maxHeartbeats 1600000 in
theorem spec_attrConcept (a : Int) (v : Value) (rs : List Int) (s : Int) (B : Nat) (w : World) (hr : Reads w B v (ints rs)) (hB : B ≤ w.heap.size) :
    Calls Try.prog 44 #[ctx a v, .int .i64 s] w fun e w' => e = .returned (optC (attrConcept a rs s)) ∧ Below w.heap.size w w' := by
  obtain ⟨aa, ca, rfl⟩ := reads_form hr
  have HR := Lib.hid hr
  clear hr
  have q0 : ((w.alloc (.cells #[.int .i64 a, .slice aa rs.length ca] 26)).alloc (.cells #[.int .i64 0, .int .i64 0] 38)).cell? ⟨w.heap.size, 0, none⟩ = some (.int .i64 a) := by simp
  have q1 : ((w.alloc (.cells #[.int .i64 a, .slice aa rs.length ca] 26)).alloc (.cells #[.int .i64 0, .int .i64 0] 38)).cell? ⟨w.heap.size, 1, none⟩ = some (.slice aa rs.length ca) := by simp
  have hW := ((Below.refl w.heap.size w).alloc (Nat.le_refl _) (.cells #[.int .i64 a, .slice aa rs.length ca] 26)).alloc (by simp) (.cells #[.int .i64 0, .int .i64 0] 38)
  have HR1 := Lib.hid (HR.out.below hW hB)
  have hz : w.heap.size + 2 ≤ ((w.alloc (.cells #[.int .i64 a, .slice aa rs.length ca] 26)).alloc (.cells #[.int .i64 0, .int .i64 0] 38)).heap.size := by simp
  have hbx : BoxAt ((w.alloc (.cells #[.int .i64 a, .slice aa rs.length ca] 26)).alloc (.cells #[.int .i64 0, .int .i64 0] 38)) (w.heap.size + 1) 38 #[.int .i64 0, .int .i64 0] := by
    have := BoxAt.new (w.alloc (.cells #[.int .i64 a, .slice aa rs.length ca] 26)) 38 #[.int .i64 0, .int .i64 0]; simpa using this
  go_enter Try.func44, Try.ntmps44
  go_wp2_with fail
  generalize ((w.alloc (.cells #[.int .i64 a, .slice aa rs.length ca] 26)).alloc (.cells #[.int .i64 0, .int .i64 0] 38)) = W at HR1 hW q0 q1 hz hbx ⊢
  refine (spec_isCtx a _ rs B W HR1.out (by omega)).mono ?_
  rintro e w1 ⟨rfl, b1⟩
  have hz1 := b1.size
  have k0 : w1.cell? ⟨w.heap.size, 0, none⟩ = some (.int .i64 a) := (b1.cell (p := ⟨w.heap.size, 0, none⟩) (by show w.heap.size < _; omega)).trans q0
  have k1 : w1.cell? ⟨w.heap.size, 1, none⟩ = some (.slice aa rs.length ca) := (b1.cell (p := ⟨w.heap.size, 1, none⟩) (by show w.heap.size < _; omega)).trans q1
  have HR2 := Lib.hid (HR1.out.below b1 (by omega))
  have B1 := Lib.hid (hW.trans (b1.mono (by omega)))
  have HBX1 := Lib.hid (hbx.below b1 (by omega))
  have e0 : w1.cell? ⟨w.heap.size + 1, 0, none⟩ = some (.int .i64 0) := HBX1.out.cell 0
  have e1 : w1.cell? ⟨w.heap.size + 1, 1, none⟩ = some (.int .i64 0) := HBX1.out.cell 1
  have f0 : w1.frozen? ⟨w.heap.size + 1, 0, none⟩ = false := HBX1.out.free 0
  have f1 : w1.frozen? ⟨w.heap.size + 1, 1, none⟩ = false := HBX1.out.free 1
  have hzw : w.heap.size + 2 ≤ w1.heap.size := by omega
  clear b1 q0 q1 hbx hW HR1 hz
  cases hi : isCtx a rs with
  | false =>
    have HX : Hid (attrConcept a rs s = none) := Lib.hid (by simp [attrConcept, hi])
    clear hi
    go_wp2_with fail
    refine bodyPost_ret (v := .tuple #[.agg #[.int .i64 0, .int .i64 0], .bool false]) (by simp [results, Try.results44, go_sem, e0, e1]) rfl ⟨by rw [HX.out]; rfl, (B1.out.setCell (p := ⟨w.heap.size + 1, 0, none⟩) (by show w.heap.size ≤ w.heap.size + 1; omega) _).setCell (p := ⟨w.heap.size + 1, 1, none⟩) (by show w.heap.size ≤ w.heap.size + 1; omega) _⟩
  | true =>
    obtain ⟨ha0, ha6, hl8, -⟩ := isCtx_parts hi
    by_cases hs : 0 ≤ s ∧ s ≤ a - 1
    · have HX : Hid (attrConcept a rs s = some (conceptOf a rs ((2 ^ s.toNat : Nat)))) := Lib.hid (by rw [attrConcept, if_pos ⟨hi, hs⟩])
      have hHI := Lib.hid hi
      have hk8 : 2 ^ s.toNat < 256 := Nat.lt_of_lt_of_le (Nat.pow_lt_pow_right (by omega : 1 < 2) (show s.toNat < 8 by have := isCtx_parts hi; omega)) (by decide)
      have hw64 : wrap64 (2 ^ s.toNat) = ((2 ^ s.toNat : Nat) : Int) := by
        have e : ((2 : Int) ^ s.toNat) = ((2 ^ s.toNat : Nat) : Int) := by simp
        rw [e]
        generalize 2 ^ s.toNat = z at hk8
        exact IntWalk.wrap64_in _ ⟨by omega, by omega⟩
      have H1 : Hid (∀ v w, Reads w B v (ints rs) → B ≤ w.heap.size → Calls Try.prog 101 #[ctx a v, .int .i64 (wrap64 (2 ^ s.toNat))] w fun e w' => e = .returned (conc (conceptOf a rs ((2 ^ s.toNat : Nat) : Int))) ∧ Below w.heap.size w w') := Lib.hid (fun v w h hB => by rw [hw64]; exact l5Concept a v rs ((2 ^ s.toNat : Nat) : Int) B w h hB hi (by have := hk8; generalize 2 ^ s.toNat = z at this ⊢; omega))
      clear hw64 hk8
      obtain ⟨p, hp⟩ : ∃ p, conceptOf a rs ((2 ^ s.toNat : Nat)) = p := ⟨_, rfl⟩
      rw [hp] at HX H1
      have hguard := decide_eq_true hs
      clear hp hi
      go_wp2_with fail
      refine (l1In _ _ _ _).mono ?_
      rintro e w' ⟨rfl, hw⟩
      subst w'
      rw [hguard]
      go_wp2_with fail
      refine (H1.out _ w1 HR2.out (by omega)).mono ?_
      rintro e w2 ⟨rfl, b2⟩
      have HBX2 := Lib.hid (HBX1.out.below b2 (by omega))
      have B2 := Lib.hid (B1.out.trans (b2.mono (by omega)))
      clear b2 e0 e1 f0 f1
      have e0 : w2.cell? ⟨w.heap.size + 1, 0, none⟩ = some (.int .i64 0) := HBX2.out.cell 0
      have e1 : w2.cell? ⟨w.heap.size + 1, 1, none⟩ = some (.int .i64 0) := HBX2.out.cell 1
      have f0 : w2.frozen? ⟨w.heap.size + 1, 0, none⟩ = false := HBX2.out.free 0
      have f1 : w2.frozen? ⟨w.heap.size + 1, 1, none⟩ = false := HBX2.out.free 1
      go_wp2_with fail
      refine bodyPost_ret (v := .tuple #[.agg #[.int .i64 p.1, .int .i64 p.2], .bool true]) (by simp [results, Try.results44, go_sem, e0, e1]) rfl ⟨by rw [HX.out]; rfl, (B2.out.setCell (p := ⟨w.heap.size + 1, 0, none⟩) (by show w.heap.size ≤ w.heap.size + 1; omega) _).setCell (p := ⟨w.heap.size + 1, 1, none⟩) (by show w.heap.size ≤ w.heap.size + 1; omega) _⟩
    · have HX : Hid (attrConcept a rs s = none) := Lib.hid (by rw [attrConcept, if_neg (fun h => hs h.2)])
      have hguard := decide_eq_false hs
      clear hi hs
      go_wp2_with fail
      refine (l1In _ _ _ _).mono ?_
      rintro e w' ⟨rfl, hw⟩
      subst w'
      rw [hguard]
      go_wp2_with fail
      refine bodyPost_ret (v := .tuple #[.agg #[.int .i64 0, .int .i64 0], .bool false]) (by simp [results, Try.results44, go_sem, e0, e1]) rfl ⟨by rw [HX.out]; rfl, (B1.out.setCell (p := ⟨w.heap.size + 1, 0, none⟩) (by show w.heap.size ≤ w.heap.size + 1; omega) _).setCell (p := ⟨w.heap.size + 1, 1, none⟩) (by show w.heap.size ≤ w.heap.size + 1; omega) _⟩
set_option maxHeartbeats 1600000 in
theorem spec_objConcept (a : Int) (v : Value) (rs : List Int) (s : Int) (B : Nat) (w : World) (hr : Reads w B v (ints rs)) (hB : B ≤ w.heap.size) :
    Calls Try.prog 42 #[ctx a v, .int .i64 s] w fun e w' => e = .returned (optC (objConcept a rs s)) ∧ Below w.heap.size w w' := by
  obtain ⟨aa, ca, rfl⟩ := reads_form hr
  have HR := Lib.hid hr
  clear hr
  have q0 : ((w.alloc (.cells #[.int .i64 a, .slice aa rs.length ca] 26)).alloc (.cells #[.int .i64 0, .int .i64 0] 38)).cell? ⟨w.heap.size, 0, none⟩ = some (.int .i64 a) := by simp
  have q1 : ((w.alloc (.cells #[.int .i64 a, .slice aa rs.length ca] 26)).alloc (.cells #[.int .i64 0, .int .i64 0] 38)).cell? ⟨w.heap.size, 1, none⟩ = some (.slice aa rs.length ca) := by simp
  have hW := ((Below.refl w.heap.size w).alloc (Nat.le_refl _) (.cells #[.int .i64 a, .slice aa rs.length ca] 26)).alloc (by simp) (.cells #[.int .i64 0, .int .i64 0] 38)
  have HR1 := Lib.hid (HR.out.below hW hB)
  have hz : w.heap.size + 2 ≤ ((w.alloc (.cells #[.int .i64 a, .slice aa rs.length ca] 26)).alloc (.cells #[.int .i64 0, .int .i64 0] 38)).heap.size := by simp
  have hbx : BoxAt ((w.alloc (.cells #[.int .i64 a, .slice aa rs.length ca] 26)).alloc (.cells #[.int .i64 0, .int .i64 0] 38)) (w.heap.size + 1) 38 #[.int .i64 0, .int .i64 0] := by
    have := BoxAt.new (w.alloc (.cells #[.int .i64 a, .slice aa rs.length ca] 26)) 38 #[.int .i64 0, .int .i64 0]; simpa using this
  go_enter Try.func42, Try.ntmps42
  go_wp2_with fail
  generalize ((w.alloc (.cells #[.int .i64 a, .slice aa rs.length ca] 26)).alloc (.cells #[.int .i64 0, .int .i64 0] 38)) = W at HR1 hW q0 q1 hz hbx ⊢
  refine (spec_isCtx a _ rs B W HR1.out (by omega)).mono ?_
  rintro e w1 ⟨rfl, b1⟩
  have hz1 := b1.size
  have k0 : w1.cell? ⟨w.heap.size, 0, none⟩ = some (.int .i64 a) := (b1.cell (p := ⟨w.heap.size, 0, none⟩) (by show w.heap.size < _; omega)).trans q0
  have k1 : w1.cell? ⟨w.heap.size, 1, none⟩ = some (.slice aa rs.length ca) := (b1.cell (p := ⟨w.heap.size, 1, none⟩) (by show w.heap.size < _; omega)).trans q1
  have HR2 := Lib.hid (HR1.out.below b1 (by omega))
  have B1 := Lib.hid (hW.trans (b1.mono (by omega)))
  have HBX1 := Lib.hid (hbx.below b1 (by omega))
  have e0 : w1.cell? ⟨w.heap.size + 1, 0, none⟩ = some (.int .i64 0) := HBX1.out.cell 0
  have e1 : w1.cell? ⟨w.heap.size + 1, 1, none⟩ = some (.int .i64 0) := HBX1.out.cell 1
  have f0 : w1.frozen? ⟨w.heap.size + 1, 0, none⟩ = false := HBX1.out.free 0
  have f1 : w1.frozen? ⟨w.heap.size + 1, 1, none⟩ = false := HBX1.out.free 1
  have hzw : w.heap.size + 2 ≤ w1.heap.size := by omega
  clear b1 q0 q1 hbx hW HR1 hz
  cases hi : isCtx a rs with
  | false =>
    have HX : Hid (objConcept a rs s = none) := Lib.hid (by simp [objConcept, hi])
    clear hi
    go_wp2_with fail
    refine bodyPost_ret (v := .tuple #[.agg #[.int .i64 0, .int .i64 0], .bool false]) (by simp [results, Try.results42, go_sem, e0, e1]) rfl ⟨by rw [HX.out]; rfl, (B1.out.setCell (p := ⟨w.heap.size + 1, 0, none⟩) (by show w.heap.size ≤ w.heap.size + 1; omega) _).setCell (p := ⟨w.heap.size + 1, 1, none⟩) (by show w.heap.size ≤ w.heap.size + 1; omega) _⟩
  | true =>
    obtain ⟨ha0, ha6, hl8, -⟩ := isCtx_parts hi
    by_cases hs : 0 ≤ s ∧ s ≤ (rs.length : Int) - 1
    · have HX : Hid (objConcept a rs s = some (conceptOf a rs (rs.getD s.toNat 0))) := Lib.hid (by rw [objConcept, if_pos ⟨hi, hs⟩])
      have hHI := Lib.hid hi
      obtain ⟨k, rfl⟩ := Int.eq_ofNat_of_zero_le hs.1
      have hkl : k < rs.length := by omega
      rw [Int.toNat_natCast] at HX
      have hrow := row_le hi k
      have H1 := Lib.hid (fun v w h hB => l5Concept a v rs (rs.getD k 0) B w h hB hi hrow)
      obtain ⟨_, _, _, hv, hcells⟩ := HR2.out
      injection hv with e1' e2' e3'
      subst e1' e3'
      clear e2'
      obtain ⟨bk, o, rfl, hb, gca⟩ := hcells (by rintro h; rw [show rs = [] from by simpa [ints] using h] at hkl; simp at hkl)
      have kr : w1.cell? ⟨bk, o + k, none⟩ = some (.int .i64 (rs.getD k 0)) := by rw [gca k (by simpa [ints] using hkl), ints_get rs k hkl]
      clear gca hcells
      generalize hgy : rs.getD k 0 = y at kr H1 HX hrow
      clear hgy
      obtain ⟨p, hp⟩ : ∃ p, conceptOf a rs y = p := ⟨_, rfl⟩
      rw [hp] at HX H1
      have hguard : decide (0 ≤ (k : Int) ∧ (k : Int) ≤ (rs.length : Int) - 1) = true := decide_eq_true hs
      clear hp hi
      go_wp2_with fail
      refine (l1In _ _ _ _).mono ?_
      rintro e w' ⟨rfl, hw⟩
      subst w'
      rw [hguard]
      go_wp2_with fail
      go_region_held3 (fun wx => wx.cell? ⟨w.heap.size, 0, none⟩ = some (.int .i64 a) ∧ wx.cell? ⟨w.heap.size, 1, none⟩ = some (.slice (some ⟨bk, o, none⟩) rs.length ca) ∧ wx.cell? ⟨bk, o + k, none⟩ = some (.int .i64 y))
        (first | exact ⟨k0, k1, kr⟩ | exact keepk (w := w1.drew) (B := w1.heap.size) b2 ⟨k0, k1, kr⟩ (by show w.heap.size < _; omega) (by show w.heap.size < _; omega) (by show bk < _; omega) | exact keepk (w := w1.drew) (B := w.heap.size + 1) (((b2.mono (by show w.heap.size + 1 ≤ w1.heap.size; omega)).setCell (p := ⟨w.heap.size + 1, 0, none⟩) (Nat.le_refl _) _).setCell (p := ⟨w.heap.size + 1, 1, none⟩) (Nat.le_refl _) _) ⟨k0, k1, kr⟩ (by show w.heap.size < _; omega) (by show w.heap.size < _; omega) (by show bk < _; omega))
        (first | (go_at_call 101; refine (H1.out _ w1.drew (HR2.out.below (Below.refl w1.heap.size w1).drew (by omega)) (by show B ≤ w1.heap.size; omega)).mono ?_; rintro e w2 ⟨rfl, b2⟩; have hb2 := (show BoxAt w1.drew _ _ _ from HBX1.out).below b2 (by show w.heap.size + 1 < w1.heap.size; omega); have e0b : w2.cell? ⟨w.heap.size + 1, 0, none⟩ = some (.int .i64 0) := hb2.cell 0; have e1b : w2.cell? ⟨w.heap.size + 1, 1, none⟩ = some (.int .i64 0) := hb2.cell 1; have f0b : w2.frozen? ⟨w.heap.size + 1, 0, none⟩ = false := hb2.free 0; have f1b : w2.frozen? ⟨w.heap.size + 1, 1, none⟩ = false := hb2.free 1) | fail)
      have HBX2 := Lib.hid hb2
      have B2 := Lib.hid (B1.out.trans (((Below.refl w1.heap.size w1).drew.trans b2).mono (by omega)))
      clear b2 hb2 e0 e1 f0 f1
      have e0 : w2.cell? ⟨w.heap.size + 1, 0, none⟩ = some (.int .i64 0) := HBX2.out.cell 0
      have e1 : w2.cell? ⟨w.heap.size + 1, 1, none⟩ = some (.int .i64 0) := HBX2.out.cell 1
      have f0 : w2.frozen? ⟨w.heap.size + 1, 0, none⟩ = false := HBX2.out.free 0
      have f1 : w2.frozen? ⟨w.heap.size + 1, 1, none⟩ = false := HBX2.out.free 1
      go_wp2_with fail
      refine bodyPost_ret (v := .tuple #[.agg #[.int .i64 p.1, .int .i64 p.2], .bool true]) (by simp [results, Try.results42, go_sem, e0, e1]) rfl ⟨by rw [HX.out]; rfl, (B2.out.setCell (p := ⟨w.heap.size + 1, 0, none⟩) (by show w.heap.size ≤ w.heap.size + 1; omega) _).setCell (p := ⟨w.heap.size + 1, 1, none⟩) (by show w.heap.size ≤ w.heap.size + 1; omega) _⟩
    · have HX : Hid (objConcept a rs s = none) := Lib.hid (by rw [objConcept, if_neg (fun h => hs h.2)])
      have hguard := decide_eq_false hs
      clear hi hs
      go_wp2_with fail
      refine (l1In _ _ _ _).mono ?_
      rintro e w' ⟨rfl, hw⟩
      subst w'
      rw [hguard]
      go_wp2_with fail
      refine bodyPost_ret (v := .tuple #[.agg #[.int .i64 0, .int .i64 0], .bool false]) (by simp [results, Try.results42, go_sem, e0, e1]) rfl ⟨by rw [HX.out]; rfl, (B1.out.setCell (p := ⟨w.heap.size + 1, 0, none⟩) (by show w.heap.size ≤ w.heap.size + 1; omega) _).setCell (p := ⟨w.heap.size + 1, 1, none⟩) (by show w.heap.size ≤ w.heap.size + 1; omega) _⟩
end Go.Proofs.Ytdkgmjbhkifcbaa.Ctx
