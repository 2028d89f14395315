/-
  The program's readers of numerals (mustParse, ParseNumber, ParseInt): what they return for every string of at most 2 million bytes. Condition: the listed table and the two listed errors of the standard library are what its text lays.
-/
import Derived.Test.YtkdnjebjbadloaaGreatDoorItoa
import Derived.Test.YtkdnjebjbadloaaGreatDoorNumPure
import Derived.Test.YtkdnjebjbadloaaGreatDoorShelfAtoi
import Derived.WalkKit
import Derived.Outline
import Derived.Recover
import Derived.Defers
import Derived.WalkSmall
import Derived.WalkLawsBesides
import Derived.BigQuiet
import Derived.Deep.QuietTactic
import Derived.Lib.Hide
import Derived.Lib.AtoiErrMem
import Derived.Below
namespace Go.Proofs.YtkdnjebjbadloaaGreatDoor.NumParse
open Go Go.RowKit
set_option maxRecDepth 100000

theorem gSyn : Tryz.prog.globalNamed "strconv.ErrSyntax" = some 2 := by kernel_rfl
theorem gRng : Tryz.prog.globalNamed "strconv.ErrRange" = some 3 := by kernel_rfl

/-- The table and the two errors are there. -/
structure Std (w : World) : Prop where
  pow : Itoa.Pow w
  syn : ∃ tp p, w.var? Tryz.prog "strconv.ErrSyntax" = some #[.iface tp p]
  rng : ∃ tp p, w.var? Tryz.prog "strconv.ErrRange" = some #[.iface tp p]

theorem var_below {w w' : World} {B g : Nat} {n : String} (hb : Below B w w') (hg : Tryz.prog.globalNamed n = some g) (hB : g < B) : w'.var? Tryz.prog n = w.var? Tryz.prog n := by
  unfold World.var?
  rw [hg]
  simp only [Option.bind_some]
  rw [hb.block _ hB]
theorem var_lt {w : World} {g : Nat} {n : String} {c : Array Value} (hg : Tryz.prog.globalNamed n = some g) (h : w.var? Tryz.prog n = some c) : g < w.heap.size := by
  unfold World.var? at h
  rw [hg] at h
  simp only [Option.bind_some] at h
  rcases Nat.lt_or_ge g w.heap.size with hlt | hge
  · exact hlt
  · rw [Array.getElem?_eq_none hge] at h
    cases h

theorem Std.below {w w' : World} (h : Std w) (hb : Below w.heap.size w w') : Std w' := by
  obtain ⟨hp, ⟨t1, p1, h1⟩, ⟨t2, p2, h2⟩⟩ := h
  refine ⟨hp.below hb hp.2, ⟨t1, p1, ?_⟩, ⟨t2, p2, ?_⟩⟩
  · rw [var_below hb gSyn (var_lt gSyn h1)]; exact h1
  · rw [var_below hb gRng (var_lt gRng h2)]; exact h2

/-- strconv.Atoi at a numeral of an int. -/
theorem atoi_ok (l : List UInt8) (hl : l.length ≤ 2000000) (v : Int) (h : Lib.atoiAll l = .ok v) (w : World) :
    Calls Tryz.prog 79 #[.string ⟨l.toArray⟩] w fun e w' => e = .returned (.tuple #[.int .i64 v, .nilIface]) ∧ Below w.heap.size w w' := by
  refine (Any.strconv_Atoi_ok Tryz.laysC172 ⟨l.toArray⟩ (by simp [ByteArray.size]; omega) v (by simpa using h) w).mono ?_
  rintro e w' ⟨rfl, hw⟩
  refine ⟨rfl, ?_⟩
  rcases hw with rfl | ⟨t, rfl⟩
  · exact Below.refl _ _
  · exact Lib.bytesWorld_below _ _ _

/-- strconv.Atoi at any other string. -/
theorem atoi_bad (l : List UInt8) (hl : l.length ≤ 2000000) (h : ∀ v, Lib.atoiAll l ≠ .ok v) (w : World) (hs : Std w) :
    Calls Tryz.prog 79 #[.string ⟨l.toArray⟩] w fun e w' => (∃ (n : Int) (a : Addr), e = .returned (.tuple #[.int .i64 n, .iface 130 (.pointer (some a))])) ∧ Below w.heap.size w w' := by
  obtain ⟨tp, p, hsyn⟩ := hs.syn
  obtain ⟨tp2, p2, hrng⟩ := hs.rng
  have hsz : (⟨l.toArray⟩ : ByteArray).size ≤ 281474976710656 := by simp [ByteArray.size]; omega
  cases he : Lib.atoiAll l with
  | ok v => exact absurd he (h v)
  | range =>
    refine (Any.strconv_Atoi_range_var Tryz.laysC172 ⟨l.toArray⟩ hsz (by simpa using he) tp2 p2 w hrng).mono ?_
    rintro e w' ⟨N, rfl, _, _, hb⟩
    exact ⟨⟨_, _, rfl⟩, hb⟩
  | _ =>
    refine (Any.strconv_Atoi_syntax_var Tryz.laysC172 ⟨l.toArray⟩ hsz (by simpa using he) tp p w hsyn).mono ?_
    rintro e w' ⟨N, rfl, _, _, hb⟩
    exact ⟨⟨_, _, rfl⟩, hb⟩

def Malformed : Value := .iface 9 (.string ⟨#[109, 97, 108, 102, 111, 114, 109, 101, 100, 32, 105, 110, 116, 101, 103, 101, 114]⟩)

def MustPost (r : Option Int) (w : World) (e : Ending) (w' : World) : Prop :=
  (∀ v, r = some v → e = .returned (.int .i64 v)) ∧ (r = none → e = .panicked [{ v := Malformed, recovered := false }]) ∧ Below w.heap.size w w'

theorem MustPost.died {w w' : World} (h : Below w.heap.size w w') : MustPost none w (.panicked [{ v := Malformed, recovered := false }]) w' :=
  ⟨(nofun), fun _ => rfl, h⟩
theorem MustPost.back {w w' : World} (v : Int) (h : Below w.heap.size w w') : MustPost (some v) w (.returned (.int .i64 v)) w' :=
  ⟨fun u hu => by cases hu; rfl, (nofun), h⟩

set_option maxRecDepth 100000 in
set_option maxHeartbeats 400000 in
theorem must_bad (l : List UInt8) (hl : l.length ≤ 2000000) (h : ∀ v, Lib.atoiAll l ≠ .ok v) (lo hi : Int) (w : World) (hs : Std w) :
    Calls Tryz.prog 62 #[.string ⟨l.toArray⟩, .int .i64 lo, .int .i64 hi] w (MustPost none w) := by
  have Hs := Lib.hid hs
  clear hs
  go_enter Tryz.func62, Tryz.ntmps62
  go_wp2_with fail
  refine (atoi_bad l hl h _ Hs.out).mono ?_
  rintro e w1 ⟨⟨n, a, rfl⟩, hb1⟩
  go_wp2_with fail
  exact ⟨rfl, MustPost.died hb1⟩

/-- What mustParse returns where strconv.Atoi finds v. -/
def pick (l : List UInt8) (lo hi v : Int) : Option Int := if Lib.itoa v = l ∧ lo ≤ v ∧ v ≤ hi then some v else none

set_option maxRecDepth 100000 in
set_option maxHeartbeats 400000 in
theorem must_ok (l : List UInt8) (hl : l.length ≤ 2000000) (v : Int) (h : Lib.atoiAll l = .ok v) (lo hi : Int) (w : World) (hs : Std w) :
    Calls Tryz.prog 62 #[.string ⟨l.toArray⟩, .int .i64 lo, .int .i64 hi] w (MustPost (pick l lo hi v) w) := by
  have Hs := Lib.hid hs
  have hbd := Lib.atoiAll_bounds h
  have H := Lib.hid h
  have Hb := Lib.hid hbd
  clear hs h hbd
  by_cases h1 : Lib.itoa v = l
  · have he2 : (Lib.itoa v == l) = true := by simpa using h1
    by_cases h2 : v < lo
    · have Hp : Hid (pick l lo hi v = none) := Lib.hid (by rw [pick, if_neg (by omega)])
      have hd1 : decide (v < lo) = true := by simpa using h2
      clear h1
      go_enter Tryz.func62, Tryz.ntmps62
      go_wp2_with fail
      refine (atoi_ok l hl v H.out _).mono ?_
      rintro e w1 ⟨rfl, hb1⟩
      go_wp2_with fail
      refine (Itoa.impl_format v Hb.out.1 Hb.out.2 _ (Hs.out.pow.below hb1 Hs.out.pow.2)).mono ?_
      rintro e w2 ⟨rfl, hb2⟩
      go_wp2_with fail
      exact ⟨rfl, by rw [Hp.out]; exact MustPost.died (hb1.trans (hb2.mono hb1.size))⟩
    · have hd1 : decide (v < lo) = false := by simp; omega
      by_cases h3 : hi < v
      · have Hp : Hid (pick l lo hi v = none) := Lib.hid (by rw [pick, if_neg (by omega)])
        have hd2 : decide (hi < v) = true := by simpa using h3
        clear h1
        go_enter Tryz.func62, Tryz.ntmps62
        go_wp2_with fail
        refine (atoi_ok l hl v H.out _).mono ?_
        rintro e w1 ⟨rfl, hb1⟩
        go_wp2_with fail
        refine (Itoa.impl_format v Hb.out.1 Hb.out.2 _ (Hs.out.pow.below hb1 Hs.out.pow.2)).mono ?_
        rintro e w2 ⟨rfl, hb2⟩
        go_wp2_with fail
        exact ⟨rfl, by rw [Hp.out]; exact MustPost.died (hb1.trans (hb2.mono hb1.size))⟩
      · have Hp : Hid (pick l lo hi v = some v) := Lib.hid (by rw [pick, if_pos ⟨h1, by omega, by omega⟩])
        have hd2 : decide (hi < v) = false := by simp; omega
        clear h1
        go_enter Tryz.func62, Tryz.ntmps62
        go_wp2_with fail
        refine (atoi_ok l hl v H.out _).mono ?_
        rintro e w1 ⟨rfl, hb1⟩
        go_wp2_with fail
        refine (Itoa.impl_format v Hb.out.1 Hb.out.2 _ (Hs.out.pow.below hb1 Hs.out.pow.2)).mono ?_
        rintro e w2 ⟨rfl, hb2⟩
        go_wp2_with fail
        go_ret
        rw [Hp.out]
        exact MustPost.back v (hb1.trans (hb2.mono hb1.size))
  · have he2 : (Lib.itoa v == l) = false := by simpa using h1
    have Hp : Hid (pick l lo hi v = none) := Lib.hid (by rw [pick, if_neg (fun h => h1 h.1)])
    clear h1
    go_enter Tryz.func62, Tryz.ntmps62
    go_wp2_with fail
    refine (atoi_ok l hl v H.out _).mono ?_
    rintro e w1 ⟨rfl, hb1⟩
    go_wp2_with fail
    refine (Itoa.impl_format v Hb.out.1 Hb.out.2 _ (Hs.out.pow.below hb1 Hs.out.pow.2)).mono ?_
    rintro e w2 ⟨rfl, hb2⟩
    go_wp2_with fail
    exact ⟨rfl, by rw [Hp.out]; exact MustPost.died (hb1.trans (hb2.mono hb1.size))⟩

/-- What mustParse computes. -/
noncomputable def must (l : List UInt8) (lo hi : Int) : Option Int := match Lib.atoiAll l with
  | .ok v => pick l lo hi v
  | _ => none
theorem must_any (l : List UInt8) (hl : l.length ≤ 2000000) (lo hi : Int) (w : World) (hs : Std w) :
    Calls Tryz.prog 62 #[.string ⟨l.toArray⟩, .int .i64 lo, .int .i64 hi] w (MustPost (must l lo hi) w) := by
  by_cases h : ∃ v, Lib.atoiAll l = .ok v
  · obtain ⟨v, h⟩ := h
    have : must l lo hi = pick l lo hi v := by rw [must, h]
    rw [this]
    exact must_ok l hl v h lo hi w hs
  · have h' : ∀ v, Lib.atoiAll l ≠ .ok v := fun v e => h ⟨v, e⟩
    have : must l lo hi = none := by
      rw [must]
      split
      · rename_i v e; exact absurd e (h' v)
      · rfl
    rw [this]
    exact must_bad l hl h' lo hi w hs
theorem must_iff (l : List UInt8) (lo hi : Int) (h0 : -100000000000000000 < lo) (h1 : hi < 100000000000000000) (v : Int) : must l lo hi = some v ↔ Lib.itoa v = l ∧ lo ≤ v ∧ v ≤ hi := by
  constructor
  · intro h
    unfold must at h
    split at h
    · unfold pick at h
      split at h
      · rename_i hp; cases h; exact hp
      · cases h
    · cases h
  · rintro ⟨rfl, h2, h3⟩
    have ha := NumPure.atoiAll_itoa v (by omega)
    unfold must
    rw [ha]
    exact if_pos ⟨rfl, h2, h3⟩

/-- What the call's own two variables hold behind a callee. -/
theorem own_two {w w1 : World} {u v : Value} {t t' : TypeId} (hb : Below ((w.alloc (.cells #[u] t)).alloc (.cells #[v] t')).heap.size ((w.alloc (.cells #[u] t)).alloc (.cells #[v] t')) w1) :
    w1.cell? ⟨w.heap.size, 0, none⟩ = some u ∧ w1.frozen? ⟨w.heap.size, 0, none⟩ = false ∧ w1.cell? ⟨w.heap.size + 1, 0, none⟩ = some v ∧ w1.frozen? ⟨w.heap.size + 1, 0, none⟩ = false ∧ w.heap.size + 2 ≤ w1.heap.size := by
  refine ⟨?_, ?_, ?_, ?_, by simpa using hb.size⟩
  · rw [hb.cell (by simp; omega)]; simp [go_sem]
  · rw [hb.frozen (by simp; omega)]; simp [go_sem]
  · rw [hb.cell (by simp)]; simp [go_sem]
  · rw [hb.frozen (by simp)]; simp [go_sem]
theorem catch_num (p q : Addr) (x : Int) (y : Bool) (u : TypeId) (pv : Value) (older : List PanicEntry) (w : World) (hc : w.cell? p = some (.int .i64 x)) (hz : w.frozen? p = false) (hc2 : w.cell? q = some (.bool y)) (hz2 : w.frozen? q = false) (hpq : p.block ≠ q.block) :
    CallsD Tryz.prog 61 #[.pointer (some p), .pointer (some q)] (.panicking ({ v := .iface u pv, recovered := false } :: older)) w fun e u' w' =>
      e = .returned (.tuple #[]) ∧ u' = .panicking ({ v := .iface u pv, recovered := true } :: older) ∧ w' = (w.setCell p (.int .i64 0)).setCell q (.bool false) := by
  refine callsD_of_wpS Tryz.func61 rfl fun c₀ cs hu => ?_
  apply wpS_seq
  apply wpS_region
  simp [wpOpsS, go_sem, recoverD, hu, Tryz.ntmps61, Exit.thenS]
  refine wpS_cond (t := true) (by simp [Act.eval, Array.replicate]) ?_
  simp only [if_true]
  apply wpS_region
  have hq : (w.setCell p (.int .i64 0)).cell? q = some (.bool y) := by rw [World.cell?_setCell_other _ _ _ _ (by intro e; exact hpq (by rw [e]))]; exact hc2
  simp [wpOpsS, go_sem, hc, hz, hz2, hq, bodyPostS, results, Tryz.results61]

theorem idle_num (p q : Addr) (w : World) :
    CallsD Tryz.prog 61 #[.pointer (some p), .pointer (some q)] .returning w fun e u' w' => e = .returned (.tuple #[]) ∧ u' = .returning ∧ w' = w := by
  refine callsD_of_wpS Tryz.func61 rfl fun c₀ cs hu => ?_
  apply wpS_seq
  apply wpS_region
  simp [wpOpsS, go_sem, recoverD, hu, Tryz.ntmps61, Exit.thenS]
  refine wpS_cond (t := false) (by simp [Act.eval, Array.replicate]) ?_
  simp only [Bool.false_eq_true, if_false]
  refine wpS_of_wp (wp_skip ?_)
  cases c₀
  simp_all [bodyPostS, results, Tryz.results61]

/-- What ParseNumber of the program returns. -/
def Post_num (l : List UInt8) (w : World) (e : Ending) (w' : World) : Prop :=
  e = .returned (.tuple #[.int .i64 ((must l (0) 999999).getD 0), .bool (must l (0) 999999).isSome]) ∧ Below w.heap.size w w'

set_option maxRecDepth 100000 in
set_option maxHeartbeats 400000 in
theorem impl_num (l : List UInt8) (hl : l.length ≤ 2000000) (w : World) (hs : Std w) :
    Calls Tryz.prog 37 #[.string ⟨l.toArray⟩] w (Post_num l w) := by
  have Hs := Lib.hid hs
  clear hs
  have hmf : ∀ (fn : Fn) (first cap : Array Value) (w : World), (Instr.makeFunc fn first cap).run Tryz.prog w = .ok (.func fn first cap) w := fun _ _ _ _ => rfl
  go_enter_defers Tryz.func37, Tryz.ntmps37
  go_wp2_with fail
  refine (must_any l hl (0) 999999 _ (Hs.out.below (((Below.refl _ _).alloc (Nat.le_refl _) _).alloc (by simp) _))).mono ?_
  rintro e w1 hm
  match hr : must l (0) 999999, hm with
  | none, ⟨_, hm2, hb⟩ =>
    obtain rfl := hm2 rfl
    have Hr := Lib.hid hr
    obtain ⟨c1, f1, c2, f2, hz⟩ := own_two hb
    clear hr hm2 hm
    go_wp2_with fail
    unfold Malformed
    refine leaves_cons (f := 61) (args := #[.pointer (some ⟨w.heap.size, 0, none⟩), .pointer (some ⟨w.heap.size + 1, 0, none⟩)]) (by simp) (by simp [go_sem]) ?_
    refine (catch_num _ _ 0 false _ _ [] _ c1 f1 c2 f2 (by simp)).mono ?_
    rintro e u' w'' ⟨rfl, rfl, rfl⟩
    have s1 := World.cell?_setCell_same w1 ⟨w.heap.size, 0, none⟩ (.int .i64 0) c1
    have s2 : ((w1.setCell ⟨w.heap.size, 0, none⟩ (.int .i64 0)).setCell ⟨w.heap.size + 1, 0, none⟩ (.bool false)).cell? ⟨w.heap.size + 1, 0, none⟩ = some (.bool false) :=
      World.cell?_setCell_same _ _ _ (by rw [World.cell?_setCell_other _ _ _ _ (by simp)]; exact c2)
    simp [Leaves, settle, results, Tryz.results37, go_sem, s1, s2]
    refine ⟨by rw [Hr.out]; rfl, ?_⟩
    exact ((Below.refl _ _).alloc (Nat.le_refl _) _).alloc (by simp) _ |>.trans (hb.mono (by simp; omega)) |>.setCell (by simp) _ |>.setCell (by simp) _
  | some v, ⟨hm1, _, hb⟩ =>
    obtain rfl := hm1 v rfl
    have Hr := Lib.hid hr
    obtain ⟨c1, f1, c2, f2, hz⟩ := own_two hb
    clear hr hm1 hm
    go_wp2_with fail
    refine leaves_cons (f := 61) (args := #[.pointer (some ⟨w.heap.size, 0, none⟩), .pointer (some ⟨w.heap.size + 1, 0, none⟩)]) (by simp) (by simp [go_sem]) ?_
    refine (idle_num _ _ _).mono ?_
    rintro e u' w'' ⟨rfl, rfl, rfl⟩
    have s1 := World.cell?_setCell_same w1 ⟨w.heap.size, 0, none⟩ (.int .i64 v) c1
    have s2 : ((w1.setCell ⟨w.heap.size, 0, none⟩ (.int .i64 v)).setCell ⟨w.heap.size + 1, 0, none⟩ (.bool true)).cell? ⟨w.heap.size + 1, 0, none⟩ = some (.bool true) :=
      World.cell?_setCell_same _ _ _ (by rw [World.cell?_setCell_other _ _ _ _ (by simp)]; exact c2)
    simp [Leaves, settle, results, Tryz.results37, go_sem, s1, s2]
    refine ⟨by rw [Hr.out]; rfl, ?_⟩
    exact ((Below.refl _ _).alloc (Nat.le_refl _) _).alloc (by simp) _ |>.trans (hb.mono (by simp; omega)) |>.setCell (by simp) _ |>.setCell (by simp) _

/-- What ParseInt of the program returns. -/
def Post_int (l : List UInt8) (w : World) (e : Ending) (w' : World) : Prop :=
  e = .returned (.tuple #[.int .i64 ((must l (-999999999999) 999999999999).getD 0), .bool (must l (-999999999999) 999999999999).isSome]) ∧ Below w.heap.size w w'

end Go.Proofs.YtkdnjebjbadloaaGreatDoor.NumParse
