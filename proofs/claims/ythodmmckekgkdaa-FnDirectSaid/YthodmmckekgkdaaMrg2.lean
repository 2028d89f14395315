/-
  Regions that draw their order, whose operations only read old cells, and whose callees may lay blocks of their own: one walk serves every order.
-/
import Derived.Test.YthodmmckekgkdaaDual
import Derived.BigQuiet
import Derived.Test.YthodmmckekgkdaaPairs
namespace Go.Proofs.Ythodmmckekgkdaa.Mem
open Go Go.RowKit
set_option maxRecDepth 100000

/-- A world behind W in which whatever lay in W lies as it lay. -/
structure Past (W : World) where
  w : World
  h : Below W.heap.size W w
instance {W : World} : Nonempty (Past W) := ⟨⟨W, Below.refl _ _⟩⟩
instance {W : World} : Inhabited (Past W) := ⟨⟨W, Below.refl _ _⟩⟩
theorem wp_region_past {P : Program} {id : Nat} {Q : Exit → Act → World → Prop} {a : Act} {W : World} {l : List Oper} (hm : P.follows .mixedOrders = true) (hB : Region.lexB .any l.toArray = true)
    (h : wpQuiet P l.toArray (fun w' => ∃ p : Past W, w' = p.w) (fun a' => ∀ w', (∃ p : Past W, w' = p.w) → Q .normal a' w') l a) : (Code.region id l.toArray true).wp P Q a W :=
  wp_region_quiet (C := fun w' => ∃ p : Past W, w' = p.w) hm hB ⟨⟨W.drew, (Below.refl W.heap.size W).drew⟩, rfl⟩ (by simpa using h)
/-- A contract, met in a world of the class. -/
theorem Past.of {W : World} {P : Program} {f : FuncId} {args : Array Value} {v : Value} (p : Past W) (h : Calls P f args p.w fun e w' => e = .returned v ∧ Below p.w.heap.size p.w w') : Calls P f args p.w fun e w' => e = .returned v ∧ ∃ q : Past W, w' = q.w :=
  h.mono fun _ w' ⟨he, hb⟩ => ⟨he, ⟨w', p.h.trans (hb.mono p.h.size)⟩, rfl⟩
theorem Past.ofSame {W : World} {P : Program} {f : FuncId} {args : Array Value} {v : Value} (p : Past W) (h : Calls P f args p.w fun e w' => e = .returned v ∧ w' = p.w) : Calls P f args p.w fun e w' => e = .returned v ∧ ∃ q : Past W, w' = q.w :=
  h.mono fun _ _ ⟨he, hb⟩ => ⟨he, p, hb⟩
theorem Past.cell {W : World} {q : Addr} {v : Value} (h : W.cell? q = some v) (hb : q.block < W.heap.size) (p : Past W) : p.w.cell? q = some v := (p.h.cell hb).trans h
theorem Past.size {W : World} (p : Past W) : W.heap.size ≤ p.w.heap.size := p.h.size
theorem Past.reads {W : World} {B : Nat} {v : Value} {cs : List Value} (h : Reads W B v cs) (hB : B ≤ W.heap.size) (p : Past W) : Reads p.w B v cs := h.below p.h hB
end Go.Proofs.Ythodmmckekgkdaa.Mem

namespace Go.Proofs.Ythodmmckekgkdaa.Mem
open Go Go.RowKit
set_option maxRecDepth 100000

abbrev Past.start (W : World) : Past W := ⟨W, Below.refl _ _⟩
abbrev Past.drew {W : World} (p : Past W) : Past W := ⟨p.w.drew, p.h.drew⟩
theorem Past.below {W : World} (p : Past W) {w : World} (h : Below w.heap.size w W) : Below w.heap.size w p.w := h.trans (p.h.mono h.size)
theorem Past.len {W : World} {B : Nat} (hB : B ≤ W.heap.size) (p : Past W) : B ≤ p.w.heap.size := Nat.le_trans hB p.h.size
theorem wp_region_pastIn {P : Program} {id : Nat} {Q : Exit → Act → World → Prop} {a : Act} {W : World} {l : List Oper} (p : Past W) (hm : P.follows .mixedOrders = true) (hB : Region.lexB .any l.toArray = true)
    (h : wpQuiet P l.toArray (fun w' => ∃ q : Past W, w' = q.w) (fun a' => ∀ w', (∃ q : Past W, w' = q.w) → Q .normal a' w') l a) : (Code.region id l.toArray true).wp P Q a p.w :=
  wp_region_quiet (C := fun w' => ∃ q : Past W, w' = q.w) hm hB ⟨p.drew, rfl⟩ (by simpa using h)
theorem Past.ofInts {W : World} {P : Program} {f : FuncId} {args : Array Value} {xs : List Int} {t : TypeId} (p : Past W) (h : Calls P f args p.w fun e w' => ∃ u, e = .returned u ∧ Mem.Own t w' p.w.heap.size w'.heap.size u (ints xs) ∧ Below p.w.heap.size p.w w') :
    Calls P f args p.w fun e w' => ∃ a c, e = .returned (.slice a xs.length c) ∧ ∃ q : Past W, w' = q.w ∧ Reads q.w q.w.heap.size (.slice a xs.length c) (ints xs) :=
  h.mono fun _ w' ⟨u, he, ho, hb⟩ => by
    have hr := ho.reads
    obtain ⟨h1, a, c, rfl, h2⟩ := hr
    have e1 : (ints xs).length = xs.length := by simp
    rw [e1] at he h2
    exact ⟨a, c, he, ⟨w', p.h.trans (hb.mono p.h.size)⟩, rfl, h1, a, c, by rw [e1], by rw [e1]; exact h2⟩
abbrev Past.alloc {W : World} (p : Past W) (o : Obj) : Past W := ⟨p.w.alloc o, p.h.alloc p.size o⟩
abbrev Past.set {W : World} (p : Past W) (q : Addr) (hq : W.heap.size ≤ q.block) (u : Value) : Past W := ⟨p.w.setCell q u, p.h.setCell hq u⟩
theorem Past.box {W : World} (p : Past W) (t : TypeId) (cs : Array Value) {w' : World} (b : Below (p.w.alloc (.cells cs t)).heap.size (p.w.alloc (.cells cs t)) w') : Ctx.BoxAt w' p.w.heap.size t cs := (Ctx.BoxAt.new p.w t cs).below b (by simp)
/-- A contract, met in a world of the class; what it leaves alone is told. -/
theorem Past.ofB {W : World} {P : Program} {f : FuncId} {args : Array Value} {v : Value} (p : Past W) (h : Calls P f args p.w fun e w' => e = .returned v ∧ Below p.w.heap.size p.w w') : Calls P f args p.w fun e w' => e = .returned v ∧ ∃ q : Past W, w' = q.w ∧ Below p.w.heap.size p.w q.w :=
  h.mono fun _ w' ⟨he, hb⟩ => ⟨he, ⟨w', p.h.trans (hb.mono p.h.size)⟩, rfl, hb⟩
/-- A call that hands back a context and true. -/
theorem Past.ofCtx {W : World} {P : Program} {f : FuncId} {args : Array Value} {n : Int} {xs : List Int} {t : TypeId} (p : Past W)
    (h : Calls P f args p.w fun e w' => ∃ a c, e = .returned (.tuple #[.agg #[.int .i64 n, .slice a xs.length c], .bool true]) ∧ Mem.Own t w' p.w.heap.size w'.heap.size (.slice a xs.length c) (ints xs) ∧ Below p.w.heap.size p.w w') :
    Calls P f args p.w fun e w' => ∃ a c, e = .returned (.tuple #[.agg #[.int .i64 n, .slice a xs.length c], .bool true]) ∧ ∃ q : Past W, w' = q.w ∧ Mem.Own t q.w p.w.heap.size q.w.heap.size (.slice a xs.length c) (ints xs) ∧ Below p.w.heap.size p.w q.w :=
  h.mono fun _ w' ⟨a, c, he, ho, hb⟩ => ⟨a, c, he, ⟨w', p.h.trans (hb.mono p.h.size)⟩, rfl, ho, hb⟩
/-- A call that hands back a list of its own; what it leaves alone is told. -/
theorem Past.ofIntsB {W : World} {P : Program} {f : FuncId} {args : Array Value} {xs : List Int} {t : TypeId} (p : Past W) (h : Calls P f args p.w fun e w' => ∃ u, e = .returned u ∧ Mem.Own t w' p.w.heap.size w'.heap.size u (ints xs) ∧ Below p.w.heap.size p.w w') :
    Calls P f args p.w fun e w' => ∃ a c, e = .returned (.slice a xs.length c) ∧ ∃ q : Past W, w' = q.w ∧ Reads q.w q.w.heap.size (.slice a xs.length c) (ints xs) ∧ Below p.w.heap.size p.w q.w :=
  h.mono fun _ w' ⟨u, he, ho, hb⟩ => by
    have hr := ho.reads
    obtain ⟨h1, a, c, rfl, h2⟩ := hr
    have e1 : (ints xs).length = xs.length := by simp
    rw [e1] at he h2
    exact ⟨a, c, he, ⟨w', p.h.trans (hb.mono p.h.size)⟩, rfl, ⟨h1, a, c, by rw [e1], by rw [e1]; exact h2⟩, hb⟩
/-- A struct of two cells that holds a list of one's own: laid behind all that is there .. -/
theorem Past.endAlloc {W : World} (p : Past W) {t ty : TypeId} {n u : Value} {lo : Nat} {cs : List Value} (o : Mem.Own t p.w lo p.w.heap.size u cs) :
    W.heap.size ≤ p.w.heap.size ∧ Ctx.BoxAt (p.w.alloc (.cells #[n, u] ty)) p.w.heap.size ty #[n, u] ∧ Reads (p.w.alloc (.cells #[n, u] ty)) (p.w.alloc (.cells #[n, u] ty)).heap.size u cs ∧ Below W.heap.size W (p.w.alloc (.cells #[n, u] ty)) :=
  ⟨p.size, Ctx.BoxAt.new _ _ _, (o.reads.below ((Below.refl p.w.heap.size p.w).alloc (Nat.le_refl _) _) (Nat.le_refl _)).mono (by simp), p.h.alloc p.size _⟩
/-- .. or written over a box that was laid ahead. -/
theorem Past.endSet {W : World} (p : Past W) {t ty : TypeId} {n u z0 z1 : Value} {lo q : Nat} {cs : List Value} (x : Ctx.BoxAt p.w q ty #[z0, z1]) (o : Mem.Own t p.w lo p.w.heap.size u cs) (hq : q < lo) (hW : W.heap.size ≤ q) :
    W.heap.size ≤ q ∧ Ctx.BoxAt ((p.w.setCell ⟨q, 0, none⟩ n).setCell ⟨q, 1, none⟩ u) q ty #[n, u] ∧ Reads ((p.w.setCell ⟨q, 0, none⟩ n).setCell ⟨q, 1, none⟩ u) ((p.w.setCell ⟨q, 0, none⟩ n).setCell ⟨q, 1, none⟩ u).heap.size u cs ∧ Below W.heap.size W ((p.w.setCell ⟨q, 0, none⟩ n).setCell ⟨q, 1, none⟩ u) :=
  ⟨hW, (x.set 0 n).set 1 u, (Ctx.own_set (Ctx.own_set o (p := ⟨q, 0, none⟩) (.inl hq) n) (p := ⟨q, 1, none⟩) (.inl hq) u).reads.mono (by simp), (p.h.setCell (p := ⟨q, 0, none⟩) hW n).setCell (p := ⟨q, 1, none⟩) hW u⟩
end Go.Proofs.Ythodmmckekgkdaa.Mem

namespace Go.Proofs.Ythodmmckekgkdaa.Mem
open Go Go.RowKit
set_option maxRecDepth 100000

theorem get_at (xs : List Int) (k : Nat) (h : k < xs.length) : (ints xs)[k]? = some (.int .i64 (xs.getD k 0)) := ints_get xs k h
set_option maxHeartbeats 800000 in
/-- The same list twice. -/
theorem same_ (va vb : Value) (xs : List Int) (Ba Bb : Nat) (w : World) (ha : Reads w Ba va (ints xs)) (hb : Reads w Bb vb (ints xs)) (hBa : Ba ≤ w.heap.size) (hBb : Bb ≤ w.heap.size) (hm : xs.length ≤ 1048576) :
    Calls Try.prog 18 #[va, vb] w fun e w' => e = .returned (.bool true) ∧ Below w.heap.size w w' := by
  obtain ⟨-, aa, ca, rfl, hca⟩ := ha
  obtain ⟨-, ab, cb, rfl, hcb⟩ := hb
  have hl : (ints xs).length = xs.length := by simp
  rw [hl] at hca hcb ⊢
  have HA := Lib.hid hca
  have HB := Lib.hid hcb
  clear hca hcb hl
  obtain ⟨n, hn⟩ : ∃ n, xs.length = n := ⟨_, rfl⟩
  rw [hn] at HA HB hm ⊢
  have HN := Lib.hid hn
  clear hn
  have hq : ((n : Int) != (n : Int)) = false := by simp
  go_enter Try.func18, Try.ntmps18
  go_wp2_with fail
  go_loopw [5] (fun i wr => ∃ k : Nat, i = .int .i64 k ∧ k ≤ n ∧ Hid (Below w.heap.size w wr)) (fun i _ => n - (intOf i).toNat)
  case atStart => exact ⟨0, rfl, by omega, Lib.hid (Below.refl _ _)⟩
  case round =>
    obtain ⟨k, rfl, hk, hb⟩ := hrel
    by_cases hkn : k < n
    · have hne : ints xs ≠ [] := fun e => by have h1 := congrArg List.length e; have h2 := HN.out; simp at h1; rw [h1] at h2; simp at h2; omega
      obtain ⟨b1, o1, rfl, hlt1, hc1⟩ := HA.out hne
      obtain ⟨b2, o2, rfl, hlt2, hc2⟩ := HB.out hne
      have c1 := (hb.out.cell (p := ⟨b1, o1 + k, none⟩) (by show b1 < _; omega)).trans (hc1 k hkn)
      have c2 := (hb.out.cell (p := ⟨b2, o2 + k, none⟩) (by show b2 < _; omega)).trans (hc2 k hkn)
      rw [get_at xs k (by rw [HN.out]; exact hkn)] at c1 c2
      have hzr := hb.out.size
      generalize xs.getD k 0 = y at c1 c2
      have q1 := fun p : Past wr => Past.cell (W := wr) c1 (show b1 < wr.heap.size by omega) p
      have q2 := fun p : Past wr => Past.cell (W := wr) c2 (show b2 < wr.heap.size by omega) p
      have hy : (y != y) = false := by simp
      clear c1 c2 hne hc1 hc2
      go_wp2_with fail
      refine wp_region_past (by kernel_rfl) (by kernel_rfl) ?_
      repeat (go_big_quiet_step (fail))
      refine wpQuiet_nil ?_
      rintro _ ⟨p, rfl⟩
      have hbb := Lib.hid (hb.out.trans (p.h.mono hzr))
      go_wp2_with fail
      exact ⟨⟨k + 1, by simp, by omega, hbb⟩, by simp only [intOf]; omega⟩
    · have hkn2 : k = n := by omega
      subst hkn2
      go_wp2_with fail
      go_ret
      exact ⟨rfl, hb.out⟩
end Go.Proofs.Ythodmmckekgkdaa.Mem

namespace Go.Proofs.Ythodmmckekgkdaa.Mem
open Go Go.RowKit
set_option maxRecDepth 100000

theorem Past.ofPairs {W : World} {P : Program} {f : FuncId} {args : Array Value} {l : List PInt} {t : TypeId} (p : Past W) (h : Calls P f args p.w fun e w' => ∃ u, e = .returned u ∧ OwnP t w' p.w.heap.size w'.heap.size u l ∧ Below p.w.heap.size p.w w') :
    Calls P f args p.w fun e w' => ∃ a c, e = .returned (.slice a l.length c) ∧ ∃ q : Past W, w' = q.w ∧ ReadsP q.w q.w.heap.size (.slice a l.length c) l :=
  h.mono fun _ w' ⟨u, he, ho, hb⟩ => by
    have hr := ho.reads
    obtain ⟨a, c, rfl⟩ := ho.form
    exact ⟨a, c, he, ⟨w', p.h.trans (hb.mono p.h.size)⟩, rfl, hr⟩
end Go.Proofs.Ythodmmckekgkdaa.Mem
