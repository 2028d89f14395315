/-
  The class of worlds behind a world: calls that return a list of numbers of their own.
-/
import Derived.Test.YthodmmckekgkdaaPast
namespace Go.Proofs.Ythodmmckekgkdaa.Mem
open Go Go.RowKit
set_option maxRecDepth 100000

abbrev Past.start (W : World) : Past W := ⟨W, Below.refl _ _⟩
abbrev Past.drew {W : World} (p : Past W) : Past W := ⟨p.w.drew, p.h.drew⟩
theorem Past.below {W : World} (p : Past W) {w : World} (h : Below w.heap.size w W) : Below w.heap.size w p.w := h.trans (p.h.mono h.size)
theorem Past.len {W : World} {B : Nat} (hB : B ≤ W.heap.size) (p : Past W) : B ≤ p.w.heap.size := Nat.le_trans hB p.h.size
theorem wp_region_pastIn {P : Program} {id : Nat} {Q : Exit → Act → World → Prop} {a : Act} {W : World} {l : List Oper} (p : Past W) (hm : P.follows .mixedOrders = true) (hB : Region.lexB .any l.toArray = true)
    (h : wpQuiet P l.toArray (fun w' => ∃ q : Past W, w' = q.w) (fun a' => ∀ w', (∃ q : Past W, w' = q.w) → Q .normal a' w') l a) : (Code.region id l.toArray true).wp P Q a p.w :=
  wp_region_quiet (C := fun w' => ∃ q : Past W, w' = q.w) hm hB ⟨p.drew, rfl⟩ (by simpa using h)
theorem Past.ofInts {W : World} {P : Program} {f : FuncId} {args : Array Value} {xs : List Int} {t : TypeId} (p : Past W) (h : Calls P f args p.w fun e w' => ∃ u, e = .returned u ∧ Mem.Own t w' p.w.heap.size w'.heap.size u (ints xs) ∧ Below p.w.heap.size p.w w') :
    Calls P f args p.w fun e w' => ∃ a c, e = .returned (.slice a xs.length c) ∧ ∃ q : Past W, w' = q.w ∧ Reads q.w q.w.heap.size (.slice a xs.length c) (ints xs) :=
  h.mono fun _ w' ⟨u, he, ho, hb⟩ => by
    have hr := ho.reads
    obtain ⟨h1, a, c, rfl, h2⟩ := hr
    have e1 : (ints xs).length = xs.length := by simp
    rw [e1] at he h2
    exact ⟨a, c, he, ⟨w', p.h.trans (hb.mono p.h.size)⟩, rfl, h1, a, c, by rw [e1], by rw [e1]; exact h2⟩
abbrev Past.alloc {W : World} (p : Past W) (o : Obj) : Past W := ⟨p.w.alloc o, p.h.alloc p.size o⟩
abbrev Past.set {W : World} (p : Past W) (q : Addr) (hq : W.heap.size ≤ q.block) (u : Value) : Past W := ⟨p.w.setCell q u, p.h.setCell hq u⟩
theorem Past.box {W : World} (p : Past W) (t : TypeId) (cs : Array Value) {w' : World} (b : Below (p.w.alloc (.cells cs t)).heap.size (p.w.alloc (.cells cs t)) w') : Ctx.BoxAt w' p.w.heap.size t cs := (Ctx.BoxAt.new p.w t cs).below b (by simp)
/-- A contract, met in a world of the class; what it leaves alone is told. -/
theorem Past.ofB {W : World} {P : Program} {f : FuncId} {args : Array Value} {v : Value} (p : Past W) (h : Calls P f args p.w fun e w' => e = .returned v ∧ Below p.w.heap.size p.w w') : Calls P f args p.w fun e w' => e = .returned v ∧ ∃ q : Past W, w' = q.w ∧ Below p.w.heap.size p.w q.w :=
  h.mono fun _ w' ⟨he, hb⟩ => ⟨he, ⟨w', p.h.trans (hb.mono p.h.size)⟩, rfl, hb⟩
/-- A call that hands back a context and true. -/
theorem Past.ofCtx {W : World} {P : Program} {f : FuncId} {args : Array Value} {n : Int} {xs : List Int} {t : TypeId} (p : Past W)
    (h : Calls P f args p.w fun e w' => ∃ a c, e = .returned (.tuple #[.agg #[.int .i64 n, .slice a xs.length c], .bool true]) ∧ Mem.Own t w' p.w.heap.size w'.heap.size (.slice a xs.length c) (ints xs) ∧ Below p.w.heap.size p.w w') :
    Calls P f args p.w fun e w' => ∃ a c, e = .returned (.tuple #[.agg #[.int .i64 n, .slice a xs.length c], .bool true]) ∧ ∃ q : Past W, w' = q.w ∧ Mem.Own t q.w p.w.heap.size q.w.heap.size (.slice a xs.length c) (ints xs) ∧ Below p.w.heap.size p.w q.w :=
  h.mono fun _ w' ⟨a, c, he, ho, hb⟩ => ⟨a, c, he, ⟨w', p.h.trans (hb.mono p.h.size)⟩, rfl, ho, hb⟩
/-- A call that hands back a list of its own; what it leaves alone is told. -/
theorem Past.ofIntsB {W : World} {P : Program} {f : FuncId} {args : Array Value} {xs : List Int} {t : TypeId} (p : Past W) (h : Calls P f args p.w fun e w' => ∃ u, e = .returned u ∧ Mem.Own t w' p.w.heap.size w'.heap.size u (ints xs) ∧ Below p.w.heap.size p.w w') :
    Calls P f args p.w fun e w' => ∃ a c, e = .returned (.slice a xs.length c) ∧ ∃ q : Past W, w' = q.w ∧ Reads q.w q.w.heap.size (.slice a xs.length c) (ints xs) ∧ Below p.w.heap.size p.w q.w :=
  h.mono fun _ w' ⟨u, he, ho, hb⟩ => by
    have hr := ho.reads
    obtain ⟨h1, a, c, rfl, h2⟩ := hr
    have e1 : (ints xs).length = xs.length := by simp
    rw [e1] at he h2
    exact ⟨a, c, he, ⟨w', p.h.trans (hb.mono p.h.size)⟩, rfl, ⟨h1, a, c, by rw [e1], by rw [e1]; exact h2⟩, hb⟩
/-- A struct of two cells that holds a list of one's own: laid behind all that is there .. -/
theorem Past.endAlloc {W : World} (p : Past W) {t ty : TypeId} {n u : Value} {lo : Nat} {cs : List Value} (o : Mem.Own t p.w lo p.w.heap.size u cs) :
    W.heap.size ≤ p.w.heap.size ∧ Ctx.BoxAt (p.w.alloc (.cells #[n, u] ty)) p.w.heap.size ty #[n, u] ∧ Reads (p.w.alloc (.cells #[n, u] ty)) (p.w.alloc (.cells #[n, u] ty)).heap.size u cs ∧ Below W.heap.size W (p.w.alloc (.cells #[n, u] ty)) :=
  ⟨p.size, Ctx.BoxAt.new _ _ _, (o.reads.below ((Below.refl p.w.heap.size p.w).alloc (Nat.le_refl _) _) (Nat.le_refl _)).mono (by simp), p.h.alloc p.size _⟩
/-- .. or written over a box that was laid ahead. -/
theorem Past.endSet {W : World} (p : Past W) {t ty : TypeId} {n u z0 z1 : Value} {lo q : Nat} {cs : List Value} (x : Ctx.BoxAt p.w q ty #[z0, z1]) (o : Mem.Own t p.w lo p.w.heap.size u cs) (hq : q < lo) (hW : W.heap.size ≤ q) :
    W.heap.size ≤ q ∧ Ctx.BoxAt ((p.w.setCell ⟨q, 0, none⟩ n).setCell ⟨q, 1, none⟩ u) q ty #[n, u] ∧ Reads ((p.w.setCell ⟨q, 0, none⟩ n).setCell ⟨q, 1, none⟩ u) ((p.w.setCell ⟨q, 0, none⟩ n).setCell ⟨q, 1, none⟩ u).heap.size u cs ∧ Below W.heap.size W ((p.w.setCell ⟨q, 0, none⟩ n).setCell ⟨q, 1, none⟩ u) :=
  ⟨hW, (x.set 0 n).set 1 u, (Ctx.own_set (Ctx.own_set o (p := ⟨q, 0, none⟩) (.inl hq) n) (p := ⟨q, 1, none⟩) (.inl hq) u).reads.mono (by simp), (p.h.setCell (p := ⟨q, 0, none⟩) hW n).setCell (p := ⟨q, 1, none⟩) hW u⟩
end Go.Proofs.Ythodmmckekgkdaa.Mem
