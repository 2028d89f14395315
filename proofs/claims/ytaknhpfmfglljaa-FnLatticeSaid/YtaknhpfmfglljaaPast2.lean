/-
  The class of worlds behind a world: calls that return a list of their own.
-/
import Derived.Test.YtaknhpfmfglljaaSame
import Derived.Test.YtaknhpfmfglljaaPairs
namespace Go.Proofs.Ytaknhpfmfglljaa.Mem
open Go Go.RowKit
set_option maxRecDepth 100000

abbrev Past.start (W : World) : Past W := ⟨W, Below.refl _ _⟩
abbrev Past.drew {W : World} (p : Past W) : Past W := ⟨p.w.drew, p.h.drew⟩
theorem Past.below {W : World} (p : Past W) {w : World} (h : Below w.heap.size w W) : Below w.heap.size w p.w := h.trans (p.h.mono h.size)
theorem Past.len {W : World} {B : Nat} (hB : B ≤ W.heap.size) (p : Past W) : B ≤ p.w.heap.size := Nat.le_trans hB p.h.size
theorem wp_region_pastIn {P : Program} {id : Nat} {Q : Exit → Act → World → Prop} {a : Act} {W : World} {l : List Oper} (p : Past W) (hm : P.follows .mixedOrders = true) (hB : Region.lexB .any l.toArray = true)
    (h : wpQuiet P l.toArray (fun w' => ∃ q : Past W, w' = q.w) (fun a' => ∀ w', (∃ q : Past W, w' = q.w) → Q .normal a' w') l a) : (Code.region id l.toArray true).wp P Q a p.w :=
  wp_region_quiet (C := fun w' => ∃ q : Past W, w' = q.w) hm hB ⟨p.drew, rfl⟩ (by simpa using h)
theorem Past.ofInts {W : World} {P : Program} {f : FuncId} {args : Array Value} {xs : List Int} {t : TypeId} (p : Past W) (h : Calls P f args p.w fun e w' => ∃ u, e = .returned u ∧ Mem.Own t w' p.w.heap.size w'.heap.size u (ints xs) ∧ Below p.w.heap.size p.w w') :
    Calls P f args p.w fun e w' => ∃ a c, e = .returned (.slice a xs.length c) ∧ ∃ q : Past W, w' = q.w ∧ Reads q.w q.w.heap.size (.slice a xs.length c) (ints xs) :=
  h.mono fun _ w' ⟨u, he, ho, hb⟩ => by
    have hr := ho.reads
    obtain ⟨h1, a, c, rfl, h2⟩ := hr
    have e1 : (ints xs).length = xs.length := by simp
    rw [e1] at he h2
    exact ⟨a, c, he, ⟨w', p.h.trans (hb.mono p.h.size)⟩, rfl, h1, a, c, by rw [e1], by rw [e1]; exact h2⟩
theorem Past.ofPairs {W : World} {P : Program} {f : FuncId} {args : Array Value} {l : List PInt} {t : TypeId} (p : Past W) (h : Calls P f args p.w fun e w' => ∃ u, e = .returned u ∧ OwnP t w' p.w.heap.size w'.heap.size u l ∧ Below p.w.heap.size p.w w') :
    Calls P f args p.w fun e w' => ∃ a c, e = .returned (.slice a l.length c) ∧ ∃ q : Past W, w' = q.w ∧ ReadsP q.w q.w.heap.size (.slice a l.length c) l :=
  h.mono fun _ w' ⟨u, he, ho, hb⟩ => by
    have hr := ho.reads
    obtain ⟨a, c, rfl⟩ := ho.form
    exact ⟨a, c, he, ⟨w', p.h.trans (hb.mono p.h.size)⟩, rfl, hr⟩
end Go.Proofs.Ytaknhpfmfglljaa.Mem
