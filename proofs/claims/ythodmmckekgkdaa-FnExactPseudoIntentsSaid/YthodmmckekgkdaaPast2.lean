/-
  The class of worlds behind a world: calls that return a list of their own.
-/
import Derived.Test.YthodmmckekgkdaaPastI
import Derived.Test.YthodmmckekgkdaaSame
import Derived.Test.YthodmmckekgkdaaPairs
namespace Go.Proofs.Ythodmmckekgkdaa.Mem
open Go Go.RowKit
set_option maxRecDepth 100000

theorem Past.ofPairs {W : World} {P : Program} {f : FuncId} {args : Array Value} {l : List PInt} {t : TypeId} (p : Past W) (h : Calls P f args p.w fun e w' => ∃ u, e = .returned u ∧ OwnP t w' p.w.heap.size w'.heap.size u l ∧ Below p.w.heap.size p.w w') :
    Calls P f args p.w fun e w' => ∃ a c, e = .returned (.slice a l.length c) ∧ ∃ q : Past W, w' = q.w ∧ ReadsP q.w q.w.heap.size (.slice a l.length c) l :=
  h.mono fun _ w' ⟨u, he, ho, hb⟩ => by
    have hr := ho.reads
    obtain ⟨a, c, rfl⟩ := ho.form
    exact ⟨a, c, he, ⟨w', p.h.trans (hb.mono p.h.size)⟩, rfl, hr⟩
end Go.Proofs.Ythodmmckekgkdaa.Mem
