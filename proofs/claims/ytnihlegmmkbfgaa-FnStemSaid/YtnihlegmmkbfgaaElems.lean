/-
  ElementsOf of the program and of the model: the elements of a set in ascending order, in a new row.
-/
import Derived.Test.YtnihlegmmkbfgaaSet
import Derived.Test.YtnihlegmmkbfgaaInts
namespace Go.Proofs.Ytnihlegmmkbfgaa.Elems
open Go Go.RowKit Mem Sets
set_option maxRecDepth 100000

def elemsTo (s : Int) (k : Nat) : List Int := ((List.range k).filter fun e : Nat => hasEl s (e : Int)).map fun e : Nat => (e : Int)
def elems (s : Int) : List Int := elemsTo s 8
theorem elemsTo_hit (s : Int) (k : Nat) (h : hasEl s (k : Int) = true) : elemsTo s (k + 1) = elemsTo s k ++ [(k : Int)] := by
  simp [elemsTo, List.range_succ, List.filter_append, h]
theorem elemsTo_miss (s : Int) (k : Nat) (h : hasEl s (k : Int) = false) : elemsTo s (k + 1) = elemsTo s k := by
  simp [elemsTo, List.range_succ, List.filter_append, h]
theorem elemsTo_le (s : Int) (k : Nat) : (elemsTo s k).length ≤ k := by
  simp only [elemsTo, List.length_map]
  exact Nat.le_trans (List.length_filter_le _ _) (by simp)

/-- What a loop that collects has made so far. -/
def Got (s : Int) (w wr : World) (v : Value) (k : Nat) : Prop := wr.ownsRow w.heap.size 3 1 v (elemsTo s k).length (ints (elemsTo s k)) ∧ Below w.heap.size w wr
theorem Got.miss {s : Int} {w wr : World} {v : Value} {k : Nat} (h : Got s w wr v k) (hh : hasEl s (k : Int) = false) : Got s w wr v (k + 1) := by
  unfold Got; rw [elemsTo_miss s k hh]; exact h
theorem Got.hit {s : Int} {w wr w1 : World} {v v' : Value} {k : Nat} {o : Obj} (h : Got s w wr v k) (hh : hasEl s (k : Int) = true)
    (ho : w1.ownsRow w.heap.size 3 1 v' ((elemsTo s k).length + 1) (ints (elemsTo s k) ++ [.int .i64 (k : Int)])) (hg : (wr.alloc o).grownBy w1 v.ownBlock) : Got s w w1 v' (k + 1) := by
  refine ⟨by rw [elemsTo_hit s k hh]; simpa using ho, (h.2.alloc h.2.size o).grown hg (by simp; have := h.2.size; omega) fun j hj => (h.1.lt j hj).1⟩

end Go.Proofs.Ytnihlegmmkbfgaa.Elems
