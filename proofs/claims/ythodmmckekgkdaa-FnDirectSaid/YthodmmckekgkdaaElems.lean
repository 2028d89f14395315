/-
  ElementsOf of the program and of the model: the elements of a set in ascending order, in a new row.
-/
import Derived.Test.YthodmmckekgkdaaSet
import Derived.Test.YthodmmckekgkdaaInts
namespace Go.Proofs.Ythodmmckekgkdaa.Elems
open Go Go.RowKit Mem Sets
set_option maxRecDepth 100000

def elemsTo (s : Int) (k : Nat) : List Int := ((List.range k).filter fun e : Nat => hasEl s (e : Int)).map fun e : Nat => (e : Int)
def elems (s : Int) : List Int := elemsTo s 8
theorem elemsTo_hit (s : Int) (k : Nat) (h : hasEl s (k : Int) = true) : elemsTo s (k + 1) = elemsTo s k ++ [(k : Int)] := by
  simp [elemsTo, List.range_succ, List.filter_append, h]
theorem elemsTo_miss (s : Int) (k : Nat) (h : hasEl s (k : Int) = false) : elemsTo s (k + 1) = elemsTo s k := by
  simp [elemsTo, List.range_succ, List.filter_append, h]
theorem elemsTo_le (s : Int) (k : Nat) : (elemsTo s k).length ≤ k := by
  simp only [elemsTo, List.length_map]
  exact Nat.le_trans (List.length_filter_le _ _) (by simp)

/-- What a loop that collects has made so far. -/
def Got (s : Int) (w wr : World) (v : Value) (k : Nat) : Prop := wr.ownsRow w.heap.size 3 1 v (elemsTo s k).length (ints (elemsTo s k)) ∧ Below w.heap.size w wr
theorem Got.miss {s : Int} {w wr : World} {v : Value} {k : Nat} (h : Got s w wr v k) (hh : hasEl s (k : Int) = false) : Got s w wr v (k + 1) := by
  unfold Got; rw [elemsTo_miss s k hh]; exact h
theorem Got.hit {s : Int} {w wr w1 : World} {v v' : Value} {k : Nat} {o : Obj} (h : Got s w wr v k) (hh : hasEl s (k : Int) = true)
    (ho : w1.ownsRow w.heap.size 3 1 v' ((elemsTo s k).length + 1) (ints (elemsTo s k) ++ [.int .i64 (k : Int)])) (hg : (wr.alloc o).grownBy w1 v.ownBlock) : Got s w w1 v' (k + 1) := by
  refine ⟨by rw [elemsTo_hit s k hh]; simpa using ho, (h.2.alloc h.2.size o).grown hg (by simp; have := h.2.size; omega) fun j hj => (h.1.lt j hj).1⟩

set_option maxHeartbeats 400000 in
theorem impl_elems (s : Int) (w : World) :
    Calls Try.prog 111 #[.int .i64 s] w fun e w' => ∃ v, e = .returned v ∧ Own 3 w' w.heap.size w'.heap.size v (ints (elems s)) ∧ Below w.heap.size w w' := by
  obtain ⟨i0, hi, hz0, hz1, hz2⟩ := info_parts Ints.info
  go_enter Try.func111, Try.ntmps111
  go_wp2_with fail
  go_loopw [3, 5] (fun v i wr => ∃ k : Nat, k ≤ 8 ∧ i = .int .i64 k ∧ Got s w wr v k) (fun _ i _ => 8 - (intOf i).toNat)
  case atStart => exact ⟨0, Nat.zero_le _, rfl, World.ownsRow_nil _ _ _ _, Below.refl _ _⟩
  case round =>
    obtain ⟨k, hk, rfl, hgot⟩ := hrel
    have HG := Lib.hid hgot
    clear hgot
    by_cases hlt : k < 8
    · cases hh : hasEl s (k : Int) with
      | false =>
        have Hh := Lib.hid hh
        go_wp2_with fail
        refine (impl_hasEl _ _ _).mono ?_
        rintro e w' ⟨rfl, rfl⟩
        go_wp2_with fail
        go_roundw
        case rel => exact ⟨k + 1, by omega, by simp, HG.out.miss Hh.out⟩
        case measure => simp [intOf]; omega
      | true =>
        have Hh := Lib.hid hh
        go_wp2_with fail
        refine (impl_hasEl _ _ _).mono ?_
        rintro e w' ⟨rfl, rfl⟩
        go_wp2_with (at_builtin; refine wpList_append_own _ rfl _ _ 24 rfl w.heap.size 3 i0 (.int .i64 0) 1 8 Try.underlying24 hi hz0 hz1 hz2 rfl (by decide) _ _ _ rfl (HG.out.1.alloc _) ⟨w'.heap.size, 0, none⟩ 1 1 [.int .i64 (k : Int)] rfl rfl ?c1 ?c2 ?c3 ?c4 ?c5 ?_)
        case c1 =>
          intro j u hj
          match j, hj with
          | 0, hj => simp at hj; subst hj; simp [Addr.add]
        case c2 => intro u hu; simp at hu; subst hu; rfl
        case c3 => have := elemsTo_le s k; unfold maxLen; omega
        case c4 => have := elemsTo_le s k; omega
        case c5 => have := HG.out.2.size; simp; omega
        intro v' w1 hown' hgrow _
        have R := Lib.hid (HG.out.hit Hh.out hown' hgrow)
        clear hown' hgrow
        go_wp2
        go_roundw
        case rel => exact ⟨k + 1, by omega, by simp, R.out⟩
        case measure => simp [intOf]; omega
    · have hk8 : k = 8 := by omega
      subst hk8
      go_wp2
      go_ret
      exact ⟨_, rfl, Own.made HG.out.1, HG.out.2⟩
end Go.Proofs.Ythodmmckekgkdaa.Elems
