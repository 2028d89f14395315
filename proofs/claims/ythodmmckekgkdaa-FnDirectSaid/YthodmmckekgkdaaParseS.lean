/-
  ParseSet of the program and of the model: the set whose text is the argument, if there is one.
-/
import Derived.Test.YthodmmckekgkdaaText
namespace Go.Proofs.Ythodmmckekgkdaa.Parse
open Go Go.RowKit Mem Sets Elems Text
set_option maxRecDepth 100000

def acc (m : Nat) (c : UInt8) : Nat := if 97 ≤ c.toNat ∧ c.toNat ≤ 104 then m ||| 2 ^ (c.toNat - 97) else m
def fold (l : List UInt8) : Nat := l.foldl acc 0
theorem acc_lt (m : Nat) (c : UInt8) (h : m < 256) : acc m c < 256 := by
  unfold acc
  split
  · rename_i hc
    exact Nat.or_lt_two_pow (n := 8) h (Nat.pow_lt_pow_right (by omega) (by omega))
  · exact h
theorem fold_take (l : List UInt8) (k : Nat) (hk : k < l.length) : fold (l.take (k + 1)) = acc (fold (l.take k)) l[k] := by
  unfold fold
  rw [List.take_add_one, List.getElem?_eq_getElem hk, List.foldl_append]
  rfl
theorem fold_lt (l : List UInt8) : fold l < 256 := by
  unfold fold
  have : ∀ (l : List UInt8) (m : Nat), m < 256 → l.foldl acc m < 256 := by
    intro l
    induction l with
    | nil => intro m h; exact h
    | cons c l ih => intro m h; exact ih _ (acc_lt m c h)
  exact this l 0 (by omega)
theorem or_nat (m k : Nat) (hm : m < 256) (hk : k < 256) : bits .or .i64 (m : Int) (k : Int) = ((m ||| k : Nat) : Int) :=
  (bits_nat .i64 8 (by decide) (fun n h0 h1 => by rw [IntKind.wrap_i64]; omega) m k hm hk).2
/-- The set whose text l is. -/
def parse (l : List UInt8) : Option Int := if setText (fold l : Int) = l then some (fold l : Int) else none
theorem text_letters (s : Int) (x : UInt8) (hx : x ∈ setText s) : x = 45 ∨ (97 ≤ x.toNat ∧ x.toNat ≤ 104) := by
  unfold setText at hx
  split at hx
  · split at hx
    · simp at hx; exact .inl hx
    · right
      simp only [chars, List.mem_map] at hx
      obtain ⟨e, he, rfl⟩ := hx
      obtain ⟨j, hj, rfl⟩ := List.getElem_of_mem he
      have := elems_bound s j hj
      simp only [List.getD, List.getElem?_eq_getElem hj, Option.getD_some] at this
      generalize (elems s)[j] = e at this
      rcases cases8 this with rfl | rfl | rfl | rfl | rfl | rfl | rfl | rfl <;> decide
  · simp at hx
theorem text_dash (s : Int) (hx : (45 : UInt8) ∈ setText s) : setText s = [45] := by
  unfold setText at hx ⊢
  split at hx
  · split at hx
    · rename_i h1 h2; rw [if_pos h1, if_pos h2]
    · exfalso
      simp only [chars, List.mem_map] at hx
      obtain ⟨e, he, hx⟩ := hx
      obtain ⟨j, hj, rfl⟩ := List.getElem_of_mem he
      have := elems_bound s j hj
      simp only [List.getD, List.getElem?_eq_getElem hj, Option.getD_some] at this
      generalize (elems s)[j] = e at this hx
      rcases cases8 this with rfl | rfl | rfl | rfl | rfl | rfl | rfl | rfl <;> revert hx <;> decide
  · simp at hx
theorem bad_none (l : List UInt8) (hd : l ≠ [45]) (k : Nat) (hk : k < l.length) (hb : ¬ (97 ≤ (l[k]).toNat ∧ (l[k]).toNat ≤ 104)) : parse l = none := by
  unfold parse
  rw [if_neg]
  intro h
  have hm : l[k] ∈ setText (fold l : Int) := by rw [h]; exact List.getElem_mem hk
  rcases text_letters _ _ hm with h1 | h1
  · rw [h1] at hm
    exact hd (h.symm.trans (text_dash _ hm))
  · exact hb h1
theorem letter {x : UInt8} (h : 97 ≤ x.toNat ∧ x.toNat ≤ 104) : x = 97 ∨ x = 98 ∨ x = 99 ∨ x = 100 ∨ x = 101 ∨ x = 102 ∨ x = 103 ∨ x = 104 := by
  have : x.toNat = 97 ∨ x.toNat = 98 ∨ x.toNat = 99 ∨ x.toNat = 100 ∨ x.toNat = 101 ∨ x.toNat = 102 ∨ x.toNat = 103 ∨ x.toNat = 104 := by omega
  rcases this with h | h | h | h | h | h | h | h
  all_goals
    have := congrArg UInt8.ofNat h
    rw [UInt8.ofNat_toNat] at this
    subst this
    decide
theorem or_bit (m : Nat) (c : UInt8) (hm : m < 256) (hc : 97 ≤ c.toNat ∧ c.toNat ≤ 104) : Value.int .i64 (bits .or .i64 (m : Int) (wrap64 (2 ^ (c.toNat - 97)))) = Value.int .i64 ((acc m c : Nat) : Int) := by
  have hp : 2 ^ (c.toNat - 97) < 2 ^ 8 := Nat.pow_lt_pow_right (by omega) (by omega)
  have e : ((2 : Int) ^ (c.toNat - 97)) = ((2 ^ (c.toNat - 97) : Nat) : Int) := by simp
  have ha : acc m c = m ||| 2 ^ (c.toNat - 97) := by rw [acc, if_pos hc]
  rw [e, ha]
  generalize 2 ^ (c.toNat - 97) = q at hp
  rw [IntWalk.wrap64_in _ ⟨by omega, by omega⟩, or_nat m q hm (by omega)]
theorem setText_le (s : Int) : (setText s).length ≤ 8 := by
  unfold setText chars
  split
  · split
    · simp
    · rw [List.length_map]; exact elemsTo_le s 8
  · simp
/-- What a call returns. -/
def Post (l : List UInt8) (w : World) (e : Ending) (w' : World) : Prop :=
  e = .returned (.tuple #[.int .i64 ((parse l).getD 0), .bool (parse l).isSome]) ∧ Below w.heap.size w w'

end Go.Proofs.Ythodmmckekgkdaa.Parse
