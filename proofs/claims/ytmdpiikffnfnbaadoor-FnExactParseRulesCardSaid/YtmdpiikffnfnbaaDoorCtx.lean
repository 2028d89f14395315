/-
  The laws' own helpers over contexts, one contract each: szContext counts, toContext copies, eqContext compares, markContext writes, heldContext reads back.
-/
import Derived.Test.YtmdpiikffnfnbaaDoorInts
import Derived.Test.YtmdpiikffnfnbaaDoorSet
import Derived.Deep.QuietTactic
import Derived.BigQuiet
namespace Go.Proofs.YtmdpiikffnfnbaaDoor.Ctx
open Go Go.RowKit Mem Sets
set_option maxRecDepth 100000

/-- A context as a value: its number of attributes and its rows. -/
abbrev ctx (a : Int) (v : Value) : Value := .agg #[.int .i64 a, v]

theorem bcell {W w1 : World} (hb : Below W.heap.size W w1) : (∀ b o, b < W.heap.size → w1.cell? ⟨b, o, none⟩ = W.cell? ⟨b, o, none⟩) ∧ (∀ b o, b < W.heap.size → w1.frozen? ⟨b, o, none⟩ = W.frozen? ⟨b, o, none⟩) :=
  ⟨fun b o h => hb.cell (p := ⟨b, o, none⟩) h, fun b o h => hb.frozen (p := ⟨b, o, none⟩) h⟩

theorem bdrewN {B : Nat} {a w : World} (h : Below B a w) (n : Nat) : Below B a (w.drewN n) := ⟨h.os, h.tape, h.output, h.size, h.block⟩
theorem reads_form {w : World} {B : Nat} {v : Value} {xs : List Int} (h : Reads w B v (ints xs)) : ∃ a c, v = .slice a xs.length c := by
  obtain ⟨_, a, c, rfl, _⟩ := h
  exact ⟨a, c, by simp [ints]⟩
theorem own_form {e : TypeId} {w : World} {lo hi : Nat} {v : Value} {xs : List Int} (h : Own e w lo hi v (ints xs)) : ∃ a c, v = .slice a xs.length c := reads_form h.reads

theorem own_set {e : TypeId} {w : World} {lo hi : Nat} {v : Value} {cs : List Value} (h : Own e w lo hi v cs) {p : Addr} (hp : p.block < lo ∨ hi ≤ p.block) (u : Value) : Own e (w.setCell p u) lo hi v cs :=
  ⟨ownsRow_same h.1 fun k hk => Below.heap_setCell w p u k (by have := h.2 k hk; have := (h.1.lt k hk).1; omega), h.2⟩


/-- A context. -/
def isCtx (a : Int) (rs : List Int) : Bool := decide (0 ≤ a ∧ a ≤ 6) && decide (rs.length ≤ 8) && rs.all (isSet a)
theorem all_step {rs : List Int} {a : Int} {k : Nat} (hk : k < rs.length) (h : (rs.take k).all (isSet a) = true) (hs : isSet a (rs.getD k 0) = true) : (rs.take (k + 1)).all (isSet a) = true := by
  rw [List.take_add_one, List.getElem?_eq_getElem hk, List.all_append, h]
  simp only [List.getD, List.getElem?_eq_getElem hk, Option.getD_some] at hs
  simp [hs]
theorem all_bad {rs : List Int} {a : Int} {k : Nat} (hk : k < rs.length) (hs : isSet a (rs.getD k 0) = false) : rs.all (isSet a) = false := by
  simp only [List.getD, List.getElem?_eq_getElem hk, Option.getD_some] at hs
  rw [List.all_eq_false]
  exact ⟨rs[k], List.getElem_mem hk, by simp [hs]⟩


/-- The objects among the first k that have the attribute m. -/
def colTo (rs : List Int) (m : Int) : Nat → Nat
  | 0 => 0
  | k + 1 => if bit (rs.getD k 0) m then colTo rs m k ||| 2 ^ k else colTo rs m k
theorem colTo_lt (rs : List Int) (m : Int) (k : Nat) : colTo rs m k < 2 ^ k := by
  induction k with
  | zero => simp [colTo]
  | succ k ih =>
    have h1 : 2 ^ k < 2 ^ (k + 1) := Nat.pow_lt_pow_right (by omega) (by omega)
    unfold colTo
    split
    · exact Nat.or_lt_two_pow (by omega) h1
    · omega
theorem or_nat (m k : Nat) (hm : m < 256) (hk : k < 256) : bits .or .i64 (m : Int) (k : Int) = ((m ||| k : Nat) : Int) :=
  (bits_nat .i64 8 (by decide) (fun n h0 h1 => by rw [IntKind.wrap_i64]; omega) m k hm hk).2
theorem or_pow (m k : Nat) (hm : m < 256) (hk : k < 8) : bits .or .i64 (m : Int) (wrap64 (2 ^ k)) = ((m ||| 2 ^ k : Nat) : Int) := by
  have hp : 2 ^ k < 2 ^ 8 := Nat.pow_lt_pow_right (by omega) (by omega)
  have e : ((2 : Int) ^ k) = ((2 ^ k : Nat) : Int) := by simp
  rw [e]
  generalize 2 ^ k = q at hp
  rw [IntWalk.wrap64_in _ ⟨by omega, by omega⟩, or_nat m q hm (by omega)]
theorem isCtx_parts {a : Int} {rs : List Int} (h : isCtx a rs = true) : 0 ≤ a ∧ a ≤ 6 ∧ rs.length ≤ 8 ∧ ∀ k, k < rs.length → isSet a (rs.getD k 0) = true := by
  simp only [isCtx, Bool.and_eq_true, decide_eq_true_eq, List.all_eq_true] at h
  refine ⟨h.1.1.1, h.1.1.2, h.1.2, fun k hk => h.2 _ ?_⟩
  simp only [List.getD, List.getElem?_eq_getElem hk, Option.getD_some]
  exact List.getElem_mem hk
theorem isSet_le {a s : Int} (h : isSet a s = true) : 0 ≤ s ∧ s ≤ 255 := by
  simp only [isSet, decide_eq_true_eq] at h
  obtain ⟨⟨h0, h1⟩, h2, h3⟩ := h
  rcases cases9 ⟨h0, h1⟩ with rfl | rfl | rfl | rfl | rfl | rfl | rfl | rfl | rfl <;> simp at h3 <;> omega
theorem row_le {a : Int} {rs : List Int} (h : isCtx a rs = true) (k : Nat) : 0 ≤ rs.getD k 0 ∧ rs.getD k 0 ≤ 255 := by
  by_cases hk : k < rs.length
  · exact isSet_le ((isCtx_parts h).2.2.2 k hk)
  · simp [List.getElem?_eq_none (by omega : rs.length ≤ k)]

end Go.Proofs.YtmdpiikffnfnbaaDoor.Ctx
