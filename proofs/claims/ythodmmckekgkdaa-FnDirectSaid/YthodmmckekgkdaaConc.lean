/-
  Chapter 5 of the model: the next closed set, the concept of a set, all concepts, one contract each.
-/
import Derived.Test.YthodmmckekgkdaaDerive
import Derived.Test.YthodmmckekgkdaaNext
import Derived.Test.YthodmmckekgkdaaPConcept
import Derived.Test.YthodmmckekgkdaaDual
namespace Go.Proofs.Ythodmmckekgkdaa.Ctx
open Go Go.RowKit Mem Sets
set_option maxRecDepth 100000
attribute [local go_sem ↓] Go.wp_at_zero Go.wp_at_succ

abbrev conc (p : PInt) : Value := .agg #[.int .i64 p.1, .int .i64 p.2]
/-- A set, and whether there is one. -/
def optV (o : Option Nat) : Value := .tuple #[.int .i64 (o.getD 0 : Nat), .bool o.isSome]
theorem mod_full (s k : Nat) (hs : s < 256) (hk : k ≤ 8) : bits .and .i64 (s : Int) (full k) = ((s % 2 ^ k : Nat) : Int) := by
  rw [full_nat (by omega) (by omega), Int.toNat_natCast]
  have := pow_le8 hk
  have hp := Nat.pow_pos (n := k) (show 0 < 2 by omega)
  rw [and_nat s _ hs (by omega), Nat.and_two_pow_sub_one_eq_mod]

/-- The next closed set of a context. -/
def nextClosed (a : Int) (rs : List Int) (s : Int) : Option Nat := if isCtx a rs = true ∧ isSet a s = true then nextTo (clo a rs) s.toNat a.toNat else none
/-- The concept of a set of attributes. -/
def conceptOf (a : Int) (rs : List Int) (s : Int) : PInt := (((extTo rs s rs.length : Nat) : Int), ((intTo a rs (extTo rs s rs.length : Nat) rs.length : Nat) : Int))
/-- All concepts of a context, in the lectic order of their intents. -/
def concepts (a : Int) (rs : List Int) : List PInt := if isCtx a rs = true then (closedFrom a.toNat (clo a rs) (clo a rs 0)).map fun s : Nat => conceptOf a rs s else []
theorem closedFrom_len (n : Nat) (cl : Nat → Nat) (s : Nat) : (closedFrom n cl s).length ≤ 256 := by
  refine Nat.le_trans (List.length_filter_le _ _) ?_
  simp [allSets]
theorem concepts_len (a : Int) (rs : List Int) : (concepts a rs).length ≤ 256 := by
  unfold concepts
  split
  · rw [List.length_map]; exact closedFrom_len _ _ _
  · simp
theorem newsP (w : World) (p : PInt) (t : TypeId) : ∀ (j : Nat) (u : Value), (prs [p])[j]? = some u → (w.alloc (.cells #[.int .i64 p.1, .int .i64 p.2] t)).cell? ((⟨w.heap.size, 0, none⟩ : Addr).add j) = some u := by
  intro j u hj
  match j, hj with
  | 0, hj => simp [prs] at hj; subst hj; simp [Addr.add]
  | 1, hj => simp [prs] at hj; subst hj; simp [Addr.add]
theorem oneP (p : PInt) : ∀ u ∈ prs [p], u.oneCell' = true := by
  intro u hu
  simp [prs] at hu
  rcases hu with rfl | rfl <;> rfl
theorem infoC : (Try.prog.info? 96).map (fun i => (i.zero, i.size, i.bytes)) = some (some (.agg #[.int .i64 0, .int .i64 0]), 2, 16) := by kernel_rfl
end Go.Proofs.Ythodmmckekgkdaa.Ctx
