/-
  Rows of 64 bools and tables made of them: as values, in memory, compared as a whole.
-/
import Derived.Test.YtdkgmjbhkifcbaaConc6
import Derived.Deep.MidRow
import Derived.ChangeKeysEq
namespace Go.Proofs.Ytdkgmjbhkifcbaa.Tab
open Go Go.RowKit Mem Sets Ctx
set_option maxRecDepth 100000

def rowL (f : Nat → Bool) : List Value := (List.range 64).map fun i => .bool (f i)
def rowA (f : Nat → Bool) : Array Value := (rowL f).toArray
def tabL (n : Nat) (M : Nat → Nat → Bool) : List Value := (List.range (n * 64)).map fun i => .bool (M (i / 64) (i % 64))
def tabA (n : Nat) (M : Nat → Nat → Bool) : Array Value := (tabL n M).toArray
theorem rowL_len (f : Nat → Bool) : (rowL f).length = 64 := by simp [rowL]
theorem rowA_size (f : Nat → Bool) : (rowA f).size = 64 := by simp [rowA, rowL_len]
theorem tabA_size (n : Nat) (M : Nat → Nat → Bool) : (tabA n M).size = n * 64 := by simp [tabA, tabL]
theorem rowL_get (f : Nat → Bool) {i : Nat} (h : i < 64) : (rowL f)[i]? = some (.bool (f i)) := by simp [rowL, h]
theorem rowA_get (f : Nat → Bool) {i : Nat} (h : i < 64) : (rowA f)[i]? = some (.bool (f i)) := by simp [rowA, rowL_get f h]
theorem rowL_congr {f g : Nat → Bool} (h : ∀ i, i < 64 → f i = g i) : rowL f = rowL g := by
  refine List.map_congr_left fun i hi => ?_
  rw [h i (List.mem_range.1 hi)]
theorem rowA_congr {f g : Nat → Bool} (h : ∀ i, i < 64 → f i = g i) : rowA f = rowA g := congrArg List.toArray (rowL_congr h)
theorem rowA_cells (f : Nat → Bool) : (rowA f).all (·.oneCell') = true := all_oneCell_toArray fun v hv => by
  obtain ⟨i, -, rfl⟩ := List.mem_map.1 hv
  rfl
theorem rowA_set (f : Nat → Bool) (k : Nat) (b : Bool) : (rowA f).setIfInBounds k (.bool b) = rowA fun i => if i = k then b else f i := by
  apply Array.ext_getElem?
  intro i
  rw [Array.getElem?_setIfInBounds, rowA_size]
  by_cases hi : i < 64
  · rw [rowA_get _ hi]
    by_cases hk : k = i
    · subst hk; rw [if_pos rfl, if_pos hi, rowA_get _ hi]; simp
    · rw [if_neg hk, rowA_get _ hi, if_neg (fun e => hk e.symm)]
  · rw [Array.getElem?_eq_none (by rw [rowA_size]; omega), Array.getElem?_eq_none (by rw [rowA_size]; omega)]
    split <;> simp; omega
theorem tabA_get (n : Nat) (M : Nat → Nat → Bool) {i : Nat} (h : i < n * 64) : (tabA n M)[i]? = some (.bool (M (i / 64) (i % 64))) := by simp [tabA, tabL, h]
theorem at_div {b a : Nat} (ha : a < 64) : (b * 64 + a) / 64 = b ∧ (b * 64 + a) % 64 = a := by omega
theorem tabA_at (n : Nat) (M : Nat → Nat → Bool) {b a : Nat} (hb : b < n) (ha : a < 64) : (tabA n M)[b * 64 + a]? = some (.bool (M b a)) := by
  rw [tabA_get n M (by omega), (at_div ha).1, (at_div ha).2]
theorem tabA_congr {n : Nat} {M N : Nat → Nat → Bool} (h : ∀ b a, b < n → a < 64 → M b a = N b a) : tabA n M = tabA n N := by
  refine congrArg List.toArray (List.map_congr_left fun i hi => ?_)
  have := List.mem_range.1 hi
  rw [h _ _ (by omega) (by omega)]
def put (M : Nat → Nat → Bool) (b a : Nat) : Nat → Nat → Bool := fun x y => if x = b ∧ y = a then true else M x y
theorem tabA_set (n : Nat) (M : Nat → Nat → Bool) {b a : Nat} (ha : a < 64) : (tabA n M).setIfInBounds (b * 64 + a) (.bool true) = tabA n (put M b a) := by
  apply Array.ext_getElem?
  intro i
  rw [Array.getElem?_setIfInBounds, tabA_size]
  by_cases hi : i < n * 64
  · rw [tabA_get _ _ hi]
    by_cases hk : b * 64 + a = i
    · subst hk
      rw [if_pos rfl, if_pos hi, tabA_get _ _ hi, (at_div ha).1, (at_div ha).2]; simp [put]
    · rw [if_neg hk, tabA_get _ _ hi]; simp only [put]; rw [if_neg (fun e => hk (by omega))]
  · rw [Array.getElem?_eq_none (by rw [tabA_size]; omega), Array.getElem?_eq_none (by rw [tabA_size]; omega)]
    split <;> simp; omega
/-- A table whose block is known holds each of its rows. -/
theorem tab_row {W : World} {g n : Nat} {t : TypeId} {M : Nat → Nat → Bool} (h : BoxAt W g t (tabA n M)) {b : Nat} (hb : b < n) : W.rangeAt g (b * 64) (rowL (M b)) := by
  intro j v hj
  have hj64 : j < 64 := by
    have := (List.getElem?_eq_some_iff.1 hj).1
    rwa [rowL_len] at this
  rw [h.cell, tabA_at n M hb hj64, ← rowL_get (M b) hj64, hj]
theorem row_range {W : World} {g : Nat} {t : TypeId} {f : Nat → Bool} (h : BoxAt W g t (rowA f)) : W.rangeAt g 0 (rowL f) := by
  intro j v hj
  rw [Nat.zero_add, h.cell, rowA, List.getElem?_toArray, hj]

theorem boxR {w : World} {g : Nat} {t : TypeId} {cs cs' : Array Value} (h : BoxAt w g t cs) : BoxAt (w.setRow g cs') g t cs' := setRow_heap _ _ _ _ _ _ h
theorem boxRF {w : World} {g k : Nat} {t : TypeId} {cs cs' : Array Value} (h : BoxAt w g t cs) (hk : g ≠ k) : BoxAt (w.setRow k cs') g t cs := (setRow_other _ _ _ _ hk).trans h
theorem belowR {B k : Nat} {a w : World} {cs : Array Value} (h : Below B a w) (hk : B ≤ k) : Below B a (w.setRow k cs) :=
  h.trans ⟨rfl, rfl, rfl, by simp, fun j hj => setRow_other _ _ _ _ (by omega)⟩
def eqRow (f g : Nat → Bool) : Bool := (List.range 64).all fun i => f i == g i
theorem eqRow_iff {f g : Nat → Bool} : eqRow f g = true ↔ ∀ i, i < 64 → f i = g i := by
  simp [eqRow]
theorem part_row {P : Program} (e : TypeId) (f : Nat → Bool) (i : Nat) (hi : i < 64) (w : World) (he : P.underlying e = some .bool) : (part e (rowA f) i).run P w = .ok (.bool (f i)) w := by
  have h1 : (isAgg e).run P w = .ok false w := by
    unfold isAgg
    rw [Sem.run_bind, run_underlying he w]
    simp
  simp [part, Sem.run_bind, h1, rowA_get f hi]
theorem run_eqs {P : Program} (d : Nat) (e : TypeId) (f g : Nat → Bool) (w : World) (he : P.underlying e = some .bool) : ∀ (l : List Nat), (∀ i ∈ l, i < 64) →
    (Op.eqItems (d + 1) e 1 (rowA f) (rowA g) l).run P w = .ok (l.all fun i => f i == g i) w
  | [], _ => by simp [Op.eqItems]
  | i :: l, h => by
    have hi := h i (by simp)
    simp only [Op.eqItems, Nat.mul_one, Sem.run_bind, part_row e f i hi w he, part_row e g i hi w he, run_equalIn_bool w d e _ _ he, Result.andThen_ok, List.all_cons]
    cases hfg : (f i == g i)
    · simp
    · simpa using run_eqs d e f g w he l fun j hj => h j (by simp [hj])
theorem run_eql_row {P : Program} (t e : TypeId) (f g : Nat → Bool) (w : World) {i : TypeInfo} (hu : P.underlying t = some (.array 64 e)) (he : P.underlying e = some .bool) (hi : P.info? e = some i) (hc : P.cellsOf e = 1) :
    (Op.equalIn 10000 t (.agg (rowA f)) (.agg (rowA g))).run P w = .ok (eqRow f g) w := by
  rw [run_equalIn_array w 9999 _ _ hu hi, hc, run_eqs 9998 e f g w he _ fun j hj => List.mem_range.1 hj]
  rfl
end Go.Proofs.Ytdkgmjbhkifcbaa.Tab
