/-
  Chapter 3's functions that make a context, one contract each, of the program and of the model: DualContext, ComplementContext.
-/
import Derived.Test.YthodmmckekgkdaaCol
import Derived.Deep.AppendLies
import Derived.Deep.RegionLaw
import Derived.Deep.DrawnRows
import Derived.Deep.RegionHeld3
import Derived.Deep.DeepCutAuto
namespace Go.Proofs.Ythodmmckekgkdaa.Ctx
open Go Go.RowKit Mem Sets
set_option maxRecDepth 100000
attribute [local go_sem ↓] Go.wp_at_zero Go.wp_at_succ

/-- Block g holds just the cells cs. -/
def BoxAt (w : World) (g : Nat) (t : TypeId) (cs : Array Value) : Prop := w.heap[g]? = some (.cells cs t (0, 0))
theorem BoxAt.lt {w : World} {g : Nat} {t : TypeId} {cs : Array Value} (h : BoxAt w g t cs) : g < w.heap.size := by
  rcases Nat.lt_or_ge g w.heap.size with hlt | hge
  · exact hlt
  · unfold BoxAt at h; rw [Array.getElem?_eq_none hge] at h; cases h
theorem BoxAt.cell {w : World} {g : Nat} {t : TypeId} {cs : Array Value} (h : BoxAt w g t cs) (i : Nat) : w.cell? ⟨g, i, none⟩ = cs[i]? := cell_of_row w g i cs t (0, 0) h
theorem BoxAt.free {w : World} {g : Nat} {t : TypeId} {cs : Array Value} (h : BoxAt w g t cs) (i : Nat) : w.frozen? ⟨g, i, none⟩ = false := by
  unfold BoxAt at h
  simp [World.frozen?, h]
theorem BoxAt.new (w : World) (t : TypeId) (cs : Array Value) : BoxAt (w.alloc (.cells cs t)) w.heap.size t cs := heap_alloc_new w _
theorem BoxAt.below {w w' : World} {g B : Nat} {t : TypeId} {cs : Array Value} (h : BoxAt w g t cs) (hb : Below B w w') (hg : g < B) : BoxAt w' g t cs := (hb.block g hg).trans h
theorem BoxAt.alloc {w : World} {g : Nat} {t : TypeId} {cs : Array Value} (h : BoxAt w g t cs) (o : Obj) : BoxAt (w.alloc o) g t cs := (Below.heap_alloc w o g h.lt).trans h
theorem BoxAt.drew {w : World} {g : Nat} {t : TypeId} {cs : Array Value} (h : BoxAt w g t cs) : BoxAt w.drew g t cs := h
theorem BoxAt.far {w : World} {g : Nat} {t : TypeId} {cs : Array Value} (h : BoxAt w g t cs) {p : Addr} (hp : g ≠ p.block) (u : Value) : BoxAt (w.setCell p u) g t cs := (Below.heap_setCell w p u g hp).trans h
theorem BoxAt.grown {w w' : World} {g : Nat} {t : TypeId} {cs : Array Value} {row : Option Nat} (h : BoxAt w g t cs) (hb : w.grownBy w' row) (hg : some g ≠ row) : BoxAt w' g t cs := (hb.block g h.lt hg).trans h
theorem BoxAt.set {w : World} {g : Nat} {t : TypeId} {cs : Array Value} (h : BoxAt w g t cs) (i : Nat) (u : Value) : BoxAt (w.setCell ⟨g, i, none⟩ u) g t (cs.setIfInBounds i u) := by
  unfold BoxAt at h ⊢
  simp [World.setCell, Array.getElem?_modify, h]

/-- What a call that hands back a context and a bool leaves. -/
def CtxRes (x : Option (Int × List Int)) (w : World) (e : Ending) (w' : World) : Prop :=
  ∃ u, e = .returned (.tuple #[ctx (x.getD (0, [])).1 u, .bool x.isSome]) ∧ Own 3 w' w.heap.size w'.heap.size u (ints (x.getD (0, [])).2) ∧ Below w.heap.size w w'
theorem ctxRes_none {x : Option (Int × List Int)} (hx : x = none) {w w' : World} (h : Below w.heap.size w w') : CtxRes x w (.returned (.tuple #[ctx 0 (.slice none 0 0), .bool false])) w' := by
  subst hx
  exact ⟨_, rfl, Own.made (World.ownsRow_nil _ _ _ _), h⟩
theorem ctxRes_some {x : Option (Int × List Int)} {n : Int} {xs : List Int} (hx : x = some (n, xs)) {w w' : World} {u : Value} (ho : Own 3 w' w.heap.size w'.heap.size u (ints xs)) (h : Below w.heap.size w w') :
    CtxRes x w (.returned (.tuple #[ctx n u, .bool true])) w' := by
  subst hx
  exact ⟨u, rfl, ho, h⟩
theorem owns_form {w : World} {B n : Nat} {e : TypeId} {v : Value} {cs : List Value} (h : w.ownsRow B e 1 v n cs) : ∃ a c, v = .slice a n c := by
  rcases h.2 with ⟨rfl, h2⟩ | ⟨g, cap, cur, rfl, _⟩
  · exact ⟨none, 0, by rw [h2]⟩
  · exact ⟨_, _, rfl⟩

theorem keep3 {w w' : World} {B : Nat} {p q r : Addr} {x y z : Value} (hb : Below B w w') (h : w.cell? p = some x ∧ w.cell? q = some y ∧ w.cell? r = some z ∧ w.frozen? r = false) (hp : p.block < B) (hq : q.block < B) (hr : r.block < B) :
    w'.cell? p = some x ∧ w'.cell? q = some y ∧ w'.cell? r = some z ∧ w'.frozen? r = false :=
  ⟨(hb.cell hp).trans h.1, (hb.cell hq).trans h.2.1, (hb.cell hr).trans h.2.2.1, (hb.frozen hr).trans h.2.2.2⟩
theorem owns_below {e : TypeId} {w w' : World} {lo n : Nat} {v : Value} {cs : List Value} (h : w.ownsRow lo e 1 v n cs) (hb : Below w.heap.size w w') : w'.ownsRow lo e 1 v n cs :=
  ownsRow_same h fun k hk => hb.block k (h.lt k hk).2
theorem news1 (w : World) (x : Value) (t : TypeId) : ∀ (j : Nat) (u : Value), [x][j]? = some u → (w.alloc (.cells #[x] t)).cell? ((⟨w.heap.size, 0, none⟩ : Addr).add j) = some u := by
  intro j u hj
  match j, hj with
  | 0, hj => simp at hj; subst hj; simp [Addr.add]
theorem one1 (k : IntKind) (x : Int) : ∀ u ∈ [Value.int k x], u.oneCell' = true := by intro u hu; simp at hu; subst hu; rfl
def dualTo (rs : List Int) (k : Nat) : List Int := (List.range k).map fun m : Nat => ((colTo rs m rs.length : Nat) : Int)
theorem dualTo_step (rs : List Int) (k : Nat) : dualTo rs (k + 1) = dualTo rs k ++ [((colTo rs k rs.length : Nat) : Int)] := by simp [dualTo, List.range_succ]
theorem dualTo_length (rs : List Int) (k : Nat) : (dualTo rs k).length = k := by simp [dualTo]
def dual (a : Int) (rs : List Int) : Option (Int × List Int) := if isCtx a rs = true ∧ rs.length ≤ 6 then some ((rs.length : Int), dualTo rs a.toNat) else none

theorem set_step (xs : List Int) (ys : List Value) (k : Nat) (x : Int) (hx : xs.length = k) (hk : k < ys.length) : (ints xs ++ ys.drop k).set k (.int .i64 x) = ints (xs ++ [x]) ++ ys.drop (k + 1) := by
  rw [List.set_append_right _ _ (by simp [ints, hx]), List.drop_eq_getElem_cons hk]
  simp only [ints, List.length_map, hx, Nat.sub_self, List.set_cons_zero, List.map_append, List.map_cons, List.map_nil, List.append_assoc, List.singleton_append]
theorem keepq' {w w' : World} {B : Nat} {p q : Addr} {x y : Value} (hb : Below B w w') (h : w.cell? p = some x ∧ w.cell? q = some y) (hp : p.block < B) (hq : q.block < B) :
    w'.cell? p = some x ∧ w'.cell? q = some y := ⟨(hb.cell hp).trans h.1, (hb.cell hq).trans h.2⟩
end Go.Proofs.Ythodmmckekgkdaa.Ctx
