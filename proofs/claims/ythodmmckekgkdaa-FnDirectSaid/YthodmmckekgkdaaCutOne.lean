/-
  A list of structs of two numbers without one of its elements, as 'append(append([]T{}, l[:k]...), l[k+1:]...)' makes it.
-/
import Derived.Test.YthodmmckekgkdaaPairs
import Derived.Test.YthodmmckekgkdaaMrg2
import Derived.Deep.RegionLaw
import Derived.Maps.AppendAt
namespace Go.Proofs.Ythodmmckekgkdaa.Mem
open Go Go.RowKit
set_option maxRecDepth 100000
attribute [local go_sem ↓] Go.wp_at_zero Go.wp_at_succ

/-- append onto a row of one's own that is not nil, in a region that draws: the new value written out. -/
theorem step_append_at {P : Program} {ops : Array Oper} {o : Oper} {a : Act} {w : World} {K : Act → World → Prop} {Q : Exit → Act → World → Prop} {E : Prop} (hgd : o.guard = none) (s x : Operand) (t : TypeId)
    (ho : o.op = .call { callee := .builtin .append, args := #[s, x], argTypes := #[t, t] })
    (base : Nat) (e : TypeId) (i : TypeInfo) (z : Value) (size bytes : Nat) (ht : P.underlying t = some (.slice e)) (hi : P.info? e = some i) (hz : i.zero = some z) (hsize : i.size = size) (hby : i.bytes = bytes) (hzs : z.cells.size = size) (hsz : 0 < size)
    (g0 c0 n : Nat) (xs : List Value) (hs : a.eval s = .slice (some ⟨g0, 0, none⟩) n c0) (hown : w.ownsRow base e size (.slice (some ⟨g0, 0, none⟩) n c0) n xs)
    (ad : Addr) (m c : Nat) (news : List Value) (hx : a.eval x = .slice (some ad) m c) (hl : news.length = m * size) (hnews : ∀ j u, news[j]? = some u → w.cell? (ad.add j) = some u) (h1 : ∀ u ∈ news, u.oneCell' = true)
    (h63 : n + m ≤ maxLen) (hbytes : (n + m) * bytes ≤ 140737488355328) (hbase : base ≤ w.heap.size)
    (h : ∀ g cap w', w'.ownsRow base e size (.slice (some ⟨g, 0, none⟩) (n + m) cap) (n + m) (xs ++ news) → w.grownBy w' (some g0) → K (a.put o.dst (.slice (some ⟨g, 0, none⟩) (n + m) cap)) w') :
    if Region.wanted o (yielded ops a.tmps) = true then Oper.wp P o a w K Q else E := by
  have hw : Region.wanted o (yielded ops a.tmps) = true := by simp [Region.wanted, hgd]
  rw [if_pos hw]
  obtain ⟨v', w', hr, h2, h3, h4, h5⟩ := run_append_own_at (P := P) w base t o.type e i z size bytes ht hi hz hsize hby hzs hsz _ n xs hown ad m c news hl hnews h1 h63 hbytes hbase
  have hne : v' ≠ .slice none 0 0 := fun hv => by have := (h4.1 hv).1; cases this
  rcases h2.2 with ⟨rfl, _⟩ | ⟨g, cap, cur, rfl, _⟩
  · exact absurd rfl hne
  · unfold Oper.wp execOp
    simp only [ho, resolve, invoke, builtin, Sem.run_bind, Sem.run_pure, Result.andThen_ok, List.map_toArray, List.map_cons, List.map_nil, hs, hx, hr]
    exact h g cap w' h2 h3
/-- What a cell of a row of pairs holds. -/
theorem prs_at : ∀ {l : List PInt} {i : Nat} {u : Value}, (prs l)[i]? = some u → ∃ j, j < l.length ∧ ((i = j * 2 ∧ u = .int .i64 (l.getD j (0, 0)).1) ∨ (i = j * 2 + 1 ∧ u = .int .i64 (l.getD j (0, 0)).2))
  | [], i, u, h => by simp [prs] at h
  | p :: l, 0, u, h => ⟨0, by simp, .inl ⟨rfl, by simp [prs] at h; simp [h]⟩⟩
  | p :: l, 1, u, h => ⟨0, by simp, .inr ⟨rfl, by simp [prs] at h; simp [h]⟩⟩
  | p :: l, i + 2, u, h => by
    have e : prs (p :: l) = .int .i64 p.1 :: .int .i64 p.2 :: prs l := rfl
    rw [e] at h
    obtain ⟨j, hj, h2⟩ := prs_at (l := l) (i := i) (u := u) (by simpa using h)
    refine ⟨j + 1, by simpa using hj, ?_⟩
    rcases h2 with ⟨h3, h4⟩ | ⟨h3, h4⟩
    · exact .inl ⟨by omega, by simpa using h4⟩
    · exact .inr ⟨by omega, by simpa using h4⟩
/-- The cells of a list of pairs from its element q on, up to its element r. -/
theorem cut_news {w : World} {b o q : Nat} {l m : List PInt} (hc : ∀ j, j < l.length → w.cell? ⟨b, o + j * 2, none⟩ = some (.int .i64 (l.getD j (0, 0)).1) ∧ w.cell? ⟨b, o + j * 2 + 1, none⟩ = some (.int .i64 (l.getD j (0, 0)).2))
    (hm : ∀ j, j < m.length → q + j < l.length ∧ l.getD (q + j) (0, 0) = m.getD j (0, 0)) : ∀ (j : Nat) (u : Value), (prs m)[j]? = some u → w.cell? ((⟨b, o + q * 2, none⟩ : Addr).add j) = some u := by
  intro i u hu
  obtain ⟨j, hj, h2⟩ := prs_at hu
  obtain ⟨h3, h4⟩ := hm j hj
  have hcj := hc (q + j) h3
  rw [h4] at hcj
  rw [Go.WideShapes.add_plain]
  rcases h2 with ⟨rfl, rfl⟩ | ⟨rfl, rfl⟩
  · rw [show o + q * 2 + j * 2 = o + (q + j) * 2 by omega]; exact hcj.1
  · rw [show o + q * 2 + (j * 2 + 1) = o + (q + j) * 2 + 1 by omega]; exact hcj.2
theorem prs_one (l : List PInt) : ∀ u ∈ prs l, u.oneCell' = true := by
  intro u hu
  simp only [prs, List.mem_flatMap] at hu
  obtain ⟨p, -, hp⟩ := hu
  simp at hp
  rcases hp with rfl | rfl <;> rfl
theorem take_at {l : List PInt} {k : Nat} (hk : k ≤ l.length) : ∀ j, j < (l.take k).length → 0 + j < l.length ∧ l.getD (0 + j) (0, 0) = (l.take k).getD j (0, 0) := by
  intro j hj
  have h2 : j < k := by simp at hj; omega
  refine ⟨by omega, ?_⟩
  rw [Nat.zero_add, List.getD_eq_getElem?_getD, List.getD_eq_getElem?_getD, List.getElem?_take, if_pos h2]
theorem drop_at {l : List PInt} {q : Nat} : ∀ j, j < (l.drop q).length → q + j < l.length ∧ l.getD (q + j) (0, 0) = (l.drop q).getD j (0, 0) := by
  intro j hj
  refine ⟨by simp at hj; omega, ?_⟩
  rw [List.getD_eq_getElem?_getD, List.getD_eq_getElem?_getD, List.getElem?_drop]
/-- The cells of a list behind a world that has only grown. -/
theorem cells_grown {w w' : World} {b o n : Nat} {f : Nat → PInt} {r : Option Nat} (hc : ∀ j, j < n → w.cell? ⟨b, o + j * 2, none⟩ = some (.int .i64 (f j).1) ∧ w.cell? ⟨b, o + j * 2 + 1, none⟩ = some (.int .i64 (f j).2)) (hg : w.grownBy w' r) (hb : b < w.heap.size) (hne : r ≠ some b) :
    ∀ j, j < n → w'.cell? ⟨b, o + j * 2, none⟩ = some (.int .i64 (f j).1) ∧ w'.cell? ⟨b, o + j * 2 + 1, none⟩ = some (.int .i64 (f j).2) := by
  have h : w'.heap[b]? = w.heap[b]? := hg.block b hb (fun e => hne e.symm)
  intro j hj
  have := hc j hj
  simp only [World.cell?] at this ⊢
  rw [h]; exact this
end Go.Proofs.Ythodmmckekgkdaa.Mem
