/-
  append of a list of structs of two numbers that can be read, onto a row of one's own, whatever the lengths are.
-/
import Derived.Test.YthodmmckekgkdaaCutOne
import Derived.Lib.AppendZeros
namespace Go.Proofs.Ythodmmckekgkdaa.Mem
open Go Go.RowKit
set_option maxRecDepth 100000

theorem run_append_none {P : Program} (w : World) (t ty e : TypeId) (i : TypeInfo) (ht : P.underlying t = some (.slice e)) (hi : P.info? e = some i) (base : Option Addr) (n cap : Nat) (h : n ≤ cap) (aa : Option Addr) (ca : Nat) :
    (Builtin.append_ #[t, t] ty #[.slice base n cap, .slice aa 0 ca]).run P w = .ok (.slice base n cap) w := by
  cases base <;> cases aa <;> simp [Builtin.append_, run_underlying ht, sizeOf, typeInfo, hi, Builtin.lenOf, Builtin.firstCells, storeCells, loadCells, loadCellsFrom, h]
theorem wpList_append_reads {P : Program} {w : World} {ops : Array Oper} {rest : List Oper} {o : Oper} {a : Act} {Q : Exit → Act → World → Prop} (hgd : o.guard = none) (s x : Operand) (t : TypeId)
    (ho : o.op = .call { callee := .builtin .append, args := #[s, x], argTypes := #[t, t] })
    (base : Nat) (e : TypeId) (i : TypeInfo) (z : Value) (bytes : Nat) (ht : P.underlying t = some (.slice e)) (hi : P.info? e = some i) (hz : i.zero = some z) (hsize : i.size = 2) (hby : i.bytes = bytes) (hzs : z.cells.size = 2)
    (v : Value) (n : Nat) (xs : List Value) (hs : a.eval s = v) (hown : w.ownsRow base e 2 v n xs)
    (aa : Option Addr) (c : Nat) (l : List PInt) (hx : a.eval x = .slice aa l.length c) (B : Nat) (hr : ReadsP w B (.slice aa l.length c) l)
    (h63 : n + l.length ≤ maxLen) (hbytes : (n + l.length) * bytes ≤ 140737488355328) (hbase : base ≤ w.heap.size)
    (h : ∀ v' w', w'.ownsRow base e 2 v' (n + l.length) (xs ++ prs l) → w.grownBy w' v.ownBlock → wpList P ops Q rest (a.put o.dst v') w') : wpList P ops Q (o :: rest) a w := by
  by_cases hl : l = []
  · subst hl
    have hx0 : a.eval x = .slice aa 0 c := hx
    have key : ∃ b cap, v = .slice b n cap ∧ n ≤ cap := by
      rcases hown.2 with ⟨rfl, rfl⟩ | ⟨g, cap, cur, rfl, _, _, hn, _⟩
      · exact ⟨none, 0, rfl, Nat.le_refl _⟩
      · exact ⟨_, cap, rfl, hn⟩
    obtain ⟨b, cap, rfl, hn⟩ := key
    refine Lib.wpList_append_run w hgd s x t t ho _ _ hs hx0 _ w (run_append_none w t o.type e i ht hi b n cap hn aa c) (h _ w ?_ ?_)
    · simpa [prs] using hown
    · exact ⟨rfl, rfl, rfl, Nat.le_refl _, fun _ _ _ => rfl⟩
  · obtain ⟨_, a', c', hv, hcells⟩ := hr
    injection hv with e1 e2 e3
    subst e1
    obtain ⟨b, o', rfl, h2, h3⟩ := hcells hl
    have hn := cut_news (q := 0) (m := l) h3 (fun j hj => ⟨by omega, by rw [Nat.zero_add]⟩)
    rw [Nat.zero_mul, Nat.add_zero] at hn
    exact wpList_append_own w hgd s x t ho base e i z 2 bytes ht hi hz hsize hby hzs (by decide) v n xs hs hown _ l.length c (prs l) hx (prs_length l) hn (prs_one l) h63 hbytes hbase fun v' w' h1 h2 _ => h v' w' h1 h2
end Go.Proofs.Ythodmmckekgkdaa.Mem
