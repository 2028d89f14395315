/-
  The laws' own helper: whether two lists of rules are the same.
-/
import Derived.Test.YthodmmckekgkdaaMrg2
import Derived.Test.YthodmmckekgkdaaPairs
import Derived.Test.YthodmmckekgkdaaRuleS
import Derived.Laws.StructEq
namespace Go.Proofs.Ythodmmckekgkdaa.Mem
open Go Go.RowKit Ctx
set_option maxRecDepth 100000

theorem neqSelfR (x y : Int) (w : World) : (binOp .neq 43 (.agg #[.int .i64 x, .int .i64 y]) (.agg #[.int .i64 x, .int .i64 y])).run Try.prog w = .ok (.bool false) w := by
  rw [run_neq_struct, run_equalIn_agg w 9999 43 _ _ (by kernel_rfl) (by kernel_rfl)]
  have hf : (Try.prog.fieldsOf 43).toList.map (fun f => (f.name != "_", f.type, f.offset)) = [(true, 3, 0), (true, 3, 1)] := by kernel_rfl
  generalize (Try.prog.fieldsOf 43).toList = fs at hf
  rcases fs with _ | ⟨f, _ | ⟨g, _ | _⟩⟩
  · simp at hf
  · simp at hf
  · simp only [List.map_cons, List.map_nil, List.cons.injEq, Prod.mk.injEq, and_true] at hf
    obtain ⟨⟨h1, h2, h3⟩, h4, h5, h6⟩ := hf
    have h1' : f.name ≠ "_" := by simpa using h1
    have h4' : g.name ≠ "_" := by simpa using h4
    simp only [Op.eqFields, if_pos h1', if_pos h4', h2, h3, h5, h6]
    simp [go_sem]
  · simp at hf
set_option maxHeartbeats 1600000 in
theorem sameR (va vb : Value) (l : List PInt) (Ba Bb : Nat) (w : World) (ha : ReadsP w Ba va l) (hb : ReadsP w Bb vb l) (hBa : Ba ≤ w.heap.size) (hBb : Bb ≤ w.heap.size) (hm : l.length ≤ 1048576) :
    Calls Try.prog 16 #[va, vb] w fun e w' => e = .returned (.bool true) ∧ Below w.heap.size w w' := by
  obtain ⟨-, aa, ca, rfl, hca⟩ := ha
  obtain ⟨-, ab, cb, rfl, hcb⟩ := hb
  have HA := Lib.hid hca
  have HB := Lib.hid hcb
  clear hca hcb
  obtain ⟨n, hn⟩ : ∃ n, l.length = n := ⟨_, rfl⟩
  rw [hn] at HA HB hm ⊢
  have HN := Lib.hid hn
  clear hn
  have hq : ((n : Int) != (n : Int)) = false := by simp
  go_enter Try.func16, Try.ntmps16
  go_wp2_with fail
  go_loopw [5] (fun i wr => ∃ k : Nat, i = .int .i64 k ∧ k ≤ n ∧ Hid (Below w.heap.size w wr)) (fun i _ => n - (intOf i).toNat)
  case atStart => exact ⟨0, rfl, by omega, Lib.hid (Below.refl _ _)⟩
  case round =>
    obtain ⟨k, rfl, hk, hb⟩ := hrel
    by_cases hkn : k < n
    · have hne : l ≠ [] := fun e => by have h1 := congrArg List.length e; have h2 := HN.out; simp at h1; rw [h1] at h2; simp at h2; omega
      obtain ⟨b1, o1, rfl, hlt1, hc1⟩ := HA.out hne
      obtain ⟨b2, o2, rfl, hlt2, hc2⟩ := HB.out hne
      obtain ⟨a1, a2⟩ := hc1 k hkn
      obtain ⟨d1, d2⟩ := hc2 k hkn
      have a1 := (hb.out.cell (p := ⟨b1, o1 + k * 2, none⟩) (by show b1 < _; omega)).trans a1
      have a2 := (hb.out.cell (p := ⟨b1, o1 + k * 2 + 1, none⟩) (by show b1 < _; omega)).trans a2
      have d1 := (hb.out.cell (p := ⟨b2, o2 + k * 2, none⟩) (by show b2 < _; omega)).trans d1
      have d2 := (hb.out.cell (p := ⟨b2, o2 + k * 2 + 1, none⟩) (by show b2 < _; omega)).trans d2
      have hzr := hb.out.size
      generalize (l.getD k (0, 0)).1 = x at a1 d1
      generalize (l.getD k (0, 0)).2 = y at a2 d2
      have q1 := fun p : Past wr => Past.cell (W := wr) a1 (show b1 < wr.heap.size by omega) p
      have q2 := fun p : Past wr => Past.cell (W := wr) a2 (show b1 < wr.heap.size by omega) p
      have q3 := fun p : Past wr => Past.cell (W := wr) d1 (show b2 < wr.heap.size by omega) p
      have q4 := fun p : Past wr => Past.cell (W := wr) d2 (show b2 < wr.heap.size by omega) p
      have hy := neqSelfR x y
      clear a1 a2 d1 d2 hne hc1 hc2
      go_wp2_with fail
      refine wp_region_past (by kernel_rfl) (by kernel_rfl) ?_
      repeat (go_big_quiet_step (fail))
      refine wpQuiet_nil ?_
      rintro _ ⟨p, rfl⟩
      have hbb := Lib.hid (hb.out.trans (p.h.mono hzr))
      go_wp2_with fail
      exact ⟨⟨k + 1, by simp, by omega, hbb⟩, by simp only [intOf]; omega⟩
    · have hkn2 : k = n := by omega
      subst hkn2
      go_wp2_with fail
      go_ret
      exact ⟨rfl, hb.out⟩
end Go.Proofs.Ythodmmckekgkdaa.Mem
