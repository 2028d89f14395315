/-
  Chapter 6 of the model: below, exists, the place of an intent, in order, the covers.
-/
import Derived.Test.YtdkgmjbhkifcbaaLat6
namespace Go.Proofs.Ytdkgmjbhkifcbaa.Tab
open Go Go.RowKit Mem Sets Ctx
set_option maxRecDepth 100000

def und' (l : List PInt) (x y : Nat) : Bool := subB (ex l x) (ex l y)
theorem under_ (p q : PInt) (w : World) :
    Calls Try.prog 116 #[conc p, conc q] w fun e w' => e = .returned (.bool (subB p.1 q.1)) ∧ Below w.heap.size w w' := by
  have c0 : ((w.alloc (.cells #[.int .i64 p.1, .int .i64 p.2] 38)).alloc (.cells #[.int .i64 q.1, .int .i64 q.2] 38)).cell? ⟨w.heap.size, 0, none⟩ = some (.int .i64 p.1) := by simp
  have hb := ((Below.refl w.heap.size w).alloc (Nat.le_refl _) (.cells #[.int .i64 p.1, .int .i64 p.2] 38)).alloc (by simp) (.cells #[.int .i64 q.1, .int .i64 q.2] 38)
  obtain ⟨b, hbv⟩ : ∃ b, (bits .and .i64 p.1 q.1 == p.1) = b := ⟨_, rfl⟩
  have HV : Hid (subB p.1 q.1 = b) := Lib.hid hbv
  go_enter Try.func116, Try.ntmps116
  go_wp2_with fail
  go_ret
  exact ⟨by rw [HV.out, ← hbv]; rfl, hb⟩
theorem exists_ (aa : Option Addr) (n c : Nat) (k : Int) (w : World) (hn : n ≤ 256) :
    Calls Try.prog 113 #[.slice aa n c, .int .i64 k] w fun e w' => e = .returned (.bool (decide (0 ≤ k) && decide (k < n))) ∧ w' = w := by
  have H := Lib.hid (l1In k 0 ((n : Int) - 1) w)
  go_enter Try.func113, Try.ntmps113
  go_wp2_with fail
  refine H.out.mono ?_
  rintro e w' ⟨rfl, rfl⟩
  go_wp2_with fail
  go_ret
  exact ⟨by rw [show decide (k < (n : Int)) = decide (k ≤ (n : Int) - 1) from decide_eq_decide.2 (by omega)]; rfl, rfl⟩
/-- The first concept from k on with this intent. -/
def atFrom (l : List PInt) (s : Int) (k : Nat) : Nat → Int
  | 0 => -1
  | r + 1 => if (l.getD k (0, 0)).2 = s then (k : Int) else atFrom l s (k + 1) r
theorem at_ (v : Value) (l : List PInt) (s : Int) (B : Nat) (w : World) (hr : ReadsP w B v l) (hn : l.length ≤ 256) :
    Calls Try.prog 114 #[v, .int .i64 s] w fun e w' => e = .returned (.int .i64 (atFrom l s 0 l.length)) ∧ w' = w := by
  obtain ⟨aa, ca, rfl⟩ := hr.form
  have HR := Lib.hid hr
  clear hr
  obtain ⟨n, hl⟩ : ∃ n, l.length = n := ⟨_, rfl⟩
  have HN := Lib.hid hl
  rw [hl] at hn ⊢
  clear hl
  go_enter Try.func114, Try.ntmps114
  go_wp2_with fail
  go_loopw [5] (fun i wr => ∃ k : Nat, i = .int .i64 k ∧ k ≤ n ∧ Hid (atFrom l s 0 n = atFrom l s k (n - k)) ∧ wr = w) (fun i _ => n - (intOf i).toNat)
  case atStart => exact ⟨0, rfl, by omega, Lib.hid rfl, rfl⟩
  case round =>
    obtain ⟨k, rfl, hk, hs, rfl⟩ := hrel
    by_cases hkn : k < n
    · have hs2 := hs.out
      rw [show n - k = (n - (k + 1)) + 1 by omega, atFrom] at hs2
      have HS2 := Lib.hid hs2
      obtain ⟨-, a', c', hform, hcells⟩ := HR.out
      obtain ⟨e1, -, -⟩ := Value.slice.inj hform
      subst e1
      clear hform hs2 hs
      obtain ⟨bk, of, rfl, hbk, hcl⟩ := hcells (fun e => by have := HN.out; rw [e] at this; simp at this; omega)
      obtain ⟨-, c1⟩ := hcl k (by rw [HN.out]; exact hkn)
      clear hcells hcl
      generalize (l.getD k (0, 0)).2 = y at c1 HS2
      by_cases hy : y = s
      · have he : (y == s) = true := by simp [hy]
        have HX : Hid (atFrom l s 0 n = k) := Lib.hid (by rw [HS2.out, if_pos hy])
        clear hy
        go_wp2_with fail
        go_ret
        exact ⟨by rw [HX.out]; rfl, rfl⟩
      · have he : (y == s) = false := by simp [hy]
        have HX : Hid (atFrom l s 0 n = atFrom l s (k + 1) (n - (k + 1))) := Lib.hid (by rw [HS2.out, if_neg hy])
        clear hy
        go_wp2_with fail
        go_roundw
        case rel => exact ⟨k + 1, by simp, by omega, HX, trivial⟩
        case measure => simp only [intOf]; omega
    · have hkn2 : k = n := by omega
      subst hkn2
      go_wp2_with fail
      go_ret
      exact ⟨by rw [hs.out]; simp [atFrom], rfl⟩
def srt (l : List PInt) (up : Bool) (i j : Nat) : Bool := if up = true then und' l i j else und' l j i
theorem sorted_ (v : Value) (l : List PInt) (i j : Nat) (up : Bool) (B : Nat) (w : World) (hr : ReadsP w B v l) (hB : B ≤ w.heap.size) (_hn : l.length ≤ 256) (hi : i < l.length) (hj : j < l.length) :
    Calls Try.prog 130 #[v, .int .i64 i, .int .i64 j, .bool up] w fun e w' => e = .returned (.bool (srt l up i j)) ∧ Below w.heap.size w w' := by
  obtain ⟨-, aa, ca, rfl, hcells⟩ := hr
  obtain ⟨bk, of, rfl, hbk, hcl⟩ := hcells (fun e => by rw [e] at hi; simp at hi)
  obtain ⟨i0, i1⟩ := hcl i hi
  obtain ⟨j0, j1⟩ := hcl j hj
  have H1 := Lib.hid fun p : Past w => p.of (under_ (l.getD i (0, 0)) (l.getD j (0, 0)) p.w)
  have H2 := Lib.hid fun p : Past w => p.of (under_ (l.getD j (0, 0)) (l.getD i (0, 0)) p.w)
  have HV1 : Hid (subB (l.getD i (0, 0)).1 (l.getD j (0, 0)).1 = srt l true i j) := Lib.hid rfl
  have HV2 : Hid (subB (l.getD j (0, 0)).1 (l.getD i (0, 0)).1 = srt l false i j) := Lib.hid rfl
  rw [HV1.out] at H1
  rw [HV2.out] at H2
  clear hcl hcells
  have g0 := fun p : Past w => Past.cell i0 (by show bk < _; omega) p
  have g1 := fun p : Past w => Past.cell i1 (by show bk < _; omega) p
  have g2 := fun p : Past w => Past.cell j0 (by show bk < _; omega) p
  have g3 := fun p : Past w => Past.cell j1 (by show bk < _; omega) p
  clear i0 i1 j0 j1 HV1 HV2
  generalize hln : l.length = n at hi hj _hn
  clear hln
  generalize l.getD i (0, 0) = pi at *
  generalize l.getD j (0, 0) = pj at *
  go_enter Try.func130, Try.ntmps130
  cases up with
  | true =>
    go_wp2_with fail
    refine wp_region_past (by kernel_rfl) (by kernel_rfl) ?_
    repeat (go_big_quiet_step (with_reducible exact H1.out _))
    refine wpQuiet_nil ?_
    rintro _ ⟨p, rfl⟩
    have hbb := p.h
    go_wp2_with fail
    go_ret
    exact ⟨rfl, hbb⟩
  | false =>
    go_wp2_with fail
    refine wp_region_past (by kernel_rfl) (by kernel_rfl) ?_
    repeat (go_big_quiet_step (with_reducible exact H2.out _))
    refine wpQuiet_nil ?_
    rintro _ ⟨p, rfl⟩
    have hbb := p.h
    go_wp2_with fail
    go_ret
    exact ⟨rfl, hbb⟩
end Go.Proofs.Ytdkgmjbhkifcbaa.Tab
