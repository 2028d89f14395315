/-
  Draws of a context with numbers that depend on its concepts.
-/
import Derived.Test.YtdkgmjbhkifcbaaPastC
namespace Go.Proofs.Ytdkgmjbhkifcbaa.Draw
open Go Go.RowKit Mem Sets Elems Text Strs Ctx
set_option maxRecDepth 100000

set_option maxHeartbeats 1600000 in
theorem l6Two (v : Value) (xs : List Int) (B : Nat) (w : World) (hr : Reads w B v (u8s xs)) (hB : B ≤ w.heap.size) (hx : ∀ j, j < xs.length → 0 ≤ xs.getD j 0 ∧ xs.getD j 0 ≤ 255) (hn : xs.length ≤ 1048576) :
    Calls Try.prog 107 #[v] w fun e w' => ∃ (a x y : Int) (u : Value) (rs : List Int), e = .returned (.tuple #[ctx a u, .int .i64 x, .int .i64 y]) ∧ rs.length ≤ 9 ∧ Own 3 w' w.heap.size w'.heap.size u (ints rs) ∧ Below w.heap.size w w' := by
  have HN := Lib.hid (newCur v xs B (w.alloc (.cells #[.int .i64 0, .slice none 0 0] 26)) (hr.below ((Below.refl w.heap.size w).alloc (Nat.le_refl _) _) hB) (by simp; omega) hx hn)
  obtain ⟨_, aa, ca, rfl, hca⟩ := hr
  have e0 : (u8s xs).length = xs.length := by simp [u8s]
  rw [e0] at HN ⊢
  clear hca hx e0
  go_enter Try.func107, Try.ntmps107
  go_wp2_with fail
  refine HN.out.mono ?_
  rintro e w1 ⟨p, rfl, hp, c1, hz, b1⟩
  have hp' : w.heap.size + 1 ≤ p := by simpa using hp
  have hz1 : w.heap.size + 2 ≤ w1.heap.size := by simpa using hz
  have hpl := c1.lt
  have R1 := Lib.hid ((BoxAt.new w 26 #[.int .i64 0, .slice none 0 0]).below b1 (by simp))
  have B1 := Lib.hid (((Below.refl w.heap.size w).alloc (Nat.le_refl _) (.cells #[.int .i64 0, .slice none 0 0] 26)).trans (b1.mono (by simp)))
  clear b1 hp hz HN
  go_wp2_with fail
  refine (l3Bent B p _ c1).mono ?_
  rintro e w2 ⟨a, u, rs, rfl, -, -, hl9, o, c2, a2⟩
  obtain ⟨av, cv, rfl⟩ := own_form o
  have hz2 := a2.size
  have R2 := ((boxA R1.out a2 (.inl (by omega))).alloc (.cells #[.int .i64 a, .slice av rs.length cv] 26))
  have B2 := Lib.hid ((B1.out.trans (a2.below (B := w.heap.size) (by omega) (by omega))).alloc (by omega : w.heap.size ≤ w2.heap.size) (.cells #[.int .i64 a, .slice av rs.length cv] 26))
  have G2 := BoxAt.new w2 26 #[.int .i64 a, .slice av rs.length cv]
  have O2 := Lib.hid (o.below ((Below.refl w2.heap.size w2).alloc (Nat.le_refl _) (.cells #[.int .i64 a, .slice av rs.length cv] 26)) (Nat.le_refl _))
  have C2 := c2.alloc (.cells #[.int .i64 a, .slice av rs.length cv] 26)
  have hg0 : w2.heap.size < (w2.alloc (.cells #[.int .i64 a, .slice av rs.length cv] 26)).heap.size := by simp
  clear o c2 a2 c1
  have HL9 := Lib.hid hl9
  clear hl9
  go_upto_region 3 with fail
  generalize w2.alloc (.cells #[.int .i64 a, .slice av rs.length cv] 26) = W at R2 B2 G2 O2 C2 hg0 ⊢
  obtain ⟨g, hg⟩ : ∃ g, w2.heap.size = g := ⟨_, rfl⟩
  rw [hg] at G2 O2 hg0 hz2 ⊢
  clear hg
  have HC := Lib.hid (spec_concepts a (.slice av rs.length cv) rs g W O2.out.reads (by omega))
  have h256 := concepts_len a rs
  generalize concepts a rs = l at HC h256
  obtain ⟨n, hn'⟩ : ∃ n, rs.length = n := ⟨_, rfl⟩
  have HNN := Lib.hid hn'
  rw [hn'] at G2 O2 HC ⊢
  clear hn'
  have q0 := G2.cell 0
  have q1 := G2.cell 1
  have s0 := R2.cell 0
  have s1 := R2.cell 1
  have f0 := R2.free 0
  have f1 := R2.free 1
  simp only [List.getElem?_toArray, List.getElem?_cons_zero, List.getElem?_cons_succ] at q0 q1 s0 s1
  have k0 := fun z : PastC W B p => PastC.cell q0 (by show g < _; omega) (by show g ≠ p; omega) z
  have k1 := fun z : PastC W B p => PastC.cell q1 (by show g < _; omega) (by show g ≠ p; omega) z
  have t0 := fun z : PastC W B p => PastC.cell s0 (by show w.heap.size < _; omega) (by show w.heap.size ≠ p; omega) z
  have t1 := fun z : PastC W B p => PastC.cell s1 (by show w.heap.size < _; omega) (by show w.heap.size ≠ p; omega) z
  have v0 := fun z : PastC W B p => PastC.free f0 (by show w.heap.size < _; omega) (by show w.heap.size ≠ p; omega) z
  have v1 := fun z : PastC W B p => PastC.free f1 (by show w.heap.size < _; omega) (by show w.heap.size ≠ p; omega) z
  go_wp2_with fail
  refine HC.out.mono ?_
  rintro e w3 ⟨u3, rfl, o3, b3⟩
  obtain ⟨ap, cp, rfl⟩ := o3.form
  obtain ⟨z3, rfl⟩ := (PastC.start C2).below b3
  obtain ⟨m, hm⟩ : ∃ m, l.length = m := ⟨_, rfl⟩
  rw [hm] at h256 ⊢
  clear o3 b3 hm q0 q1 s0 s1 f0 f1 HC
  have HB3 := Lib.hid (l1BelowC (m + 1 + 1) z3 (by omega) (by omega))
  go_wp2_with fail
  refine HB3.out.mono ?_
  rintro e w4 ⟨x4, rfl, hx4, z4, rfl⟩
  clear HB3
  have hcast : ((m + 1 + 1 : Nat) : Int) = (m : Int) + 1 + 1 := by omega
  have hb4 := l1BelowC (m + 1 + 1) z4.drew (by omega) (by omega)
  rw [hcast, show z4.drew.w = z4.w.drew from rfl] at hb4
  have HB4 := Lib.hid hb4
  have hb5 := l1Below B p (m + 1 + 1) ((z4.w.drew.setCell ⟨w.heap.size, 0, none⟩ (.int .i64 a)).setCell ⟨w.heap.size, 1, none⟩ (.slice av n cv)) (curSet2 (curSet2 z4.drew.c (q := ⟨w.heap.size, 0, none⟩) hp' hB _) (q := ⟨w.heap.size, 1, none⟩) hp' hB _) (by omega) (by omega)
  rw [hcast] at hb5
  have HB5 := Lib.hid hb5
  have hwr : IntKind.i64.wrap ((m : Int) + 1 + 1) = (m : Int) + 1 + 1 := by rw [IntKind.wrap_i64]; omega
  have hws : ∀ x : Nat, x < m + 1 + 1 → IntKind.i64.wrap ((x : Int) - 1) = (x : Int) - 1 := fun x hx => by rw [IntKind.wrap_i64]; omega
  clear hb4 hb5 hcast
  go_wp2_with fail
  go_region_with ((go_at_call 98; first | (with_reducible refine HB4.out.mono ?_; rintro e w5 ⟨x5, rfl, hx5, z5, rfl⟩) | (with_reducible refine HB5.out.mono ?_; rintro e w5 ⟨x5, rfl, hx5, c5, a5⟩)))
  all_goals have O5 := Lib.hid (O2.out.apart z5.a (.inr (by omega)))
  all_goals have B5 := Lib.hid (B2.out.trans (z5.a.below (B := w.heap.size) (by omega) (by omega)))
  all_goals have hz5 := z5.size
  all_goals go_wp2_with fail
  all_goals refine bodyPost_ret (v := .tuple #[ctx a (.slice av n cv), .int .i64 ((x4 : Int) - 1), .int .i64 ((x5 : Int) - 1)]) (by simp [results, Try.results107, go_sem, t0, t1]) rfl ⟨a, (x4 : Int) - 1, (x5 : Int) - 1, _, rs, rfl, HL9.out, ?_, ((B5.out.setCell (p := ⟨w.heap.size, 0, none⟩) (Nat.le_refl _) _).setCell (p := ⟨w.heap.size, 1, none⟩) (Nat.le_refl _) _)⟩
  all_goals exact (own_setB (own_setB O5.out (q := ⟨w.heap.size, 0, none⟩) (.inl (by show w.heap.size < _; omega)) _) (q := ⟨w.heap.size, 1, none⟩) (.inl (by show w.heap.size < _; omega)) _).mono (by omega) (by first | (simp; done) | (simp; omega))
theorem DrawMeetOf (v : Value) (xs : List Int) (B : Nat) (w : World) (hr : Reads w B v (u8s xs)) (hB : B ≤ w.heap.size) (hx : ∀ j, j < xs.length → 0 ≤ xs.getD j 0 ∧ xs.getD j 0 ≤ 255) (hn : xs.length ≤ 1048576) :
    Calls Try.prog 53 #[v] w fun e w' => ∃ (a x y : Int) (u : Value) (rs : List Int), e = .returned (.tuple #[ctx a u, .int .i64 x, .int .i64 y]) ∧ rs.length ≤ 9 ∧ Own 3 w' w.heap.size w'.heap.size u (ints rs) ∧ Below w.heap.size w w' := by
  have HN := Lib.hid (l6Two v xs B (w.alloc (.cells #[.int .i64 0, .slice none 0 0] 26)) (hr.below ((Below.refl w.heap.size w).alloc (Nat.le_refl _) _) hB) (by simp; omega) hx hn)
  obtain ⟨_, aa, ca, rfl, hca⟩ := hr
  have e0 : (u8s xs).length = xs.length := by simp [u8s]
  rw [e0] at HN ⊢
  clear hca hx e0
  go_enter Try.func53, Try.ntmps53
  go_wp2_with fail
  refine HN.out.mono ?_
  rintro e w1 ⟨a, s, t, u, rs, rfl, hl, o, b1⟩
  obtain ⟨av, cv, rfl⟩ := own_form o
  have hz1 : w.heap.size + 1 ≤ w1.heap.size := by have := b1.size; simpa using this
  have R1 := Lib.hid (((BoxAt.new w 26 #[.int .i64 0, .slice none 0 0]).below b1 (by simp)).alloc (.cells #[.int .i64 a, .slice av rs.length cv] 26))
  have G1 := Lib.hid (BoxAt.new w1 26 #[.int .i64 a, .slice av rs.length cv])
  have O1 := Lib.hid (o.below ((Below.refl w1.heap.size w1).alloc (Nat.le_refl _) (.cells #[.int .i64 a, .slice av rs.length cv] 26)) (Nat.le_refl _))
  have B1 := Lib.hid ((((Below.refl w.heap.size w).alloc (Nat.le_refl _) (.cells #[.int .i64 0, .slice none 0 0] 26)).trans (b1.mono (by simp))).alloc (by omega : w.heap.size ≤ w1.heap.size) (.cells #[.int .i64 a, .slice av rs.length cv] 26))
  have HL := Lib.hid hl
  have hlo : w.heap.size < (w.alloc (.cells #[.int .i64 0, .slice none 0 0] 26)).heap.size := by simp
  obtain ⟨n, hn⟩ : ∃ n, rs.length = n := ⟨_, rfl⟩
  rw [hn] at R1 G1 O1 B1 ⊢
  clear hn o b1 hl HN
  have e0 : (w1.alloc (.cells #[.int .i64 a, .slice av n cv] 26)).cell? ⟨w.heap.size, 0, none⟩ = some (.int .i64 0) := R1.out.cell 0
  have e1 : (w1.alloc (.cells #[.int .i64 a, .slice av n cv] 26)).cell? ⟨w.heap.size, 1, none⟩ = some (.slice none 0 0) := R1.out.cell 1
  have f0 : (w1.alloc (.cells #[.int .i64 a, .slice av n cv] 26)).frozen? ⟨w.heap.size, 0, none⟩ = false := R1.out.free 0
  have f1 : (w1.alloc (.cells #[.int .i64 a, .slice av n cv] 26)).frozen? ⟨w.heap.size, 1, none⟩ = false := R1.out.free 1
  have HLO := Lib.hid hlo
  clear hlo
  go_wp2_with fail
  refine bodyPost_ret (v := .tuple #[ctx a (.slice av n cv), .int .i64 s, .int .i64 t]) (by simp [results, Try.results53, go_sem, e0, e1]) rfl ⟨a, s, t, _, rs, rfl, HL.out, ?_, ((B1.out.setCell (p := ⟨w.heap.size, 0, none⟩) (Nat.le_refl _) _).setCell (p := ⟨w.heap.size, 1, none⟩) (Nat.le_refl _) _)⟩
  exact (own_setB (own_setB O1.out (q := ⟨w.heap.size, 0, none⟩) (.inl HLO.out) _) (q := ⟨w.heap.size, 1, none⟩) (.inl HLO.out) _).mono (Nat.le_of_lt HLO.out) (by first | (simp; done) | (simp; omega))
theorem DrawUpperCovers (v : Value) (xs : List Int) (B : Nat) (w : World) (hr : Reads w B v (u8s xs)) (hB : B ≤ w.heap.size) (hx : ∀ j, j < xs.length → 0 ≤ xs.getD j 0 ∧ xs.getD j 0 ≤ 255) (hn : xs.length ≤ 1048576) :
    Calls Try.prog 56 #[v] w fun e w' => ∃ (a x : Int) (u : Value) (rs : List Int), e = .returned (.tuple #[ctx a u, .int .i64 x]) ∧ rs.length ≤ 9 ∧ Own 3 w' w.heap.size w'.heap.size u (ints rs) ∧ Below w.heap.size w w' := by
  have HN := Lib.hid (l6Two v xs B (w.alloc (.cells #[.int .i64 0, .slice none 0 0] 26)) (hr.below ((Below.refl w.heap.size w).alloc (Nat.le_refl _) _) hB) (by simp; omega) hx hn)
  obtain ⟨_, aa, ca, rfl, hca⟩ := hr
  have e0 : (u8s xs).length = xs.length := by simp [u8s]
  rw [e0] at HN ⊢
  clear hca hx e0
  go_enter Try.func56, Try.ntmps56
  go_wp2_with fail
  refine HN.out.mono ?_
  rintro e w1 ⟨a, s, t, u, rs, rfl, hl, o, b1⟩
  obtain ⟨av, cv, rfl⟩ := own_form o
  have hz1 : w.heap.size + 1 ≤ w1.heap.size := by have := b1.size; simpa using this
  have R1 := Lib.hid (((BoxAt.new w 26 #[.int .i64 0, .slice none 0 0]).below b1 (by simp)).alloc (.cells #[.int .i64 a, .slice av rs.length cv] 26))
  have G1 := Lib.hid (BoxAt.new w1 26 #[.int .i64 a, .slice av rs.length cv])
  have O1 := Lib.hid (o.below ((Below.refl w1.heap.size w1).alloc (Nat.le_refl _) (.cells #[.int .i64 a, .slice av rs.length cv] 26)) (Nat.le_refl _))
  have B1 := Lib.hid ((((Below.refl w.heap.size w).alloc (Nat.le_refl _) (.cells #[.int .i64 0, .slice none 0 0] 26)).trans (b1.mono (by simp))).alloc (by omega : w.heap.size ≤ w1.heap.size) (.cells #[.int .i64 a, .slice av rs.length cv] 26))
  have HL := Lib.hid hl
  have hlo : w.heap.size < (w.alloc (.cells #[.int .i64 0, .slice none 0 0] 26)).heap.size := by simp
  obtain ⟨n, hn⟩ : ∃ n, rs.length = n := ⟨_, rfl⟩
  rw [hn] at R1 G1 O1 B1 ⊢
  clear hn o b1 hl HN
  have e0 : (w1.alloc (.cells #[.int .i64 a, .slice av n cv] 26)).cell? ⟨w.heap.size, 0, none⟩ = some (.int .i64 0) := R1.out.cell 0
  have e1 : (w1.alloc (.cells #[.int .i64 a, .slice av n cv] 26)).cell? ⟨w.heap.size, 1, none⟩ = some (.slice none 0 0) := R1.out.cell 1
  have f0 : (w1.alloc (.cells #[.int .i64 a, .slice av n cv] 26)).frozen? ⟨w.heap.size, 0, none⟩ = false := R1.out.free 0
  have f1 : (w1.alloc (.cells #[.int .i64 a, .slice av n cv] 26)).frozen? ⟨w.heap.size, 1, none⟩ = false := R1.out.free 1
  have HLO := Lib.hid hlo
  clear hlo
  go_wp2_with fail
  refine bodyPost_ret (v := .tuple #[ctx a (.slice av n cv), .int .i64 s]) (by simp [results, Try.results56, go_sem, e0, e1]) rfl ⟨a, s, _, rs, rfl, HL.out, ?_, ((B1.out.setCell (p := ⟨w.heap.size, 0, none⟩) (Nat.le_refl _) _).setCell (p := ⟨w.heap.size, 1, none⟩) (Nat.le_refl _) _)⟩
  exact (own_setB (own_setB O1.out (q := ⟨w.heap.size, 0, none⟩) (.inl HLO.out) _) (q := ⟨w.heap.size, 1, none⟩) (.inl HLO.out) _).mono (Nat.le_of_lt HLO.out) (by first | (simp; done) | (simp; omega))
theorem DrawTopOf (v : Value) (xs : List Int) (B : Nat) (w : World) (hr : Reads w B v (u8s xs)) (hB : B ≤ w.heap.size) (hx : ∀ j, j < xs.length → 0 ≤ xs.getD j 0 ∧ xs.getD j 0 ≤ 255) (hn : xs.length ≤ 1048576) :
    Calls Try.prog 59 #[v] w fun e w' => ∃ (a : Int) (u : Value) (rs : List Int), e = .returned (ctx a u) ∧ rs.length ≤ 9 ∧ Own 3 w' w.heap.size w'.heap.size u (ints rs) ∧ Below w.heap.size w w' := by
  have HN := Lib.hid (newCur v xs B (w.alloc (.cells #[.int .i64 0, .slice none 0 0] 26)) (hr.below ((Below.refl w.heap.size w).alloc (Nat.le_refl _) _) hB) (by simp; omega) hx hn)
  obtain ⟨_, aa, ca, rfl, hca⟩ := hr
  have e0 : (u8s xs).length = xs.length := by simp [u8s]
  rw [e0] at HN ⊢
  clear hca hx e0
  go_enter Try.func59, Try.ntmps59
  go_wp2_with fail
  refine HN.out.mono ?_
  rintro e w1 ⟨p, rfl, hp, c1, hz, b1⟩
  have hp' : w.heap.size + 1 ≤ p := by simpa using hp
  have hz1 : w.heap.size + 2 ≤ w1.heap.size := by simpa using hz
  have hpl := c1.lt
  have R1 := Lib.hid ((BoxAt.new w 26 #[.int .i64 0, .slice none 0 0]).below b1 (by simp))
  have B1 := Lib.hid (((Below.refl w.heap.size w).alloc (Nat.le_refl _) (.cells #[.int .i64 0, .slice none 0 0] 26)).trans (b1.mono (by simp)))
  clear b1 hp hz HN
  go_wp2_with fail
  refine (l3Bent B p _ c1).mono ?_
  rintro e w2 ⟨a, u, rs, rfl, -, -, hl9, o, c2, a2⟩
  obtain ⟨av, cv, rfl⟩ := own_form o
  have hz2 := a2.size
  have r2 := boxA R1.out a2 (.inl (by omega))
  have B2 := Lib.hid (B1.out.trans (a2.below (B := w.heap.size) (by omega) (by omega)))
  have O2 := Lib.hid o
  have HL := Lib.hid hl9
  have e0 : w2.cell? ⟨w.heap.size, 0, none⟩ = some (.int .i64 0) := r2.cell 0
  have e1 : w2.cell? ⟨w.heap.size, 1, none⟩ = some (.slice none 0 0) := r2.cell 1
  have f0 := r2.free 0
  have f1 := r2.free 1
  clear o c2 a2 c1 r2 hl9
  go_wp2_with fail
  refine bodyPost_ret (v := ctx a (.slice av rs.length cv)) (by simp [results, Try.results59, go_sem, e0, e1]) rfl ⟨a, _, rs, rfl, HL.out, ?_, ((B2.out.setCell (p := ⟨w.heap.size, 0, none⟩) (Nat.le_refl _) _).setCell (p := ⟨w.heap.size, 1, none⟩) (Nat.le_refl _) _)⟩
  exact (own_setB (own_setB O2.out (q := ⟨w.heap.size, 0, none⟩) (.inl (by show w.heap.size < _; omega)) _) (q := ⟨w.heap.size, 1, none⟩) (.inl (by show w.heap.size < _; omega)) _).mono (by omega) (by first | (simp; done) | (simp; omega))
end Go.Proofs.Ytdkgmjbhkifcbaa.Draw
