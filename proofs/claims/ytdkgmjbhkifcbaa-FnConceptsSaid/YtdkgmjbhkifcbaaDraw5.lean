/-
  Draws of chapter 5: a context with a number or a concept.
-/
import Derived.Test.YtdkgmjbhkifcbaaPastC
namespace Go.Proofs.Ytdkgmjbhkifcbaa.Draw
open Go Go.RowKit Mem Sets Elems Text Strs Ctx
set_option maxRecDepth 100000

set_option maxHeartbeats 1600000 in
theorem DrawColumnOf (v : Value) (xs : List Int) (B : Nat) (w : World) (hr : Reads w B v (u8s xs)) (hB : B ≤ w.heap.size) (hx : ∀ j, j < xs.length → 0 ≤ xs.getD j 0 ∧ xs.getD j 0 ≤ 255) (hn : xs.length ≤ 1048576) :
    Calls Try.prog 102 #[v] w fun e w' => ∃ (a x : Int) (u : Value) (rs : List Int), e = .returned (.tuple #[ctx a u, .int .i64 x]) ∧ rs.length ≤ 9 ∧ Own 3 w' w.heap.size w'.heap.size u (ints rs) ∧ Below w.heap.size w w' := by
  have HN := Lib.hid (newCur v xs B (w.alloc (.cells #[.int .i64 0, .slice none 0 0] 26)) (hr.below ((Below.refl w.heap.size w).alloc (Nat.le_refl _) _) hB) (by simp; omega) hx hn)
  obtain ⟨_, aa, ca, rfl, hca⟩ := hr
  have e0 : (u8s xs).length = xs.length := by simp [u8s]
  rw [e0] at HN ⊢
  clear hca hx e0
  go_enter Try.func102, Try.ntmps102
  go_wp2_with fail
  refine HN.out.mono ?_
  rintro e w1 ⟨p, rfl, hp, c1, hz, b1⟩
  have hp' : w.heap.size + 1 ≤ p := by simpa using hp
  have hz1 : w.heap.size + 2 ≤ w1.heap.size := by simpa using hz
  have hpl := c1.lt
  have R1 := Lib.hid ((BoxAt.new w 26 #[.int .i64 0, .slice none 0 0]).below b1 (by simp))
  have B1 := Lib.hid (((Below.refl w.heap.size w).alloc (Nat.le_refl _) (.cells #[.int .i64 0, .slice none 0 0] 26)).trans (b1.mono (by simp)))
  clear b1 hp hz HN
  go_wp2_with fail
  refine (l3Bent B p _ c1).mono ?_
  rintro e w2 ⟨a, u, rs, rfl, -, -, hl9, o, c2, a2⟩
  obtain ⟨av, cv, rfl⟩ := own_form o
  have hz2 := a2.size
  have R2 := ((boxA R1.out a2 (.inl (by omega))).alloc (.cells #[.int .i64 a, .slice av rs.length cv] 26))
  have B2 := Lib.hid ((B1.out.trans (a2.below (B := w.heap.size) (by omega) (by omega))).alloc (by omega : w.heap.size ≤ w2.heap.size) (.cells #[.int .i64 a, .slice av rs.length cv] 26))
  have G2 := BoxAt.new w2 26 #[.int .i64 a, .slice av rs.length cv]
  have O2 := Lib.hid (o.below ((Below.refl w2.heap.size w2).alloc (Nat.le_refl _) (.cells #[.int .i64 a, .slice av rs.length cv] 26)) (Nat.le_refl _))
  have C2 := c2.alloc (.cells #[.int .i64 a, .slice av rs.length cv] 26)
  have hg0 : w2.heap.size < (w2.alloc (.cells #[.int .i64 a, .slice av rs.length cv] 26)).heap.size := by simp
  clear o c2 a2 c1
  have HL9 := Lib.hid hl9
  clear hl9
  go_upto_region 3 with fail
  generalize w2.alloc (.cells #[.int .i64 a, .slice av rs.length cv] 26) = W at R2 B2 G2 O2 C2 hg0 ⊢
  obtain ⟨g, hg⟩ : ∃ g, w2.heap.size = g := ⟨_, rfl⟩
  rw [hg] at G2 O2 hg0 hz2 ⊢
  clear hg
  obtain ⟨n, hn'⟩ : ∃ n, rs.length = n := ⟨_, rfl⟩
  have HNN := Lib.hid hn'
  rw [hn'] at G2 O2 ⊢
  clear hn'
  have q0 := G2.cell 0
  have q1 := G2.cell 1
  have s0 := R2.cell 0
  have s1 := R2.cell 1
  have f0 := R2.free 0
  have f1 := R2.free 1
  simp only [List.getElem?_toArray, List.getElem?_cons_zero, List.getElem?_cons_succ] at q0 q1 s0 s1
  have k0 := fun z : PastC W B p => PastC.cell q0 (by show g < _; omega) (by show g ≠ p; omega) z
  have k1 := fun z : PastC W B p => PastC.cell q1 (by show g < _; omega) (by show g ≠ p; omega) z
  have t0 := fun z : PastC W B p => PastC.cell s0 (by show w.heap.size < _; omega) (by show w.heap.size ≠ p; omega) z
  have t1 := fun z : PastC W B p => PastC.cell s1 (by show w.heap.size < _; omega) (by show w.heap.size ≠ p; omega) z
  have v0 := fun z : PastC W B p => PastC.free f0 (by show w.heap.size < _; omega) (by show w.heap.size ≠ p; omega) z
  have v1 := fun z : PastC W B p => PastC.free f1 (by show w.heap.size < _; omega) (by show w.heap.size ≠ p; omega) z
  have z4 := PastC.start C2
  clear q0 q1 s0 s1 f0 f1
  have hb4 := l1BelowC 8 (PastC.start C2).drew (by omega) (by omega)
  rw [show (PastC.start C2).drew.w = W.drew from rfl, show ((8 : Nat) : Int) = 8 from rfl] at hb4
  have HB4 := Lib.hid hb4
  have hb5 := l1Below B p 8 ((W.drew.setCell ⟨w.heap.size, 0, none⟩ (.int .i64 a)).setCell ⟨w.heap.size, 1, none⟩ (.slice av n cv)) (curSet2 (curSet2 (PastC.start C2).drew.c (q := ⟨w.heap.size, 0, none⟩) hp' hB _) (q := ⟨w.heap.size, 1, none⟩) hp' hB _) (by omega) (by omega)
  rw [show ((8 : Nat) : Int) = 8 from rfl] at hb5
  have HB5 := Lib.hid hb5
  have hws : ∀ x : Nat, x < 8 → IntKind.i64.wrap ((x : Int) - 1) = (x : Int) - 1 := fun x hx => by rw [IntKind.wrap_i64]; omega
  have k00 := k0 (PastC.start C2)
  have k11 := k1 (PastC.start C2)
  have t00 := t0 (PastC.start C2)
  have t11 := t1 (PastC.start C2)
  have v00 := v0 (PastC.start C2)
  have v11 := v1 (PastC.start C2)
  simp only [PastC.start] at k00 k11 t00 t11 v00 v11
  clear hb4 hb5 z4
  go_wp2_with fail
  go_region_with ((go_at_call 98; first | (with_reducible refine HB4.out.mono ?_; rintro e w5 ⟨x5, rfl, hx5, z5, rfl⟩) | (with_reducible refine HB5.out.mono ?_; rintro e w5 ⟨x5, rfl, hx5, c5, a5⟩)))
  all_goals have O5 := Lib.hid (O2.out.apart z5.a (.inr (by omega)))
  all_goals have B5 := Lib.hid (B2.out.trans (z5.a.below (B := w.heap.size) (by omega) (by omega)))
  all_goals have hz5 := z5.size
  all_goals go_wp2_with fail
  all_goals refine bodyPost_ret (v := .tuple #[ctx a (.slice av n cv), .int .i64 ((x5 : Int) - 1)]) (by simp [results, Try.results102, go_sem, t0, t1]) rfl ⟨a, (x5 : Int) - 1, _, rs, rfl, HL9.out, ?_, ((B5.out.setCell (p := ⟨w.heap.size, 0, none⟩) (Nat.le_refl _) _).setCell (p := ⟨w.heap.size, 1, none⟩) (Nat.le_refl _) _)⟩
  all_goals exact (own_setB (own_setB O5.out (q := ⟨w.heap.size, 0, none⟩) (.inl (by show w.heap.size < _; omega)) _) (q := ⟨w.heap.size, 1, none⟩) (.inl (by show w.heap.size < _; omega)) _).mono (by omega) (by first | (simp; done) | (simp; omega))
theorem DrawObjectConcept (v : Value) (xs : List Int) (B : Nat) (w : World) (hr : Reads w B v (u8s xs)) (hB : B ≤ w.heap.size) (hx : ∀ j, j < xs.length → 0 ≤ xs.getD j 0 ∧ xs.getD j 0 ≤ 255) (hn : xs.length ≤ 1048576) :
    Calls Try.prog 40 #[v] w fun e w' => ∃ (a x : Int) (u : Value) (rs : List Int), e = .returned (.tuple #[ctx a u, .int .i64 x]) ∧ rs.length ≤ 9 ∧ Own 3 w' w.heap.size w'.heap.size u (ints rs) ∧ Below w.heap.size w w' := by
  have HN := Lib.hid (DrawColumnOf v xs B (w.alloc (.cells #[.int .i64 0, .slice none 0 0] 26)) (hr.below ((Below.refl w.heap.size w).alloc (Nat.le_refl _) _) hB) (by simp; omega) hx hn)
  obtain ⟨_, aa, ca, rfl, hca⟩ := hr
  have e0 : (u8s xs).length = xs.length := by simp [u8s]
  rw [e0] at HN ⊢
  clear hca hx e0
  go_enter Try.func40, Try.ntmps40
  go_wp2_with fail
  refine HN.out.mono ?_
  rintro e w1 ⟨a, s, u, rs, rfl, hl, o, b1⟩
  obtain ⟨av, cv, rfl⟩ := own_form o
  have hz1 : w.heap.size + 1 ≤ w1.heap.size := by have := b1.size; simpa using this
  have R1 := Lib.hid (((BoxAt.new w 26 #[.int .i64 0, .slice none 0 0]).below b1 (by simp)).alloc (.cells #[.int .i64 a, .slice av rs.length cv] 26))
  have G1 := Lib.hid (BoxAt.new w1 26 #[.int .i64 a, .slice av rs.length cv])
  have O1 := Lib.hid (o.below ((Below.refl w1.heap.size w1).alloc (Nat.le_refl _) (.cells #[.int .i64 a, .slice av rs.length cv] 26)) (Nat.le_refl _))
  have B1 := Lib.hid ((((Below.refl w.heap.size w).alloc (Nat.le_refl _) (.cells #[.int .i64 0, .slice none 0 0] 26)).trans (b1.mono (by simp))).alloc (by omega : w.heap.size ≤ w1.heap.size) (.cells #[.int .i64 a, .slice av rs.length cv] 26))
  have HL := Lib.hid hl
  have hlo : w.heap.size < (w.alloc (.cells #[.int .i64 0, .slice none 0 0] 26)).heap.size := by simp
  obtain ⟨n, hn⟩ : ∃ n, rs.length = n := ⟨_, rfl⟩
  rw [hn] at R1 G1 O1 B1 ⊢
  clear hn o b1 hl HN
  have e0 : (w1.alloc (.cells #[.int .i64 a, .slice av n cv] 26)).cell? ⟨w.heap.size, 0, none⟩ = some (.int .i64 0) := R1.out.cell 0
  have e1 : (w1.alloc (.cells #[.int .i64 a, .slice av n cv] 26)).cell? ⟨w.heap.size, 1, none⟩ = some (.slice none 0 0) := R1.out.cell 1
  have f0 : (w1.alloc (.cells #[.int .i64 a, .slice av n cv] 26)).frozen? ⟨w.heap.size, 0, none⟩ = false := R1.out.free 0
  have f1 : (w1.alloc (.cells #[.int .i64 a, .slice av n cv] 26)).frozen? ⟨w.heap.size, 1, none⟩ = false := R1.out.free 1
  have HLO := Lib.hid hlo
  clear hlo
  go_wp2_with fail
  refine bodyPost_ret (v := .tuple #[ctx a (.slice av n cv), .int .i64 s]) (by simp [results, Try.results40, go_sem, e0, e1]) rfl ⟨a, s, _, rs, rfl, HL.out, ?_, ((B1.out.setCell (p := ⟨w.heap.size, 0, none⟩) (Nat.le_refl _) _).setCell (p := ⟨w.heap.size, 1, none⟩) (Nat.le_refl _) _)⟩
  exact (own_setB (own_setB O1.out (q := ⟨w.heap.size, 0, none⟩) (.inl HLO.out) _) (q := ⟨w.heap.size, 1, none⟩) (.inl HLO.out) _).mono (Nat.le_of_lt HLO.out) (by first | (simp; done) | (simp; omega))
theorem DrawNextClosed (v : Value) (xs : List Int) (B : Nat) (w : World) (hr : Reads w B v (u8s xs)) (hB : B ≤ w.heap.size) (hx : ∀ j, j < xs.length → 0 ≤ xs.getD j 0 ∧ xs.getD j 0 ≤ 255) (hn : xs.length ≤ 1048576) :
    Calls Try.prog 34 #[v] w fun e w' => ∃ (a x : Int) (u : Value) (rs : List Int), e = .returned (.tuple #[ctx a u, .int .i64 x]) ∧ rs.length ≤ 9 ∧ Own 3 w' w.heap.size w'.heap.size u (ints rs) ∧ Below w.heap.size w w' := by
  have HN := Lib.hid (l4Attributes v xs B (w.alloc (.cells #[.int .i64 0, .slice none 0 0] 26)) (hr.below ((Below.refl w.heap.size w).alloc (Nat.le_refl _) _) hB) (by simp; omega) hx hn)
  obtain ⟨_, aa, ca, rfl, hca⟩ := hr
  have e0 : (u8s xs).length = xs.length := by simp [u8s]
  rw [e0] at HN ⊢
  clear hca hx e0
  go_enter Try.func34, Try.ntmps34
  go_wp2_with fail
  refine HN.out.mono ?_
  rintro e w1 ⟨a, s, u, rs, rfl, -, -, hl, o, b1⟩
  obtain ⟨av, cv, rfl⟩ := own_form o
  have hz1 : w.heap.size + 1 ≤ w1.heap.size := by have := b1.size; simpa using this
  have R1 := Lib.hid (((BoxAt.new w 26 #[.int .i64 0, .slice none 0 0]).below b1 (by simp)).alloc (.cells #[.int .i64 a, .slice av rs.length cv] 26))
  have G1 := Lib.hid (BoxAt.new w1 26 #[.int .i64 a, .slice av rs.length cv])
  have O1 := Lib.hid (o.below ((Below.refl w1.heap.size w1).alloc (Nat.le_refl _) (.cells #[.int .i64 a, .slice av rs.length cv] 26)) (Nat.le_refl _))
  have B1 := Lib.hid ((((Below.refl w.heap.size w).alloc (Nat.le_refl _) (.cells #[.int .i64 0, .slice none 0 0] 26)).trans (b1.mono (by simp))).alloc (by omega : w.heap.size ≤ w1.heap.size) (.cells #[.int .i64 a, .slice av rs.length cv] 26))
  have HL := Lib.hid hl
  have hlo : w.heap.size < (w.alloc (.cells #[.int .i64 0, .slice none 0 0] 26)).heap.size := by simp
  obtain ⟨n, hn⟩ : ∃ n, rs.length = n := ⟨_, rfl⟩
  rw [hn] at R1 G1 O1 B1 ⊢
  clear hn o b1 hl HN
  have e0 : (w1.alloc (.cells #[.int .i64 a, .slice av n cv] 26)).cell? ⟨w.heap.size, 0, none⟩ = some (.int .i64 0) := R1.out.cell 0
  have e1 : (w1.alloc (.cells #[.int .i64 a, .slice av n cv] 26)).cell? ⟨w.heap.size, 1, none⟩ = some (.slice none 0 0) := R1.out.cell 1
  have f0 : (w1.alloc (.cells #[.int .i64 a, .slice av n cv] 26)).frozen? ⟨w.heap.size, 0, none⟩ = false := R1.out.free 0
  have f1 : (w1.alloc (.cells #[.int .i64 a, .slice av n cv] 26)).frozen? ⟨w.heap.size, 1, none⟩ = false := R1.out.free 1
  have HLO := Lib.hid hlo
  clear hlo
  go_wp2_with fail
  refine bodyPost_ret (v := .tuple #[ctx a (.slice av n cv), .int .i64 s]) (by simp [results, Try.results34, go_sem, e0, e1]) rfl ⟨a, s, _, rs, rfl, HL.out, ?_, ((B1.out.setCell (p := ⟨w.heap.size, 0, none⟩) (Nat.le_refl _) _).setCell (p := ⟨w.heap.size, 1, none⟩) (Nat.le_refl _) _)⟩
  exact (own_setB (own_setB O1.out (q := ⟨w.heap.size, 0, none⟩) (.inl HLO.out) _) (q := ⟨w.heap.size, 1, none⟩) (.inl HLO.out) _).mono (Nat.le_of_lt HLO.out) (by first | (simp; done) | (simp; omega))
theorem DrawConceptAt (v : Value) (xs : List Int) (B : Nat) (w : World) (hr : Reads w B v (u8s xs)) (hB : B ≤ w.heap.size) (hx : ∀ j, j < xs.length → 0 ≤ xs.getD j 0 ∧ xs.getD j 0 ≤ 255) (hn : xs.length ≤ 1048576) :
    Calls Try.prog 37 #[v] w fun e w' => ∃ (a x : Int) (u : Value) (rs : List Int), e = .returned (.tuple #[ctx a u, .int .i64 x]) ∧ rs.length ≤ 9 ∧ Own 3 w' w.heap.size w'.heap.size u (ints rs) ∧ Below w.heap.size w w' := by
  have HN := Lib.hid (l4Attributes v xs B (w.alloc (.cells #[.int .i64 0, .slice none 0 0] 26)) (hr.below ((Below.refl w.heap.size w).alloc (Nat.le_refl _) _) hB) (by simp; omega) hx hn)
  obtain ⟨_, aa, ca, rfl, hca⟩ := hr
  have e0 : (u8s xs).length = xs.length := by simp [u8s]
  rw [e0] at HN ⊢
  clear hca hx e0
  go_enter Try.func37, Try.ntmps37
  go_wp2_with fail
  refine HN.out.mono ?_
  rintro e w1 ⟨a, s, u, rs, rfl, -, -, hl, o, b1⟩
  obtain ⟨av, cv, rfl⟩ := own_form o
  have hz1 : w.heap.size + 1 ≤ w1.heap.size := by have := b1.size; simpa using this
  have R1 := Lib.hid (((BoxAt.new w 26 #[.int .i64 0, .slice none 0 0]).below b1 (by simp)).alloc (.cells #[.int .i64 a, .slice av rs.length cv] 26))
  have G1 := Lib.hid (BoxAt.new w1 26 #[.int .i64 a, .slice av rs.length cv])
  have O1 := Lib.hid (o.below ((Below.refl w1.heap.size w1).alloc (Nat.le_refl _) (.cells #[.int .i64 a, .slice av rs.length cv] 26)) (Nat.le_refl _))
  have B1 := Lib.hid ((((Below.refl w.heap.size w).alloc (Nat.le_refl _) (.cells #[.int .i64 0, .slice none 0 0] 26)).trans (b1.mono (by simp))).alloc (by omega : w.heap.size ≤ w1.heap.size) (.cells #[.int .i64 a, .slice av rs.length cv] 26))
  have HL := Lib.hid hl
  have hlo : w.heap.size < (w.alloc (.cells #[.int .i64 0, .slice none 0 0] 26)).heap.size := by simp
  obtain ⟨n, hn⟩ : ∃ n, rs.length = n := ⟨_, rfl⟩
  rw [hn] at R1 G1 O1 B1 ⊢
  clear hn o b1 hl HN
  have e0 : (w1.alloc (.cells #[.int .i64 a, .slice av n cv] 26)).cell? ⟨w.heap.size, 0, none⟩ = some (.int .i64 0) := R1.out.cell 0
  have e1 : (w1.alloc (.cells #[.int .i64 a, .slice av n cv] 26)).cell? ⟨w.heap.size, 1, none⟩ = some (.slice none 0 0) := R1.out.cell 1
  have f0 : (w1.alloc (.cells #[.int .i64 a, .slice av n cv] 26)).frozen? ⟨w.heap.size, 0, none⟩ = false := R1.out.free 0
  have f1 : (w1.alloc (.cells #[.int .i64 a, .slice av n cv] 26)).frozen? ⟨w.heap.size, 1, none⟩ = false := R1.out.free 1
  have HLO := Lib.hid hlo
  clear hlo
  go_wp2_with fail
  refine bodyPost_ret (v := .tuple #[ctx a (.slice av n cv), .int .i64 s]) (by simp [results, Try.results37, go_sem, e0, e1]) rfl ⟨a, s, _, rs, rfl, HL.out, ?_, ((B1.out.setCell (p := ⟨w.heap.size, 0, none⟩) (Nat.le_refl _) _).setCell (p := ⟨w.heap.size, 1, none⟩) (Nat.le_refl _) _)⟩
  exact (own_setB (own_setB O1.out (q := ⟨w.heap.size, 0, none⟩) (.inl HLO.out) _) (q := ⟨w.heap.size, 1, none⟩) (.inl HLO.out) _).mono (Nat.le_of_lt HLO.out) (by first | (simp; done) | (simp; omega))
theorem DrawConcepts (v : Value) (xs : List Int) (B : Nat) (w : World) (hr : Reads w B v (u8s xs)) (hB : B ≤ w.heap.size) (hx : ∀ j, j < xs.length → 0 ≤ xs.getD j 0 ∧ xs.getD j 0 ≤ 255) (hn : xs.length ≤ 1048576) :
    Calls Try.prog 31 #[v] w fun e w' => ∃ (a : Int) (u : Value) (rs : List Int), e = .returned (ctx a u) ∧ rs.length ≤ 9 ∧ Own 3 w' w.heap.size w'.heap.size u (ints rs) ∧ Below w.heap.size w w' := by
  have HN := Lib.hid (newCur v xs B (w.alloc (.cells #[.int .i64 0, .slice none 0 0] 26)) (hr.below ((Below.refl w.heap.size w).alloc (Nat.le_refl _) _) hB) (by simp; omega) hx hn)
  obtain ⟨_, aa, ca, rfl, hca⟩ := hr
  have e0 : (u8s xs).length = xs.length := by simp [u8s]
  rw [e0] at HN ⊢
  clear hca hx e0
  go_enter Try.func31, Try.ntmps31
  go_wp2_with fail
  refine HN.out.mono ?_
  rintro e w1 ⟨p, rfl, hp, c1, hz, b1⟩
  have hp' : w.heap.size + 1 ≤ p := by simpa using hp
  have hz1 : w.heap.size + 2 ≤ w1.heap.size := by simpa using hz
  have hpl := c1.lt
  have R1 := Lib.hid ((BoxAt.new w 26 #[.int .i64 0, .slice none 0 0]).below b1 (by simp))
  have B1 := Lib.hid (((Below.refl w.heap.size w).alloc (Nat.le_refl _) (.cells #[.int .i64 0, .slice none 0 0] 26)).trans (b1.mono (by simp)))
  clear b1 hp hz HN
  go_wp2_with fail
  refine (l3Bent B p _ c1).mono ?_
  rintro e w2 ⟨a, u, rs, rfl, -, -, hl9, o, c2, a2⟩
  obtain ⟨av, cv, rfl⟩ := own_form o
  have hz2 := a2.size
  have r2 := boxA R1.out a2 (.inl (by omega))
  have B2 := Lib.hid (B1.out.trans (a2.below (B := w.heap.size) (by omega) (by omega)))
  have O2 := Lib.hid o
  have HL := Lib.hid hl9
  have e0 : w2.cell? ⟨w.heap.size, 0, none⟩ = some (.int .i64 0) := r2.cell 0
  have e1 : w2.cell? ⟨w.heap.size, 1, none⟩ = some (.slice none 0 0) := r2.cell 1
  have f0 := r2.free 0
  have f1 := r2.free 1
  clear o c2 a2 c1 r2 hl9
  go_wp2_with fail
  refine bodyPost_ret (v := ctx a (.slice av rs.length cv)) (by simp [results, Try.results31, go_sem, e0, e1]) rfl ⟨a, _, rs, rfl, HL.out, ?_, ((B2.out.setCell (p := ⟨w.heap.size, 0, none⟩) (Nat.le_refl _) _).setCell (p := ⟨w.heap.size, 1, none⟩) (Nat.le_refl _) _)⟩
  exact (own_setB (own_setB O2.out (q := ⟨w.heap.size, 0, none⟩) (.inl (by show w.heap.size < _; omega)) _) (q := ⟨w.heap.size, 1, none⟩) (.inl (by show w.heap.size < _; omega)) _).mono (by omega) (by first | (simp; done) | (simp; omega))
theorem l2BentC {W : World} {B p : Nat} (z : PastC W B p) : Calls Try.prog 97 #[.pointer (some ⟨p, 0, none⟩)] z.w fun e w' => ∃ x : Int, e = .returned (.int .i64 x) ∧ ∃ y : PastC W B p, w' = y.w :=
  (l2Bent B p z.w z.c).mono fun _ _ ⟨x, he, c, a⟩ => ⟨x, he, z.turn a c⟩
theorem l1OnceC {W : World} {B p : Nat} (n : Nat) (z : PastC W B p) (h1 : 1 ≤ n) (hn : n ≤ 1000000000) : Calls Try.prog 96 #[.pointer (some ⟨p, 0, none⟩), .int .i64 n] z.w fun e w' => ∃ x : Bool, e = .returned (.bool x) ∧ ∃ y : PastC W B p, w' = y.w :=
  (l1Once B p n z.w z.c h1 hn).mono fun _ _ ⟨x, he, c, a⟩ => ⟨x, he, z.turn a c⟩
theorem DrawConceptText (v : Value) (xs : List Int) (B : Nat) (w : World) (hr : Reads w B v (u8s xs)) (hB : B ≤ w.heap.size) (hx : ∀ j, j < xs.length → 0 ≤ xs.getD j 0 ∧ xs.getD j 0 ≤ 255) (hn : xs.length ≤ 1048576) :
    Calls Try.prog 45 #[v] w fun e w' => ∃ x y : Int, e = .returned (conc (x, y)) ∧ Below w.heap.size w w' := by
  have HN := Lib.hid (newCur v xs B (w.alloc (.cells #[.int .i64 0, .int .i64 0] 38)) (hr.below ((Below.refl w.heap.size w).alloc (Nat.le_refl _) _) hB) (by simp; omega) hx hn)
  obtain ⟨_, aa, ca, rfl, hca⟩ := hr
  have e0 : (u8s xs).length = xs.length := by simp [u8s]
  rw [e0] at HN ⊢
  clear hca hx e0
  go_enter Try.func45, Try.ntmps45
  go_wp2_with fail
  refine HN.out.mono ?_
  rintro e w1 ⟨p, rfl, hp, c1, hz, b1⟩
  have hp' : w.heap.size + 1 ≤ p := by simpa using hp
  have hz1 : w.heap.size + 2 ≤ w1.heap.size := by simpa using hz
  have R1 := Lib.hid ((BoxAt.new w 38 #[.int .i64 0, .int .i64 0]).below b1 (by simp))
  have B1 := Lib.hid (((Below.refl w.heap.size w).alloc (Nat.le_refl _) (.cells #[.int .i64 0, .int .i64 0] 38)).trans (b1.mono (by simp)))
  clear b1 hp hz HN
  go_wp2_with fail
  refine (l2Bent B p _ c1).mono ?_
  rintro e w2 ⟨x, rfl, c2, a2⟩
  have R2 := Lib.hid (boxA R1.out a2 (.inl (by omega)))
  have B2 := Lib.hid (B1.out.trans (a2.below (B := w.heap.size) (by omega) (by omega)))
  have hz2 := a2.size
  clear c1 a2 R1 B1
  go_wp2_with fail
  refine (l2Bent B p _ c2).mono ?_
  rintro e w3 ⟨y, rfl, c3, a3⟩
  have r3 := boxA R2.out a3 (.inl (by omega))
  have B3 := Lib.hid (B2.out.trans (a3.below (B := w.heap.size) (by omega) (by omega)))
  have e0 : w3.cell? ⟨w.heap.size, 0, none⟩ = some (.int .i64 0) := r3.cell 0
  have e1 : w3.cell? ⟨w.heap.size, 1, none⟩ = some (.int .i64 0) := r3.cell 1
  have f0 := r3.free 0
  have f1 := r3.free 1
  clear c2 c3 a3 R2 B2 r3
  go_wp2_with fail
  exact bodyPost_ret (v := conc (x, y)) (by simp [results, Try.results45, go_sem, e0, e1]) rfl ⟨x, y, rfl, ((B3.out.setCell (p := ⟨w.heap.size, 0, none⟩) (Nat.le_refl _) _).setCell (p := ⟨w.heap.size, 1, none⟩) (Nat.le_refl _) _)⟩
set_option maxHeartbeats 3200000 in
theorem DrawIsConcept (v : Value) (xs : List Int) (B : Nat) (w : World) (hr : Reads w B v (u8s xs)) (hB : B ≤ w.heap.size) (hx : ∀ j, j < xs.length → 0 ≤ xs.getD j 0 ∧ xs.getD j 0 ≤ 255) (hn : xs.length ≤ 1048576) :
    Calls Try.prog 33 #[v] w fun e w' => ∃ (a x y : Int) (u : Value) (rs : List Int), e = .returned (.tuple #[ctx a u, conc (x, y)]) ∧ rs.length ≤ 9 ∧ Own 3 w' w.heap.size w'.heap.size u (ints rs) ∧ Below w.heap.size w w' := by
  have hA := ((Below.refl w.heap.size w).alloc (Nat.le_refl _) (.cells #[.int .i64 0, .slice none 0 0] 26)).alloc (by simp) (.cells #[.int .i64 0, .int .i64 0] 38)
  have HN := Lib.hid (newCur v xs B ((w.alloc (.cells #[.int .i64 0, .slice none 0 0] 26)).alloc (.cells #[.int .i64 0, .int .i64 0] 38)) (hr.below hA hB) (by simp; omega) hx hn)
  obtain ⟨_, aa, ca, rfl, hca⟩ := hr
  have e0 : (u8s xs).length = xs.length := by simp [u8s]
  rw [e0] at HN ⊢
  clear hca hx e0
  go_enter Try.func33, Try.ntmps33
  go_wp2_with fail
  refine HN.out.mono ?_
  rintro e w1 ⟨p, rfl, hp, c1, hz, b1⟩
  have hp' : w.heap.size + 2 ≤ p := by simpa using hp
  have hz1 : w.heap.size + 3 ≤ w1.heap.size := by simpa using hz
  have hpl := c1.lt
  have R1 := Lib.hid (((BoxAt.new w 26 #[.int .i64 0, .slice none 0 0]).alloc (.cells #[.int .i64 0, .int .i64 0] 38)).below b1 (by simp; omega))
  have Q1 := Lib.hid ((show BoxAt _ (w.heap.size + 1) _ _ by have := BoxAt.new (w.alloc (.cells #[.int .i64 0, .slice none 0 0] 26)) 38 #[.int .i64 0, .int .i64 0]; simpa using this).below b1 (by simp))
  have B1 := Lib.hid (hA.trans (b1.mono (by simp; omega)))
  clear b1 hp hz HN hA
  go_wp2_with fail
  refine (l3Bent B p _ c1).mono ?_
  rintro e w2 ⟨a, u, rs, rfl, -, -, hl9, o, c2, a2⟩
  obtain ⟨av, cv, rfl⟩ := own_form o
  have hz2 := a2.size
  have R2 := (boxA R1.out a2 (.inl (by omega))).alloc (.cells #[.int .i64 a, .slice av rs.length cv] 26)
  have Q2 := (boxA Q1.out a2 (.inl (by omega))).alloc (.cells #[.int .i64 a, .slice av rs.length cv] 26)
  have B2 := Lib.hid ((B1.out.trans (a2.below (B := w.heap.size) (by omega) (by omega))).alloc (by omega : w.heap.size ≤ w2.heap.size) (.cells #[.int .i64 a, .slice av rs.length cv] 26))
  have G2 := BoxAt.new w2 26 #[.int .i64 a, .slice av rs.length cv]
  have O2 := Lib.hid (o.below ((Below.refl w2.heap.size w2).alloc (Nat.le_refl _) (.cells #[.int .i64 a, .slice av rs.length cv] 26)) (Nat.le_refl _))
  have C2 := c2.alloc (.cells #[.int .i64 a, .slice av rs.length cv] 26)
  have hg0 : w2.heap.size < (w2.alloc (.cells #[.int .i64 a, .slice av rs.length cv] 26)).heap.size := by simp
  clear o c2 a2 c1
  have HL9 := Lib.hid hl9
  clear hl9
  go_upto_region 3 with fail
  generalize w2.alloc (.cells #[.int .i64 a, .slice av rs.length cv] 26) = W at R2 Q2 B2 G2 O2 C2 hg0 ⊢
  obtain ⟨g, hg⟩ : ∃ g, w2.heap.size = g := ⟨_, rfl⟩
  rw [hg] at G2 O2 hg0 hz2 ⊢
  clear hg
  have HC := Lib.hid (spec_concepts a (.slice av rs.length cv) rs g W O2.out.reads (by omega))
  have h256 := concepts_len a rs
  generalize concepts a rs = l at HC h256
  obtain ⟨n, hn'⟩ : ∃ n, rs.length = n := ⟨_, rfl⟩
  have HNN := Lib.hid hn'
  rw [hn'] at G2 O2 HC ⊢
  clear hn'
  have g0 := G2.cell 0
  have g1 := G2.cell 1
  simp only [List.getElem?_toArray, List.getElem?_cons_zero, List.getElem?_cons_succ] at g0 g1
  go_wp2_with fail
  refine HC.out.mono ?_
  rintro e w3 ⟨u3, rfl, o3, b3⟩
  obtain ⟨ap, cp, rfl⟩ := o3.form
  have HLI := Lib.hid o3.reads
  have HLO := Lib.hid o3
  have hz3 := b3.size
  have G3 := G2.below b3 G2.lt
  have R3 := R2.below b3 R2.lt
  have Q3 := Q2.below b3 Q2.lt
  have O3 := Lib.hid (O2.out.below b3 (by omega))
  have B3 := Lib.hid (B2.out.trans (b3.mono (by omega)))
  have C3 := C2.below b3 C2.lt
  obtain ⟨m, hm⟩ : ∃ m, l.length = m := ⟨_, rfl⟩
  have HMM := Lib.hid hm
  rw [hm] at h256 ⊢
  clear o3 b3 hm HC G2 R2 Q2 O2 B2 C2 g0 g1 R1 Q1 B1
  have q0 := G3.cell 0
  have q1 := G3.cell 1
  have s0 := R3.cell 0
  have s1 := R3.cell 1
  have s2 := Q3.cell 0
  have s3 := Q3.cell 1
  simp only [List.getElem?_toArray, List.getElem?_cons_zero, List.getElem?_cons_succ] at q0 q1 s0 s1 s2 s3
  have k0 := fun z : PastC w3 B p => PastC.cell q0 (by show g < _; omega) (by show g ≠ p; omega) z
  have k1 := fun z : PastC w3 B p => PastC.cell q1 (by show g < _; omega) (by show g ≠ p; omega) z
  have t0 := fun z : PastC w3 B p => PastC.cell s0 (by show w.heap.size < _; omega) (by show w.heap.size ≠ p; omega) z
  have t1 := fun z : PastC w3 B p => PastC.cell s1 (by show w.heap.size < _; omega) (by show w.heap.size ≠ p; omega) z
  have t2 := fun z : PastC w3 B p => PastC.cell s2 (by show w.heap.size + 1 < _; omega) (by show w.heap.size + 1 ≠ p; omega) z
  have t3 := fun z : PastC w3 B p => PastC.cell s3 (by show w.heap.size + 1 < _; omega) (by show w.heap.size + 1 ≠ p; omega) z
  have v0 := fun z : PastC w3 B p => PastC.free (R3.free 0) (by show w.heap.size < _; omega) (by show w.heap.size ≠ p; omega) z
  have v1 := fun z : PastC w3 B p => PastC.free (R3.free 1) (by show w.heap.size < _; omega) (by show w.heap.size ≠ p; omega) z
  have v2 := fun z : PastC w3 B p => PastC.free (Q3.free 0) (by show w.heap.size + 1 < _; omega) (by show w.heap.size + 1 ≠ p; omega) z
  have v3 := fun z : PastC w3 B p => PastC.free (Q3.free 1) (by show w.heap.size + 1 < _; omega) (by show w.heap.size + 1 ≠ p; omega) z
  clear q0 q1 s0 s1 s2 s3 G3 R3 Q3
  obtain ⟨z3, hz33⟩ : ∃ z : PastC w3 B p, w3 = z.w := ⟨PastC.start C3, rfl⟩
  by_cases hm0 : m = 0
  · subst hm0
    have hb := l2BentC (z3).drew
    rw [show (z3).drew.w = (z3).w.drew from rfl] at hb
    have HBA := Lib.hid hb
    clear hb
    go_wp2_with fail
    go_region_with ((go_at_call 97; first | (with_reducible refine HBA.out.mono ?_; rintro e _ ⟨x5, rfl, z5, rfl⟩) | (with_reducible refine (l2BentC z5).mono ?_; rintro e _ ⟨x6, rfl, zz, rfl⟩)))
    all_goals have O9 := Lib.hid (O3.out.apart zz.a (.inr (by omega)))
    all_goals have B9 := Lib.hid (B3.out.trans (zz.a.below (B := w.heap.size) (by omega) (by omega)))
    all_goals have hz9 := zz.size
    all_goals go_wp2_with fail
    all_goals refine bodyPost_ret (v := .tuple #[ctx a (.slice av n cv), conc (x5, x6)]) (by simp [results, Try.results33, go_sem, t0, t1, t2, t3]) rfl ⟨a, x5, x6, _, rs, rfl, HL9.out, ?_, ((((B9.out.setCell (p := ⟨w.heap.size, 0, none⟩) (Nat.le_refl _) _).setCell (p := ⟨w.heap.size, 1, none⟩) (Nat.le_refl _) _).setCell (p := ⟨w.heap.size + 1, 0, none⟩) (Nat.le_succ _) _).setCell (p := ⟨w.heap.size + 1, 1, none⟩) (Nat.le_succ _) _)⟩
    all_goals exact (own_setB (own_setB (own_setB (own_setB O9.out (q := ⟨w.heap.size, 0, none⟩) (.inl (by show w.heap.size < _; omega)) _) (q := ⟨w.heap.size, 1, none⟩) (.inl (by show w.heap.size < _; omega)) _) (q := ⟨w.heap.size + 1, 0, none⟩) (.inl (by show w.heap.size + 1 < _; omega)) _) (q := ⟨w.heap.size + 1, 1, none⟩) (.inl (by show w.heap.size + 1 < _; omega)) _).mono (by omega) (by first | (simp; done) | (simp; omega))
  · have he : ((m : Int) == 0) = false := by simp; omega
    have hon := l1OnceC 4 z3 (by omega) (by omega)
    rw [show ((4 : Nat) : Int) = 4 from rfl] at hon
    have HON := Lib.hid hon
    clear hon
    go_wp2_with fail
    refine HON.out.mono ?_
    rintro e _ ⟨b, rfl, z4, rfl⟩
    cases b with
    | true =>
      have hb := l2BentC (z4).drew
      rw [show (z4).drew.w = (z4).w.drew from rfl] at hb
      have HBA := Lib.hid hb
      clear hb
      go_wp2_with fail
      go_region_with ((go_at_call 97; first | (with_reducible refine HBA.out.mono ?_; rintro e _ ⟨x5, rfl, z5, rfl⟩) | (with_reducible refine (l2BentC z5).mono ?_; rintro e _ ⟨x6, rfl, zz, rfl⟩)))
      all_goals have O9 := Lib.hid (O3.out.apart zz.a (.inr (by omega)))
      all_goals have B9 := Lib.hid (B3.out.trans (zz.a.below (B := w.heap.size) (by omega) (by omega)))
      all_goals have hz9 := zz.size
      all_goals go_wp2_with fail
      all_goals refine bodyPost_ret (v := .tuple #[ctx a (.slice av n cv), conc (x5, x6)]) (by simp [results, Try.results33, go_sem, t0, t1, t2, t3]) rfl ⟨a, x5, x6, _, rs, rfl, HL9.out, ?_, ((((B9.out.setCell (p := ⟨w.heap.size, 0, none⟩) (Nat.le_refl _) _).setCell (p := ⟨w.heap.size, 1, none⟩) (Nat.le_refl _) _).setCell (p := ⟨w.heap.size + 1, 0, none⟩) (Nat.le_succ _) _).setCell (p := ⟨w.heap.size + 1, 1, none⟩) (Nat.le_succ _) _)⟩
      all_goals exact (own_setB (own_setB (own_setB (own_setB O9.out (q := ⟨w.heap.size, 0, none⟩) (.inl (by show w.heap.size < _; omega)) _) (q := ⟨w.heap.size, 1, none⟩) (.inl (by show w.heap.size < _; omega)) _) (q := ⟨w.heap.size + 1, 0, none⟩) (.inl (by show w.heap.size + 1 < _; omega)) _) (q := ⟨w.heap.size + 1, 1, none⟩) (.inl (by show w.heap.size + 1 < _; omega)) _).mono (by omega) (by first | (simp; done) | (simp; omega))
    | false =>
      have hlne : l ≠ [] := fun e => by have := HMM.out; rw [e] at this; simp at this; omega
      obtain ⟨-, a', c', hform, hcells⟩ := HLI.out
      obtain ⟨ee, -, -⟩ := Value.slice.inj hform
      subst ee
      clear hform
      obtain ⟨bk, of, rfl, hbk, hcl⟩ := hcells hlne
      have hbl := (HLO.out.1.lt bk rfl).1
      have hbp : bk ≠ p := by omega
      clear hcells hlne HLI HLO
      have kc0 := Lib.hid fun (z : PastC w3 B p) (j : Nat) (hj : j < m) => PastC.cell (hcl j (by rw [HMM.out]; exact hj)).1 hbk hbp z
      have kc1 := Lib.hid fun (z : PastC w3 B p) (j : Nat) (hj : j < m) => PastC.cell (hcl j (by rw [HMM.out]; exact hj)).2 hbk hbp z
      clear hcl
      have hb := l1BelowC m (z4).drew (by omega) (by omega)
      rw [show (z4).drew.w = (z4).w.drew from rfl] at hb
      have HBA := Lib.hid hb
      clear hb
      go_wp2_with fail
      go_region_with ((go_at_call 98; with_reducible refine HBA.out.mono ?_; rintro e _ ⟨x5, rfl, hx5, zz, rfl⟩; have d0 := kc0.out zz x5 hx5; have d1 := kc1.out zz x5 hx5; obtain ⟨y1, hy1⟩ : ∃ y, (l.getD x5 (0, 0)).1 = y := ⟨_, rfl⟩; obtain ⟨y2, hy2⟩ : ∃ y, (l.getD x5 (0, 0)).2 = y := ⟨_, rfl⟩; rw [hy1] at d0; rw [hy2] at d1; clear hy1 hy2; have hi0 : (0 : Int) ≤ (x5 : Int) := (by omega); have hi1 : (x5 : Int) < (m : Int) := (by omega)))
      all_goals have O9 := Lib.hid (O3.out.apart zz.a (.inr (by omega)))
      all_goals have B9 := Lib.hid (B3.out.trans (zz.a.below (B := w.heap.size) (by omega) (by omega)))
      all_goals have hz9 := zz.size
      all_goals go_wp2_with fail
      all_goals refine bodyPost_ret (v := .tuple #[ctx a (.slice av n cv), conc (y1, y2)]) (by simp [results, Try.results33, go_sem, t0, t1, t2, t3]) rfl ⟨a, y1, y2, _, rs, rfl, HL9.out, ?_, ((((B9.out.setCell (p := ⟨w.heap.size, 0, none⟩) (Nat.le_refl _) _).setCell (p := ⟨w.heap.size, 1, none⟩) (Nat.le_refl _) _).setCell (p := ⟨w.heap.size + 1, 0, none⟩) (Nat.le_succ _) _).setCell (p := ⟨w.heap.size + 1, 1, none⟩) (Nat.le_succ _) _)⟩
      all_goals exact (own_setB (own_setB (own_setB (own_setB O9.out (q := ⟨w.heap.size, 0, none⟩) (.inl (by show w.heap.size < _; omega)) _) (q := ⟨w.heap.size, 1, none⟩) (.inl (by show w.heap.size < _; omega)) _) (q := ⟨w.heap.size + 1, 0, none⟩) (.inl (by show w.heap.size + 1 < _; omega)) _) (q := ⟨w.heap.size + 1, 1, none⟩) (.inl (by show w.heap.size + 1 < _; omega)) _).mono (by omega) (by first | (simp; done) | (simp; omega))
end Go.Proofs.Ytdkgmjbhkifcbaa.Draw
