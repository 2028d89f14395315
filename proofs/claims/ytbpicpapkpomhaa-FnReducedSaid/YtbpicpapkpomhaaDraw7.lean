/-
  Draws of another chapter whose shapes are those of elder ones.
-/
import Derived.Test.YtbpicpapkpomhaaDraw5
namespace Go.Proofs.Ytbpicpapkpomhaa.Draw
open Go Go.RowKit Mem Sets Elems Text Strs Ctx
set_option maxRecDepth 100000

theorem DrawReduceContext (v : Value) (xs : List Int) (B : Nat) (w : World) (hr : Reads w B v (u8s xs)) (hB : B ≤ w.heap.size) (hx : ∀ j, j < xs.length → 0 ≤ xs.getD j 0 ∧ xs.getD j 0 ≤ 255) (hn : xs.length ≤ 1048576) :
    Calls Try.prog 14 #[v] w fun e w' => ∃ (a : Int) (u : Value) (rs : List Int), e = .returned (ctx a u) ∧ rs.length ≤ 9 ∧ Own 3 w' w.heap.size w'.heap.size u (ints rs) ∧ Below w.heap.size w w' := by
  have HN := Lib.hid (newCur v xs B (w.alloc (.cells #[.int .i64 0, .slice none 0 0] 26)) (hr.below ((Below.refl w.heap.size w).alloc (Nat.le_refl _) _) hB) (by simp; omega) hx hn)
  obtain ⟨_, aa, ca, rfl, hca⟩ := hr
  have e0 : (u8s xs).length = xs.length := by simp [u8s]
  rw [e0] at HN ⊢
  clear hca hx e0
  go_enter Try.func14, Try.ntmps14
  go_wp2_with fail
  refine HN.out.mono ?_
  rintro e w1 ⟨p, rfl, hp, c1, hz, b1⟩
  have hp' : w.heap.size + 1 ≤ p := by simpa using hp
  have hz1 : w.heap.size + 2 ≤ w1.heap.size := by simpa using hz
  have hpl := c1.lt
  have R1 := Lib.hid ((BoxAt.new w 26 #[.int .i64 0, .slice none 0 0]).below b1 (by simp))
  have B1 := Lib.hid (((Below.refl w.heap.size w).alloc (Nat.le_refl _) (.cells #[.int .i64 0, .slice none 0 0] 26)).trans (b1.mono (by simp)))
  clear b1 hp hz HN
  go_wp2_with fail
  refine (l3Bent B p _ c1).mono ?_
  rintro e w2 ⟨a, u, rs, rfl, -, -, hl9, o, c2, a2⟩
  obtain ⟨av, cv, rfl⟩ := own_form o
  have hz2 := a2.size
  have r2 := boxA R1.out a2 (.inl (by omega))
  have B2 := Lib.hid (B1.out.trans (a2.below (B := w.heap.size) (by omega) (by omega)))
  have O2 := Lib.hid o
  have HL := Lib.hid hl9
  have e0 : w2.cell? ⟨w.heap.size, 0, none⟩ = some (.int .i64 0) := r2.cell 0
  have e1 : w2.cell? ⟨w.heap.size, 1, none⟩ = some (.slice none 0 0) := r2.cell 1
  have f0 := r2.free 0
  have f1 := r2.free 1
  clear o c2 a2 c1 r2 hl9
  go_wp2_with fail
  refine bodyPost_ret (v := ctx a (.slice av rs.length cv)) (by simp [results, Try.results14, go_sem, e0, e1]) rfl ⟨a, _, rs, rfl, HL.out, ?_, ((B2.out.setCell (p := ⟨w.heap.size, 0, none⟩) (Nat.le_refl _) _).setCell (p := ⟨w.heap.size, 1, none⟩) (Nat.le_refl _) _)⟩
  exact (own_setB (own_setB O2.out (q := ⟨w.heap.size, 0, none⟩) (.inl (by show w.heap.size < _; omega)) _) (q := ⟨w.heap.size, 1, none⟩) (.inl (by show w.heap.size < _; omega)) _).mono (by omega) (by first | (simp; done) | (simp; omega))
theorem DrawClarify (v : Value) (xs : List Int) (B : Nat) (w : World) (hr : Reads w B v (u8s xs)) (hB : B ≤ w.heap.size) (hx : ∀ j, j < xs.length → 0 ≤ xs.getD j 0 ∧ xs.getD j 0 ≤ 255) (hn : xs.length ≤ 1048576) :
    Calls Try.prog 17 #[v] w fun e w' => ∃ (a : Int) (u : Value) (rs : List Int), e = .returned (ctx a u) ∧ rs.length ≤ 9 ∧ Own 3 w' w.heap.size w'.heap.size u (ints rs) ∧ Below w.heap.size w w' := by
  have HN := Lib.hid (newCur v xs B (w.alloc (.cells #[.int .i64 0, .slice none 0 0] 26)) (hr.below ((Below.refl w.heap.size w).alloc (Nat.le_refl _) _) hB) (by simp; omega) hx hn)
  obtain ⟨_, aa, ca, rfl, hca⟩ := hr
  have e0 : (u8s xs).length = xs.length := by simp [u8s]
  rw [e0] at HN ⊢
  clear hca hx e0
  go_enter Try.func17, Try.ntmps17
  go_wp2_with fail
  refine HN.out.mono ?_
  rintro e w1 ⟨p, rfl, hp, c1, hz, b1⟩
  have hp' : w.heap.size + 1 ≤ p := by simpa using hp
  have hz1 : w.heap.size + 2 ≤ w1.heap.size := by simpa using hz
  have hpl := c1.lt
  have R1 := Lib.hid ((BoxAt.new w 26 #[.int .i64 0, .slice none 0 0]).below b1 (by simp))
  have B1 := Lib.hid (((Below.refl w.heap.size w).alloc (Nat.le_refl _) (.cells #[.int .i64 0, .slice none 0 0] 26)).trans (b1.mono (by simp)))
  clear b1 hp hz HN
  go_wp2_with fail
  refine (l3Bent B p _ c1).mono ?_
  rintro e w2 ⟨a, u, rs, rfl, -, -, hl9, o, c2, a2⟩
  obtain ⟨av, cv, rfl⟩ := own_form o
  have hz2 := a2.size
  have r2 := boxA R1.out a2 (.inl (by omega))
  have B2 := Lib.hid (B1.out.trans (a2.below (B := w.heap.size) (by omega) (by omega)))
  have O2 := Lib.hid o
  have HL := Lib.hid hl9
  have e0 : w2.cell? ⟨w.heap.size, 0, none⟩ = some (.int .i64 0) := r2.cell 0
  have e1 : w2.cell? ⟨w.heap.size, 1, none⟩ = some (.slice none 0 0) := r2.cell 1
  have f0 := r2.free 0
  have f1 := r2.free 1
  clear o c2 a2 c1 r2 hl9
  go_wp2_with fail
  refine bodyPost_ret (v := ctx a (.slice av rs.length cv)) (by simp [results, Try.results17, go_sem, e0, e1]) rfl ⟨a, _, rs, rfl, HL.out, ?_, ((B2.out.setCell (p := ⟨w.heap.size, 0, none⟩) (Nat.le_refl _) _).setCell (p := ⟨w.heap.size, 1, none⟩) (Nat.le_refl _) _)⟩
  exact (own_setB (own_setB O2.out (q := ⟨w.heap.size, 0, none⟩) (.inl (by show w.heap.size < _; omega)) _) (q := ⟨w.heap.size, 1, none⟩) (.inl (by show w.heap.size < _; omega)) _).mono (by omega) (by first | (simp; done) | (simp; omega))
theorem DrawDropObjects (v : Value) (xs : List Int) (B : Nat) (w : World) (hr : Reads w B v (u8s xs)) (hB : B ≤ w.heap.size) (hx : ∀ j, j < xs.length → 0 ≤ xs.getD j 0 ∧ xs.getD j 0 ≤ 255) (hn : xs.length ≤ 1048576) :
    Calls Try.prog 20 #[v] w fun e w' => ∃ (a s : Int) (u : Value) (rs : List Int), e = .returned (.tuple #[ctx a u, .int .i64 s]) ∧ -1 ≤ a ∧ a ≤ 7 ∧ rs.length ≤ 9 ∧ Own 3 w' w.heap.size w'.heap.size u (ints rs) ∧ Below w.heap.size w w' := by
  have HN := Lib.hid (l4Objects v xs B (w.alloc (.cells #[.int .i64 0, .slice none 0 0] 26)) (hr.below ((Below.refl w.heap.size w).alloc (Nat.le_refl _) _) hB) (by simp; omega) hx hn)
  obtain ⟨_, aa, ca, rfl, hca⟩ := hr
  have e0 : (u8s xs).length = xs.length := by simp [u8s]
  rw [e0] at HN ⊢
  clear hca hx e0
  go_enter Try.func20, Try.ntmps20
  go_wp2_with fail
  refine HN.out.mono ?_
  rintro e w1 ⟨a, s, u, rs, rfl, ha1, ha7, hl, o, b1⟩
  obtain ⟨av, cv, rfl⟩ := own_form o
  have hz1 : w.heap.size + 1 ≤ w1.heap.size := by have := b1.size; simpa using this
  have R1 := Lib.hid (((BoxAt.new w 26 #[.int .i64 0, .slice none 0 0]).below b1 (by simp)).alloc (.cells #[.int .i64 a, .slice av rs.length cv] 26))
  have G1 := Lib.hid (BoxAt.new w1 26 #[.int .i64 a, .slice av rs.length cv])
  have O1 := Lib.hid (o.below ((Below.refl w1.heap.size w1).alloc (Nat.le_refl _) (.cells #[.int .i64 a, .slice av rs.length cv] 26)) (Nat.le_refl _))
  have B1 := Lib.hid ((((Below.refl w.heap.size w).alloc (Nat.le_refl _) (.cells #[.int .i64 0, .slice none 0 0] 26)).trans (b1.mono (by simp))).alloc (by omega : w.heap.size ≤ w1.heap.size) (.cells #[.int .i64 a, .slice av rs.length cv] 26))
  have HL := Lib.hid hl
  have hlo : w.heap.size < (w.alloc (.cells #[.int .i64 0, .slice none 0 0] 26)).heap.size := by simp
  obtain ⟨n, hn⟩ : ∃ n, rs.length = n := ⟨_, rfl⟩
  rw [hn] at R1 G1 O1 B1 ⊢
  clear hn o b1 hl HN
  have e0 : (w1.alloc (.cells #[.int .i64 a, .slice av n cv] 26)).cell? ⟨w.heap.size, 0, none⟩ = some (.int .i64 0) := R1.out.cell 0
  have e1 : (w1.alloc (.cells #[.int .i64 a, .slice av n cv] 26)).cell? ⟨w.heap.size, 1, none⟩ = some (.slice none 0 0) := R1.out.cell 1
  have f0 : (w1.alloc (.cells #[.int .i64 a, .slice av n cv] 26)).frozen? ⟨w.heap.size, 0, none⟩ = false := R1.out.free 0
  have f1 : (w1.alloc (.cells #[.int .i64 a, .slice av n cv] 26)).frozen? ⟨w.heap.size, 1, none⟩ = false := R1.out.free 1
  have HLO := Lib.hid hlo
  clear hlo
  go_wp2_with fail
  refine bodyPost_ret (v := .tuple #[ctx a (.slice av n cv), .int .i64 s]) (by simp [results, Try.results20, go_sem, e0, e1]) rfl ⟨a, s, _, rs, rfl, ha1, ha7, HL.out, ?_, ((B1.out.setCell (p := ⟨w.heap.size, 0, none⟩) (Nat.le_refl _) _).setCell (p := ⟨w.heap.size, 1, none⟩) (Nat.le_refl _) _)⟩
  exact (own_setB (own_setB O1.out (q := ⟨w.heap.size, 0, none⟩) (.inl HLO.out) _) (q := ⟨w.heap.size, 1, none⟩) (.inl HLO.out) _).mono (Nat.le_of_lt HLO.out) (by first | (simp; done) | (simp; omega))
theorem DrawDropAttributes (v : Value) (xs : List Int) (B : Nat) (w : World) (hr : Reads w B v (u8s xs)) (hB : B ≤ w.heap.size) (hx : ∀ j, j < xs.length → 0 ≤ xs.getD j 0 ∧ xs.getD j 0 ≤ 255) (hn : xs.length ≤ 1048576) :
    Calls Try.prog 23 #[v] w fun e w' => ∃ (a s : Int) (u : Value) (rs : List Int), e = .returned (.tuple #[ctx a u, .int .i64 s]) ∧ -1 ≤ a ∧ a ≤ 7 ∧ rs.length ≤ 9 ∧ Own 3 w' w.heap.size w'.heap.size u (ints rs) ∧ Below w.heap.size w w' := by
  have HN := Lib.hid (l4Attributes v xs B (w.alloc (.cells #[.int .i64 0, .slice none 0 0] 26)) (hr.below ((Below.refl w.heap.size w).alloc (Nat.le_refl _) _) hB) (by simp; omega) hx hn)
  obtain ⟨_, aa, ca, rfl, hca⟩ := hr
  have e0 : (u8s xs).length = xs.length := by simp [u8s]
  rw [e0] at HN ⊢
  clear hca hx e0
  go_enter Try.func23, Try.ntmps23
  go_wp2_with fail
  refine HN.out.mono ?_
  rintro e w1 ⟨a, s, u, rs, rfl, ha1, ha7, hl, o, b1⟩
  obtain ⟨av, cv, rfl⟩ := own_form o
  have hz1 : w.heap.size + 1 ≤ w1.heap.size := by have := b1.size; simpa using this
  have R1 := Lib.hid (((BoxAt.new w 26 #[.int .i64 0, .slice none 0 0]).below b1 (by simp)).alloc (.cells #[.int .i64 a, .slice av rs.length cv] 26))
  have G1 := Lib.hid (BoxAt.new w1 26 #[.int .i64 a, .slice av rs.length cv])
  have O1 := Lib.hid (o.below ((Below.refl w1.heap.size w1).alloc (Nat.le_refl _) (.cells #[.int .i64 a, .slice av rs.length cv] 26)) (Nat.le_refl _))
  have B1 := Lib.hid ((((Below.refl w.heap.size w).alloc (Nat.le_refl _) (.cells #[.int .i64 0, .slice none 0 0] 26)).trans (b1.mono (by simp))).alloc (by omega : w.heap.size ≤ w1.heap.size) (.cells #[.int .i64 a, .slice av rs.length cv] 26))
  have HL := Lib.hid hl
  have hlo : w.heap.size < (w.alloc (.cells #[.int .i64 0, .slice none 0 0] 26)).heap.size := by simp
  obtain ⟨n, hn⟩ : ∃ n, rs.length = n := ⟨_, rfl⟩
  rw [hn] at R1 G1 O1 B1 ⊢
  clear hn o b1 hl HN
  have e0 : (w1.alloc (.cells #[.int .i64 a, .slice av n cv] 26)).cell? ⟨w.heap.size, 0, none⟩ = some (.int .i64 0) := R1.out.cell 0
  have e1 : (w1.alloc (.cells #[.int .i64 a, .slice av n cv] 26)).cell? ⟨w.heap.size, 1, none⟩ = some (.slice none 0 0) := R1.out.cell 1
  have f0 : (w1.alloc (.cells #[.int .i64 a, .slice av n cv] 26)).frozen? ⟨w.heap.size, 0, none⟩ = false := R1.out.free 0
  have f1 : (w1.alloc (.cells #[.int .i64 a, .slice av n cv] 26)).frozen? ⟨w.heap.size, 1, none⟩ = false := R1.out.free 1
  have HLO := Lib.hid hlo
  clear hlo
  go_wp2_with fail
  refine bodyPost_ret (v := .tuple #[ctx a (.slice av n cv), .int .i64 s]) (by simp [results, Try.results23, go_sem, e0, e1]) rfl ⟨a, s, _, rs, rfl, ha1, ha7, HL.out, ?_, ((B1.out.setCell (p := ⟨w.heap.size, 0, none⟩) (Nat.le_refl _) _).setCell (p := ⟨w.heap.size, 1, none⟩) (Nat.le_refl _) _)⟩
  exact (own_setB (own_setB O1.out (q := ⟨w.heap.size, 0, none⟩) (.inl HLO.out) _) (q := ⟨w.heap.size, 1, none⟩) (.inl HLO.out) _).mono (Nat.le_of_lt HLO.out) (by first | (simp; done) | (simp; omega))
theorem DrawIsReducibleObject (v : Value) (xs : List Int) (B : Nat) (w : World) (hr : Reads w B v (u8s xs)) (hB : B ≤ w.heap.size) (hx : ∀ j, j < xs.length → 0 ≤ xs.getD j 0 ∧ xs.getD j 0 ≤ 255) (hn : xs.length ≤ 1048576) :
    Calls Try.prog 26 #[v] w fun e w' => ∃ (a x : Int) (u : Value) (rs : List Int), e = .returned (.tuple #[ctx a u, .int .i64 x]) ∧ rs.length ≤ 9 ∧ Own 3 w' w.heap.size w'.heap.size u (ints rs) ∧ Below w.heap.size w w' := by
  have HN := Lib.hid (DrawColumnOf v xs B (w.alloc (.cells #[.int .i64 0, .slice none 0 0] 26)) (hr.below ((Below.refl w.heap.size w).alloc (Nat.le_refl _) _) hB) (by simp; omega) hx hn)
  obtain ⟨_, aa, ca, rfl, hca⟩ := hr
  have e0 : (u8s xs).length = xs.length := by simp [u8s]
  rw [e0] at HN ⊢
  clear hca hx e0
  go_enter Try.func26, Try.ntmps26
  go_wp2_with fail
  refine HN.out.mono ?_
  rintro e w1 ⟨a, s, u, rs, rfl, hl, o, b1⟩
  obtain ⟨av, cv, rfl⟩ := own_form o
  have hz1 : w.heap.size + 1 ≤ w1.heap.size := by have := b1.size; simpa using this
  have R1 := Lib.hid (((BoxAt.new w 26 #[.int .i64 0, .slice none 0 0]).below b1 (by simp)).alloc (.cells #[.int .i64 a, .slice av rs.length cv] 26))
  have G1 := Lib.hid (BoxAt.new w1 26 #[.int .i64 a, .slice av rs.length cv])
  have O1 := Lib.hid (o.below ((Below.refl w1.heap.size w1).alloc (Nat.le_refl _) (.cells #[.int .i64 a, .slice av rs.length cv] 26)) (Nat.le_refl _))
  have B1 := Lib.hid ((((Below.refl w.heap.size w).alloc (Nat.le_refl _) (.cells #[.int .i64 0, .slice none 0 0] 26)).trans (b1.mono (by simp))).alloc (by omega : w.heap.size ≤ w1.heap.size) (.cells #[.int .i64 a, .slice av rs.length cv] 26))
  have HL := Lib.hid hl
  have hlo : w.heap.size < (w.alloc (.cells #[.int .i64 0, .slice none 0 0] 26)).heap.size := by simp
  obtain ⟨n, hn⟩ : ∃ n, rs.length = n := ⟨_, rfl⟩
  rw [hn] at R1 G1 O1 B1 ⊢
  clear hn o b1 hl HN
  have e0 : (w1.alloc (.cells #[.int .i64 a, .slice av n cv] 26)).cell? ⟨w.heap.size, 0, none⟩ = some (.int .i64 0) := R1.out.cell 0
  have e1 : (w1.alloc (.cells #[.int .i64 a, .slice av n cv] 26)).cell? ⟨w.heap.size, 1, none⟩ = some (.slice none 0 0) := R1.out.cell 1
  have f0 : (w1.alloc (.cells #[.int .i64 a, .slice av n cv] 26)).frozen? ⟨w.heap.size, 0, none⟩ = false := R1.out.free 0
  have f1 : (w1.alloc (.cells #[.int .i64 a, .slice av n cv] 26)).frozen? ⟨w.heap.size, 1, none⟩ = false := R1.out.free 1
  have HLO := Lib.hid hlo
  clear hlo
  go_wp2_with fail
  refine bodyPost_ret (v := .tuple #[ctx a (.slice av n cv), .int .i64 s]) (by simp [results, Try.results26, go_sem, e0, e1]) rfl ⟨a, s, _, rs, rfl, HL.out, ?_, ((B1.out.setCell (p := ⟨w.heap.size, 0, none⟩) (Nat.le_refl _) _).setCell (p := ⟨w.heap.size, 1, none⟩) (Nat.le_refl _) _)⟩
  exact (own_setB (own_setB O1.out (q := ⟨w.heap.size, 0, none⟩) (.inl HLO.out) _) (q := ⟨w.heap.size, 1, none⟩) (.inl HLO.out) _).mono (Nat.le_of_lt HLO.out) (by first | (simp; done) | (simp; omega))
end Go.Proofs.Ytbpicpapkpomhaa.Draw
