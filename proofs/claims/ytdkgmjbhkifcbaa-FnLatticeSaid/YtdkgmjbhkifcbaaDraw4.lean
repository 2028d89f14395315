/-
  Draws of a context with a set: each call returns a context and a number, in memory of its own.
-/
import Derived.Test.YtdkgmjbhkifcbaaDraw3
namespace Go.Proofs.Ytdkgmjbhkifcbaa.Draw
open Go Go.RowKit Mem Sets Elems Text Strs Ctx
set_option maxRecDepth 100000

theorem own_setB {e : TypeId} {w : World} {lo hi : Nat} {v : Value} {cs : List Value} (h : Own e w lo hi v cs) {q : Addr} (hq : q.block < lo ∨ hi ≤ q.block) (u : Value) : Own e (w.setCell q u) lo hi v cs := own_set h hq u
set_option maxHeartbeats 1600000 in
theorem l4Objects (v : Value) (xs : List Int) (B : Nat) (w : World) (hr : Reads w B v (u8s xs)) (hB : B ≤ w.heap.size) (hx : ∀ j, j < xs.length → 0 ≤ xs.getD j 0 ∧ xs.getD j 0 ≤ 255) (hn : xs.length ≤ 1048576) :
    Calls Try.prog 83 #[v] w fun e w' => ∃ (a s : Int) (u : Value) (rs : List Int), e = .returned (.tuple #[ctx a u, .int .i64 s]) ∧ -1 ≤ a ∧ a ≤ 7 ∧ rs.length ≤ 9 ∧ Own 3 w' w.heap.size w'.heap.size u (ints rs) ∧ Below w.heap.size w w' := by
  have HN := Lib.hid (newCur v xs B (w.alloc (.cells #[.int .i64 0, .slice none 0 0] 26)) (hr.below ((Below.refl w.heap.size w).alloc (Nat.le_refl _) _) hB) (by simp; omega) hx hn)
  obtain ⟨_, aa, ca, rfl, hca⟩ := hr
  have e0 : (u8s xs).length = xs.length := by simp [u8s]
  rw [e0] at HN ⊢
  clear hca hx e0
  go_enter Try.func83, Try.ntmps83
  go_wp2_with fail
  refine HN.out.mono ?_
  rintro e w1 ⟨p, rfl, hp, c1, hz, b1⟩
  have hp' : w.heap.size + 1 ≤ p := by simpa using hp
  have hz1 : w.heap.size + 2 ≤ w1.heap.size := by simpa using hz
  have hpl := c1.lt
  have R1 := Lib.hid ((BoxAt.new w 26 #[.int .i64 0, .slice none 0 0]).below b1 (by simp))
  have B1 := Lib.hid (((Below.refl w.heap.size w).alloc (Nat.le_refl _) (.cells #[.int .i64 0, .slice none 0 0] 26)).trans (b1.mono (by simp)))
  clear b1 hp hz HN
  go_wp2_with fail
  refine (l3Draw B p _ c1).mono ?_
  rintro e w2 ⟨a, v, rs, rfl, ha5, hl6, hall, o, c2, a2⟩
  obtain ⟨av, cv, rfl⟩ := own_form o
  have hz2 := a2.size
  have R2 := Lib.hid ((boxA R1.out a2 (.inl (by omega))).alloc (.cells #[.int .i64 a, .slice av rs.length cv] 26))
  have B2 := Lib.hid ((B1.out.trans (a2.below (B := w.heap.size) (by omega) (by omega))).alloc (by omega : w.heap.size ≤ w2.heap.size) (.cells #[.int .i64 a, .slice av rs.length cv] 26))
  have G2 := Lib.hid (BoxAt.new w2 26 #[.int .i64 a, .slice av rs.length cv])
  have O2 := Lib.hid (o.below ((Below.refl w2.heap.size w2).alloc (Nat.le_refl _) (.cells #[.int .i64 a, .slice av rs.length cv] 26)) (Nat.le_refl _))
  have C2 := Lib.hid (c2.alloc (.cells #[.int .i64 a, .slice av rs.length cv] 26))
  clear o c2 a2 c1 hall
  obtain ⟨n, hn⟩ : ∃ n, rs.length = n := ⟨_, rfl⟩
  have HN := Lib.hid hn
  rw [hn] at R2 B2 G2 O2 C2 hl6 ⊢
  clear hn
  obtain ⟨q, hq⟩ : ∃ q, wrap64 (2 ^ n) = q := ⟨_, rfl⟩
  have hqv : ∃ m : Nat, q = m ∧ 1 ≤ m ∧ m ≤ 256 := by
    refine ⟨2 ^ n, ?_, Nat.pow_pos (by omega), pow_le8 (by omega)⟩
    have : 2 ^ n ≤ 256 := pow_le8 (by omega)
    rw [← hq]
    have e : ((2 : Int) ^ n) = ((2 ^ n : Nat) : Int) := by simp
    rw [e]
    generalize 2 ^ n = z at this
    exact IntWalk.wrap64_in _ ⟨by omega, by omega⟩
  go_wp2_with fail
  obtain ⟨m, rfl, hm1, hm2⟩ := hqv
  clear hq
  have hg0 : w2.heap.size < (w2.alloc (.cells #[.int .i64 a, .slice av n cv] 26)).heap.size := by simp
  generalize w2.alloc (.cells #[.int .i64 a, .slice av n cv] 26) = W at R2 B2 G2 O2 C2 hg0 ⊢
  obtain ⟨g, hg⟩ : ∃ g, w2.heap.size = g := ⟨_, rfl⟩
  rw [hg] at G2 O2 hg0 hz2 ⊢
  clear hg
  refine (l1Below B p m _ C2.out hm1 (by omega)).mono ?_
  rintro e w3 ⟨s, rfl, hs, c3, a3⟩
  have R3 := Lib.hid (boxA R2.out a3 (.inl (by omega)))
  have G3 := Lib.hid (boxA G2.out a3 (.inr (by omega)))
  have O3 := Lib.hid (O2.out.apart a3 (.inr (by omega)))
  have B3 := Lib.hid (B2.out.trans (a3.below (B := w.heap.size) (by omega) (by omega)))
  have C3 := Lib.hid c3
  have hz3 := a3.size
  clear a3 c3 R2 G2 O2 B2 C2
  go_wp2_with fail
  refine (l1Below B p 16 _ C3.out (by omega) (by omega)).mono ?_
  rintro e w4 ⟨y, rfl, hy, c4, a4⟩
  have R4 := Lib.hid (boxA R3.out a4 (.inl (by omega)))
  have G4 := Lib.hid (boxA G3.out a4 (.inr (by omega)))
  have O4 := Lib.hid (O3.out.apart a4 (.inr (by omega)))
  have B4 := Lib.hid (B3.out.trans (a4.below (B := w.heap.size) (by omega) (by omega)))
  have C4 := Lib.hid c4
  have hz4 := a4.size
  clear a4 c4 R3 G3 O3 B3 C3
  by_cases h0 : y = 0
  · subst h0
    go_wp2_with fail
    refine (l3Bent B p _ C4.out).mono ?_
    rintro e w5 ⟨a', v', rs', rfl, ha1, ha7, hl9, o5, c5, a5⟩
    obtain ⟨av', cv', rfl⟩ := own_form o5
    have R5 := Lib.hid (boxA R4.out a5 (.inl (by omega)))
    have g5 := boxA G4.out a5 (.inr (by omega))
    have k0 : w5.cell? ⟨g, 0, none⟩ = some (.int .i64 a) := g5.cell 0
    have k1 : w5.cell? ⟨g, 1, none⟩ = some (.slice av n cv) := g5.cell 1
    have fk0 : w5.frozen? ⟨g, 0, none⟩ = false := g5.free 0
    have fk1 : w5.frozen? ⟨g, 1, none⟩ = false := g5.free 1
    have hz5 := a5.size
    have hgl : g < w4.heap.size := by omega
    have hrg : w.heap.size ≠ g := by omega
    obtain ⟨n', hn'⟩ : ∃ n, rs'.length = n := ⟨_, rfl⟩
    have HL' := Lib.hid hl9
    rw [hn'] at o5 ⊢
    clear hn' hl9
    have B5 := Lib.hid (((B4.out.trans (a5.below (B := w.heap.size) (by omega) (by omega))).setCell (p := ⟨g, 0, none⟩) (by show w.heap.size ≤ g; omega) (.int .i64 a')).setCell (p := ⟨g, 1, none⟩) (by show w.heap.size ≤ g; omega) (.slice av' n' cv'))
    have O5 := Lib.hid (own_setB (own_setB o5 (q := ⟨g, 0, none⟩) (.inl hgl) (.int .i64 a')) (q := ⟨g, 1, none⟩) (.inl hgl) (.slice av' n' cv'))
    have G5 := Lib.hid ((g5.set 0 (.int .i64 a')).set 1 (.slice av' n' cv'))
    have R6 := Lib.hid ((R5.out.far (p := ⟨g, 0, none⟩) hrg (.int .i64 a')).far (p := ⟨g, 1, none⟩) hrg (.slice av' n' cv'))
    clear g5 o5 c5 a5 R4 G4 O4 B4 C4 R5
    have R5 := R6
    clear R6
    have c0 : ((w5.setCell ⟨g, 0, none⟩ (.int .i64 a')).setCell ⟨g, 1, none⟩ (.slice av' n' cv')).cell? ⟨g, 0, none⟩ = some (.int .i64 a') := G5.out.cell 0
    have c1 : ((w5.setCell ⟨g, 0, none⟩ (.int .i64 a')).setCell ⟨g, 1, none⟩ (.slice av' n' cv')).cell? ⟨g, 1, none⟩ = some (.slice av' n' cv') := G5.out.cell 1
    have e0 : ((w5.setCell ⟨g, 0, none⟩ (.int .i64 a')).setCell ⟨g, 1, none⟩ (.slice av' n' cv')).cell? ⟨w.heap.size, 0, none⟩ = some (.int .i64 0) := R5.out.cell 0
    have e1 : ((w5.setCell ⟨g, 0, none⟩ (.int .i64 a')).setCell ⟨g, 1, none⟩ (.slice av' n' cv')).cell? ⟨w.heap.size, 1, none⟩ = some (.slice none 0 0) := R5.out.cell 1
    have f0 : ((w5.setCell ⟨g, 0, none⟩ (.int .i64 a')).setCell ⟨g, 1, none⟩ (.slice av' n' cv')).frozen? ⟨w.heap.size, 0, none⟩ = false := R5.out.free 0
    have f1 : ((w5.setCell ⟨g, 0, none⟩ (.int .i64 a')).setCell ⟨g, 1, none⟩ (.slice av' n' cv')).frozen? ⟨w.heap.size, 1, none⟩ = false := R5.out.free 1
    go_wp2_with fail
    refine bodyPost_ret (v := .tuple #[ctx a' (.slice av' n' cv'), .int .i64 (s : Int)]) (by simp [results, Try.results83, go_sem, e0, e1]) rfl ⟨a', (s : Int), _, rs', rfl, ha1, ha7, HL'.out, ?_, ((B5.out.setCell (p := ⟨w.heap.size, 0, none⟩) (Nat.le_refl _) _).setCell (p := ⟨w.heap.size, 1, none⟩) (Nat.le_refl _) _)⟩
    exact (own_setB (own_setB O5.out (q := ⟨w.heap.size, 0, none⟩) (.inl (by show w.heap.size < _; omega)) _) (q := ⟨w.heap.size, 1, none⟩) (.inl (by show w.heap.size < _; omega)) _).mono (by omega) (by first | (simp; done) | (simp; omega))
  · have HL' : Hid (rs.length ≤ 9) := Lib.hid (by have := HN.out; omega)
    by_cases h1 : y = 1
    · subst h1
      go_wp2_with fail
      refine (l2Bent B p _ C4.out).mono ?_
      rintro e w5 ⟨x, rfl, c5, a5⟩
      have R5 := Lib.hid (boxA R4.out a5 (.inl (by omega)))
      have G5 := Lib.hid (boxA G4.out a5 (.inr (by omega)))
      have O5 := Lib.hid (O4.out.apart a5 (.inr (by omega)))
      have B5 := Lib.hid (B4.out.trans (a5.below (B := w.heap.size) (by omega) (by omega)))
      have C5 := Lib.hid c5
      have hz5 := a5.size
      clear a5 c5 R4 G4 O4 B4 C4
      have c0 : w5.cell? ⟨g, 0, none⟩ = some (.int .i64 (a : Int)) := G5.out.cell 0
      have c1 : w5.cell? ⟨g, 1, none⟩ = some (.slice av n cv) := G5.out.cell 1
      have e0 : w5.cell? ⟨w.heap.size, 0, none⟩ = some (.int .i64 0) := R5.out.cell 0
      have e1 : w5.cell? ⟨w.heap.size, 1, none⟩ = some (.slice none 0 0) := R5.out.cell 1
      have f0 : w5.frozen? ⟨w.heap.size, 0, none⟩ = false := R5.out.free 0
      have f1 : w5.frozen? ⟨w.heap.size, 1, none⟩ = false := R5.out.free 1
      go_wp2_with fail
      refine bodyPost_ret (v := .tuple #[ctx (a : Int) (.slice av n cv), .int .i64 x]) (by simp [results, Try.results83, go_sem, e0, e1]) rfl ⟨(a : Int), x, _, rs, rfl, by omega, by omega, HL'.out, ?_, ((B5.out.setCell (p := ⟨w.heap.size, 0, none⟩) (Nat.le_refl _) _).setCell (p := ⟨w.heap.size, 1, none⟩) (Nat.le_refl _) _)⟩
      exact (own_setB (own_setB O5.out (q := ⟨w.heap.size, 0, none⟩) (.inl (by show w.heap.size < _; omega)) _) (q := ⟨w.heap.size, 1, none⟩) (.inl (by show w.heap.size < _; omega)) _).mono (by omega) (by first | (simp; done) | (simp; omega))
    · clear hz1
      have c0 : w4.cell? ⟨g, 0, none⟩ = some (.int .i64 (a : Int)) := G4.out.cell 0
      have c1 : w4.cell? ⟨g, 1, none⟩ = some (.slice av n cv) := G4.out.cell 1
      have e0 : w4.cell? ⟨w.heap.size, 0, none⟩ = some (.int .i64 0) := R4.out.cell 0
      have e1 : w4.cell? ⟨w.heap.size, 1, none⟩ = some (.slice none 0 0) := R4.out.cell 1
      have f0 : w4.frozen? ⟨w.heap.size, 0, none⟩ = false := R4.out.free 0
      have f1 : w4.frozen? ⟨w.heap.size, 1, none⟩ = false := R4.out.free 1
      go_wp2_with fail
      refine bodyPost_ret (v := .tuple #[ctx (a : Int) (.slice av n cv), .int .i64 (s : Int)]) (by simp [results, Try.results83, go_sem, e0, e1]) rfl ⟨(a : Int), (s : Int), _, rs, rfl, by omega, by omega, HL'.out, ?_, ((B4.out.setCell (p := ⟨w.heap.size, 0, none⟩) (Nat.le_refl _) _).setCell (p := ⟨w.heap.size, 1, none⟩) (Nat.le_refl _) _)⟩
      exact (own_setB (own_setB O4.out (q := ⟨w.heap.size, 0, none⟩) (.inl (by show w.heap.size < _; omega)) _) (q := ⟨w.heap.size, 1, none⟩) (.inl (by show w.heap.size < _; omega)) _).mono (by omega) (by first | (simp; done) | (simp; omega))
set_option maxHeartbeats 1600000 in
theorem l4Attributes (v : Value) (xs : List Int) (B : Nat) (w : World) (hr : Reads w B v (u8s xs)) (hB : B ≤ w.heap.size) (hx : ∀ j, j < xs.length → 0 ≤ xs.getD j 0 ∧ xs.getD j 0 ≤ 255) (hn : xs.length ≤ 1048576) :
    Calls Try.prog 84 #[v] w fun e w' => ∃ (a s : Int) (u : Value) (rs : List Int), e = .returned (.tuple #[ctx a u, .int .i64 s]) ∧ -1 ≤ a ∧ a ≤ 7 ∧ rs.length ≤ 9 ∧ Own 3 w' w.heap.size w'.heap.size u (ints rs) ∧ Below w.heap.size w w' := by
  have HN := Lib.hid (newCur v xs B (w.alloc (.cells #[.int .i64 0, .slice none 0 0] 26)) (hr.below ((Below.refl w.heap.size w).alloc (Nat.le_refl _) _) hB) (by simp; omega) hx hn)
  obtain ⟨_, aa, ca, rfl, hca⟩ := hr
  have e0 : (u8s xs).length = xs.length := by simp [u8s]
  rw [e0] at HN ⊢
  clear hca hx e0
  go_enter Try.func84, Try.ntmps84
  go_wp2_with fail
  refine HN.out.mono ?_
  rintro e w1 ⟨p, rfl, hp, c1, hz, b1⟩
  have hp' : w.heap.size + 1 ≤ p := by simpa using hp
  have hz1 : w.heap.size + 2 ≤ w1.heap.size := by simpa using hz
  have hpl := c1.lt
  have R1 := Lib.hid ((BoxAt.new w 26 #[.int .i64 0, .slice none 0 0]).below b1 (by simp))
  have B1 := Lib.hid (((Below.refl w.heap.size w).alloc (Nat.le_refl _) (.cells #[.int .i64 0, .slice none 0 0] 26)).trans (b1.mono (by simp)))
  clear b1 hp hz HN
  go_wp2_with fail
  refine (l3Draw B p _ c1).mono ?_
  rintro e w2 ⟨a, v, rs, rfl, ha5, hl6, hall, o, c2, a2⟩
  obtain ⟨av, cv, rfl⟩ := own_form o
  have hz2 := a2.size
  have R2 := Lib.hid ((boxA R1.out a2 (.inl (by omega))).alloc (.cells #[.int .i64 a, .slice av rs.length cv] 26))
  have B2 := Lib.hid ((B1.out.trans (a2.below (B := w.heap.size) (by omega) (by omega))).alloc (by omega : w.heap.size ≤ w2.heap.size) (.cells #[.int .i64 a, .slice av rs.length cv] 26))
  have G2 := Lib.hid (BoxAt.new w2 26 #[.int .i64 a, .slice av rs.length cv])
  have O2 := Lib.hid (o.below ((Below.refl w2.heap.size w2).alloc (Nat.le_refl _) (.cells #[.int .i64 a, .slice av rs.length cv] 26)) (Nat.le_refl _))
  have C2 := Lib.hid (c2.alloc (.cells #[.int .i64 a, .slice av rs.length cv] 26))
  clear o c2 a2 c1 hall
  obtain ⟨n, hn⟩ : ∃ n, rs.length = n := ⟨_, rfl⟩
  have HN := Lib.hid hn
  rw [hn] at R2 B2 G2 O2 C2 hl6 ⊢
  clear hn
  obtain ⟨q, hq⟩ : ∃ q, wrap64 (2 ^ a) = q := ⟨_, rfl⟩
  have hqv : ∃ m : Nat, q = m ∧ 1 ≤ m ∧ m ≤ 256 := by
    refine ⟨2 ^ a, ?_, Nat.pow_pos (by omega), pow_le8 (by omega)⟩
    have : 2 ^ a ≤ 256 := pow_le8 (by omega)
    rw [← hq]
    have e : ((2 : Int) ^ a) = ((2 ^ a : Nat) : Int) := by simp
    rw [e]
    generalize 2 ^ a = z at this
    exact IntWalk.wrap64_in _ ⟨by omega, by omega⟩
  go_wp2_with fail
  obtain ⟨m, rfl, hm1, hm2⟩ := hqv
  clear hq
  have hg0 : w2.heap.size < (w2.alloc (.cells #[.int .i64 a, .slice av n cv] 26)).heap.size := by simp
  generalize w2.alloc (.cells #[.int .i64 a, .slice av n cv] 26) = W at R2 B2 G2 O2 C2 hg0 ⊢
  obtain ⟨g, hg⟩ : ∃ g, w2.heap.size = g := ⟨_, rfl⟩
  rw [hg] at G2 O2 hg0 hz2 ⊢
  clear hg
  refine (l1Below B p m _ C2.out hm1 (by omega)).mono ?_
  rintro e w3 ⟨s, rfl, hs, c3, a3⟩
  have R3 := Lib.hid (boxA R2.out a3 (.inl (by omega)))
  have G3 := Lib.hid (boxA G2.out a3 (.inr (by omega)))
  have O3 := Lib.hid (O2.out.apart a3 (.inr (by omega)))
  have B3 := Lib.hid (B2.out.trans (a3.below (B := w.heap.size) (by omega) (by omega)))
  have C3 := Lib.hid c3
  have hz3 := a3.size
  clear a3 c3 R2 G2 O2 B2 C2
  go_wp2_with fail
  refine (l1Below B p 16 _ C3.out (by omega) (by omega)).mono ?_
  rintro e w4 ⟨y, rfl, hy, c4, a4⟩
  have R4 := Lib.hid (boxA R3.out a4 (.inl (by omega)))
  have G4 := Lib.hid (boxA G3.out a4 (.inr (by omega)))
  have O4 := Lib.hid (O3.out.apart a4 (.inr (by omega)))
  have B4 := Lib.hid (B3.out.trans (a4.below (B := w.heap.size) (by omega) (by omega)))
  have C4 := Lib.hid c4
  have hz4 := a4.size
  clear a4 c4 R3 G3 O3 B3 C3
  by_cases h0 : y = 0
  · subst h0
    go_wp2_with fail
    refine (l3Bent B p _ C4.out).mono ?_
    rintro e w5 ⟨a', v', rs', rfl, ha1, ha7, hl9, o5, c5, a5⟩
    obtain ⟨av', cv', rfl⟩ := own_form o5
    have R5 := Lib.hid (boxA R4.out a5 (.inl (by omega)))
    have g5 := boxA G4.out a5 (.inr (by omega))
    have k0 : w5.cell? ⟨g, 0, none⟩ = some (.int .i64 a) := g5.cell 0
    have k1 : w5.cell? ⟨g, 1, none⟩ = some (.slice av n cv) := g5.cell 1
    have fk0 : w5.frozen? ⟨g, 0, none⟩ = false := g5.free 0
    have fk1 : w5.frozen? ⟨g, 1, none⟩ = false := g5.free 1
    have hz5 := a5.size
    have hgl : g < w4.heap.size := by omega
    have hrg : w.heap.size ≠ g := by omega
    obtain ⟨n', hn'⟩ : ∃ n, rs'.length = n := ⟨_, rfl⟩
    have HL' := Lib.hid hl9
    rw [hn'] at o5 ⊢
    clear hn' hl9
    have B5 := Lib.hid (((B4.out.trans (a5.below (B := w.heap.size) (by omega) (by omega))).setCell (p := ⟨g, 0, none⟩) (by show w.heap.size ≤ g; omega) (.int .i64 a')).setCell (p := ⟨g, 1, none⟩) (by show w.heap.size ≤ g; omega) (.slice av' n' cv'))
    have O5 := Lib.hid (own_setB (own_setB o5 (q := ⟨g, 0, none⟩) (.inl hgl) (.int .i64 a')) (q := ⟨g, 1, none⟩) (.inl hgl) (.slice av' n' cv'))
    have G5 := Lib.hid ((g5.set 0 (.int .i64 a')).set 1 (.slice av' n' cv'))
    have R6 := Lib.hid ((R5.out.far (p := ⟨g, 0, none⟩) hrg (.int .i64 a')).far (p := ⟨g, 1, none⟩) hrg (.slice av' n' cv'))
    clear g5 o5 c5 a5 R4 G4 O4 B4 C4 R5
    have R5 := R6
    clear R6
    have c0 : ((w5.setCell ⟨g, 0, none⟩ (.int .i64 a')).setCell ⟨g, 1, none⟩ (.slice av' n' cv')).cell? ⟨g, 0, none⟩ = some (.int .i64 a') := G5.out.cell 0
    have c1 : ((w5.setCell ⟨g, 0, none⟩ (.int .i64 a')).setCell ⟨g, 1, none⟩ (.slice av' n' cv')).cell? ⟨g, 1, none⟩ = some (.slice av' n' cv') := G5.out.cell 1
    have e0 : ((w5.setCell ⟨g, 0, none⟩ (.int .i64 a')).setCell ⟨g, 1, none⟩ (.slice av' n' cv')).cell? ⟨w.heap.size, 0, none⟩ = some (.int .i64 0) := R5.out.cell 0
    have e1 : ((w5.setCell ⟨g, 0, none⟩ (.int .i64 a')).setCell ⟨g, 1, none⟩ (.slice av' n' cv')).cell? ⟨w.heap.size, 1, none⟩ = some (.slice none 0 0) := R5.out.cell 1
    have f0 : ((w5.setCell ⟨g, 0, none⟩ (.int .i64 a')).setCell ⟨g, 1, none⟩ (.slice av' n' cv')).frozen? ⟨w.heap.size, 0, none⟩ = false := R5.out.free 0
    have f1 : ((w5.setCell ⟨g, 0, none⟩ (.int .i64 a')).setCell ⟨g, 1, none⟩ (.slice av' n' cv')).frozen? ⟨w.heap.size, 1, none⟩ = false := R5.out.free 1
    go_wp2_with fail
    refine bodyPost_ret (v := .tuple #[ctx a' (.slice av' n' cv'), .int .i64 (s : Int)]) (by simp [results, Try.results84, go_sem, e0, e1]) rfl ⟨a', (s : Int), _, rs', rfl, ha1, ha7, HL'.out, ?_, ((B5.out.setCell (p := ⟨w.heap.size, 0, none⟩) (Nat.le_refl _) _).setCell (p := ⟨w.heap.size, 1, none⟩) (Nat.le_refl _) _)⟩
    exact (own_setB (own_setB O5.out (q := ⟨w.heap.size, 0, none⟩) (.inl (by show w.heap.size < _; omega)) _) (q := ⟨w.heap.size, 1, none⟩) (.inl (by show w.heap.size < _; omega)) _).mono (by omega) (by first | (simp; done) | (simp; omega))
  · have HL' : Hid (rs.length ≤ 9) := Lib.hid (by have := HN.out; omega)
    by_cases h1 : y = 1
    · subst h1
      go_wp2_with fail
      refine (l2Bent B p _ C4.out).mono ?_
      rintro e w5 ⟨x, rfl, c5, a5⟩
      have R5 := Lib.hid (boxA R4.out a5 (.inl (by omega)))
      have G5 := Lib.hid (boxA G4.out a5 (.inr (by omega)))
      have O5 := Lib.hid (O4.out.apart a5 (.inr (by omega)))
      have B5 := Lib.hid (B4.out.trans (a5.below (B := w.heap.size) (by omega) (by omega)))
      have C5 := Lib.hid c5
      have hz5 := a5.size
      clear a5 c5 R4 G4 O4 B4 C4
      have c0 : w5.cell? ⟨g, 0, none⟩ = some (.int .i64 (a : Int)) := G5.out.cell 0
      have c1 : w5.cell? ⟨g, 1, none⟩ = some (.slice av n cv) := G5.out.cell 1
      have e0 : w5.cell? ⟨w.heap.size, 0, none⟩ = some (.int .i64 0) := R5.out.cell 0
      have e1 : w5.cell? ⟨w.heap.size, 1, none⟩ = some (.slice none 0 0) := R5.out.cell 1
      have f0 : w5.frozen? ⟨w.heap.size, 0, none⟩ = false := R5.out.free 0
      have f1 : w5.frozen? ⟨w.heap.size, 1, none⟩ = false := R5.out.free 1
      go_wp2_with fail
      refine bodyPost_ret (v := .tuple #[ctx (a : Int) (.slice av n cv), .int .i64 x]) (by simp [results, Try.results84, go_sem, e0, e1]) rfl ⟨(a : Int), x, _, rs, rfl, by omega, by omega, HL'.out, ?_, ((B5.out.setCell (p := ⟨w.heap.size, 0, none⟩) (Nat.le_refl _) _).setCell (p := ⟨w.heap.size, 1, none⟩) (Nat.le_refl _) _)⟩
      exact (own_setB (own_setB O5.out (q := ⟨w.heap.size, 0, none⟩) (.inl (by show w.heap.size < _; omega)) _) (q := ⟨w.heap.size, 1, none⟩) (.inl (by show w.heap.size < _; omega)) _).mono (by omega) (by first | (simp; done) | (simp; omega))
    · clear hz1
      have c0 : w4.cell? ⟨g, 0, none⟩ = some (.int .i64 (a : Int)) := G4.out.cell 0
      have c1 : w4.cell? ⟨g, 1, none⟩ = some (.slice av n cv) := G4.out.cell 1
      have e0 : w4.cell? ⟨w.heap.size, 0, none⟩ = some (.int .i64 0) := R4.out.cell 0
      have e1 : w4.cell? ⟨w.heap.size, 1, none⟩ = some (.slice none 0 0) := R4.out.cell 1
      have f0 : w4.frozen? ⟨w.heap.size, 0, none⟩ = false := R4.out.free 0
      have f1 : w4.frozen? ⟨w.heap.size, 1, none⟩ = false := R4.out.free 1
      go_wp2_with fail
      refine bodyPost_ret (v := .tuple #[ctx (a : Int) (.slice av n cv), .int .i64 (s : Int)]) (by simp [results, Try.results84, go_sem, e0, e1]) rfl ⟨(a : Int), (s : Int), _, rs, rfl, by omega, by omega, HL'.out, ?_, ((B4.out.setCell (p := ⟨w.heap.size, 0, none⟩) (Nat.le_refl _) _).setCell (p := ⟨w.heap.size, 1, none⟩) (Nat.le_refl _) _)⟩
      exact (own_setB (own_setB O4.out (q := ⟨w.heap.size, 0, none⟩) (.inl (by show w.heap.size < _; omega)) _) (q := ⟨w.heap.size, 1, none⟩) (.inl (by show w.heap.size < _; omega)) _).mono (by omega) (by first | (simp; done) | (simp; omega))
theorem DrawIntentOf (v : Value) (xs : List Int) (B : Nat) (w : World) (hr : Reads w B v (u8s xs)) (hB : B ≤ w.heap.size) (hx : ∀ j, j < xs.length → 0 ≤ xs.getD j 0 ∧ xs.getD j 0 ≤ 255) (hn : xs.length ≤ 1048576) :
    Calls Try.prog 15 #[v] w fun e w' => ∃ (a s : Int) (u : Value) (rs : List Int), e = .returned (.tuple #[ctx a u, .int .i64 s]) ∧ -1 ≤ a ∧ a ≤ 7 ∧ rs.length ≤ 9 ∧ Own 3 w' w.heap.size w'.heap.size u (ints rs) ∧ Below w.heap.size w w' := by
  have HN := Lib.hid (l4Objects v xs B (w.alloc (.cells #[.int .i64 0, .slice none 0 0] 26)) (hr.below ((Below.refl w.heap.size w).alloc (Nat.le_refl _) _) hB) (by simp; omega) hx hn)
  obtain ⟨_, aa, ca, rfl, hca⟩ := hr
  have e0 : (u8s xs).length = xs.length := by simp [u8s]
  rw [e0] at HN ⊢
  clear hca hx e0
  go_enter Try.func15, Try.ntmps15
  go_wp2_with fail
  refine HN.out.mono ?_
  rintro e w1 ⟨a, s, u, rs, rfl, ha1, ha7, hl, o, b1⟩
  obtain ⟨av, cv, rfl⟩ := own_form o
  have hz1 : w.heap.size + 1 ≤ w1.heap.size := by have := b1.size; simpa using this
  have R1 := Lib.hid (((BoxAt.new w 26 #[.int .i64 0, .slice none 0 0]).below b1 (by simp)).alloc (.cells #[.int .i64 a, .slice av rs.length cv] 26))
  have G1 := Lib.hid (BoxAt.new w1 26 #[.int .i64 a, .slice av rs.length cv])
  have O1 := Lib.hid (o.below ((Below.refl w1.heap.size w1).alloc (Nat.le_refl _) (.cells #[.int .i64 a, .slice av rs.length cv] 26)) (Nat.le_refl _))
  have B1 := Lib.hid ((((Below.refl w.heap.size w).alloc (Nat.le_refl _) (.cells #[.int .i64 0, .slice none 0 0] 26)).trans (b1.mono (by simp))).alloc (by omega : w.heap.size ≤ w1.heap.size) (.cells #[.int .i64 a, .slice av rs.length cv] 26))
  have HL := Lib.hid hl
  have hlo : w.heap.size < (w.alloc (.cells #[.int .i64 0, .slice none 0 0] 26)).heap.size := by simp
  obtain ⟨n, hn⟩ : ∃ n, rs.length = n := ⟨_, rfl⟩
  rw [hn] at R1 G1 O1 B1 ⊢
  clear hn o b1 hl HN
  have e0 : (w1.alloc (.cells #[.int .i64 a, .slice av n cv] 26)).cell? ⟨w.heap.size, 0, none⟩ = some (.int .i64 0) := R1.out.cell 0
  have e1 : (w1.alloc (.cells #[.int .i64 a, .slice av n cv] 26)).cell? ⟨w.heap.size, 1, none⟩ = some (.slice none 0 0) := R1.out.cell 1
  have f0 : (w1.alloc (.cells #[.int .i64 a, .slice av n cv] 26)).frozen? ⟨w.heap.size, 0, none⟩ = false := R1.out.free 0
  have f1 : (w1.alloc (.cells #[.int .i64 a, .slice av n cv] 26)).frozen? ⟨w.heap.size, 1, none⟩ = false := R1.out.free 1
  have HLO := Lib.hid hlo
  clear hlo
  go_wp2_with fail
  refine bodyPost_ret (v := .tuple #[ctx a (.slice av n cv), .int .i64 s]) (by simp [results, Try.results15, go_sem, e0, e1]) rfl ⟨a, s, _, rs, rfl, ha1, ha7, HL.out, ?_, ((B1.out.setCell (p := ⟨w.heap.size, 0, none⟩) (Nat.le_refl _) _).setCell (p := ⟨w.heap.size, 1, none⟩) (Nat.le_refl _) _)⟩
  exact (own_setB (own_setB O1.out (q := ⟨w.heap.size, 0, none⟩) (.inl HLO.out) _) (q := ⟨w.heap.size, 1, none⟩) (.inl HLO.out) _).mono (Nat.le_of_lt HLO.out) (by first | (simp; done) | (simp; omega))
theorem DrawExtentOf (v : Value) (xs : List Int) (B : Nat) (w : World) (hr : Reads w B v (u8s xs)) (hB : B ≤ w.heap.size) (hx : ∀ j, j < xs.length → 0 ≤ xs.getD j 0 ∧ xs.getD j 0 ≤ 255) (hn : xs.length ≤ 1048576) :
    Calls Try.prog 16 #[v] w fun e w' => ∃ (a s : Int) (u : Value) (rs : List Int), e = .returned (.tuple #[ctx a u, .int .i64 s]) ∧ -1 ≤ a ∧ a ≤ 7 ∧ rs.length ≤ 9 ∧ Own 3 w' w.heap.size w'.heap.size u (ints rs) ∧ Below w.heap.size w w' := by
  have HN := Lib.hid (l4Attributes v xs B (w.alloc (.cells #[.int .i64 0, .slice none 0 0] 26)) (hr.below ((Below.refl w.heap.size w).alloc (Nat.le_refl _) _) hB) (by simp; omega) hx hn)
  obtain ⟨_, aa, ca, rfl, hca⟩ := hr
  have e0 : (u8s xs).length = xs.length := by simp [u8s]
  rw [e0] at HN ⊢
  clear hca hx e0
  go_enter Try.func16, Try.ntmps16
  go_wp2_with fail
  refine HN.out.mono ?_
  rintro e w1 ⟨a, s, u, rs, rfl, ha1, ha7, hl, o, b1⟩
  obtain ⟨av, cv, rfl⟩ := own_form o
  have hz1 : w.heap.size + 1 ≤ w1.heap.size := by have := b1.size; simpa using this
  have R1 := Lib.hid (((BoxAt.new w 26 #[.int .i64 0, .slice none 0 0]).below b1 (by simp)).alloc (.cells #[.int .i64 a, .slice av rs.length cv] 26))
  have G1 := Lib.hid (BoxAt.new w1 26 #[.int .i64 a, .slice av rs.length cv])
  have O1 := Lib.hid (o.below ((Below.refl w1.heap.size w1).alloc (Nat.le_refl _) (.cells #[.int .i64 a, .slice av rs.length cv] 26)) (Nat.le_refl _))
  have B1 := Lib.hid ((((Below.refl w.heap.size w).alloc (Nat.le_refl _) (.cells #[.int .i64 0, .slice none 0 0] 26)).trans (b1.mono (by simp))).alloc (by omega : w.heap.size ≤ w1.heap.size) (.cells #[.int .i64 a, .slice av rs.length cv] 26))
  have HL := Lib.hid hl
  have hlo : w.heap.size < (w.alloc (.cells #[.int .i64 0, .slice none 0 0] 26)).heap.size := by simp
  obtain ⟨n, hn⟩ : ∃ n, rs.length = n := ⟨_, rfl⟩
  rw [hn] at R1 G1 O1 B1 ⊢
  clear hn o b1 hl HN
  have e0 : (w1.alloc (.cells #[.int .i64 a, .slice av n cv] 26)).cell? ⟨w.heap.size, 0, none⟩ = some (.int .i64 0) := R1.out.cell 0
  have e1 : (w1.alloc (.cells #[.int .i64 a, .slice av n cv] 26)).cell? ⟨w.heap.size, 1, none⟩ = some (.slice none 0 0) := R1.out.cell 1
  have f0 : (w1.alloc (.cells #[.int .i64 a, .slice av n cv] 26)).frozen? ⟨w.heap.size, 0, none⟩ = false := R1.out.free 0
  have f1 : (w1.alloc (.cells #[.int .i64 a, .slice av n cv] 26)).frozen? ⟨w.heap.size, 1, none⟩ = false := R1.out.free 1
  have HLO := Lib.hid hlo
  clear hlo
  go_wp2_with fail
  refine bodyPost_ret (v := .tuple #[ctx a (.slice av n cv), .int .i64 s]) (by simp [results, Try.results16, go_sem, e0, e1]) rfl ⟨a, s, _, rs, rfl, ha1, ha7, HL.out, ?_, ((B1.out.setCell (p := ⟨w.heap.size, 0, none⟩) (Nat.le_refl _) _).setCell (p := ⟨w.heap.size, 1, none⟩) (Nat.le_refl _) _)⟩
  exact (own_setB (own_setB O1.out (q := ⟨w.heap.size, 0, none⟩) (.inl HLO.out) _) (q := ⟨w.heap.size, 1, none⟩) (.inl HLO.out) _).mono (Nat.le_of_lt HLO.out) (by first | (simp; done) | (simp; omega))
end Go.Proofs.Ytdkgmjbhkifcbaa.Draw
