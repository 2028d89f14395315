/-
  Draws of chapter 5: a context with a number or a concept.
-/
import Derived.Test.YtbpicpapkpomhaaPastC
namespace Go.Proofs.Ytbpicpapkpomhaa.Draw
open Go Go.RowKit Mem Sets Elems Text Strs Ctx
set_option maxRecDepth 100000

set_option maxHeartbeats 1600000 in
theorem DrawColumnOf (v : Value) (xs : List Int) (B : Nat) (w : World) (hr : Reads w B v (u8s xs)) (hB : B ≤ w.heap.size) (hx : ∀ j, j < xs.length → 0 ≤ xs.getD j 0 ∧ xs.getD j 0 ≤ 255) (hn : xs.length ≤ 1048576) :
    Calls Try.prog 72 #[v] w fun e w' => ∃ (a x : Int) (u : Value) (rs : List Int), e = .returned (.tuple #[ctx a u, .int .i64 x]) ∧ rs.length ≤ 9 ∧ Own 3 w' w.heap.size w'.heap.size u (ints rs) ∧ Below w.heap.size w w' := by
  have HN := Lib.hid (newCur v xs B (w.alloc (.cells #[.int .i64 0, .slice none 0 0] 26)) (hr.below ((Below.refl w.heap.size w).alloc (Nat.le_refl _) _) hB) (by simp; omega) hx hn)
  obtain ⟨_, aa, ca, rfl, hca⟩ := hr
  have e0 : (u8s xs).length = xs.length := by simp [u8s]
  rw [e0] at HN ⊢
  clear hca hx e0
  go_enter Try.func72, Try.ntmps72
  go_wp2_with fail
  refine HN.out.mono ?_
  rintro e w1 ⟨p, rfl, hp, c1, hz, b1⟩
  have hp' : w.heap.size + 1 ≤ p := by simpa using hp
  have hz1 : w.heap.size + 2 ≤ w1.heap.size := by simpa using hz
  have hpl := c1.lt
  have R1 := Lib.hid ((BoxAt.new w 26 #[.int .i64 0, .slice none 0 0]).below b1 (by simp))
  have B1 := Lib.hid (((Below.refl w.heap.size w).alloc (Nat.le_refl _) (.cells #[.int .i64 0, .slice none 0 0] 26)).trans (b1.mono (by simp)))
  clear b1 hp hz HN
  go_wp2_with fail
  refine (l3Bent B p _ c1).mono ?_
  rintro e w2 ⟨a, u, rs, rfl, -, -, hl9, o, c2, a2⟩
  obtain ⟨av, cv, rfl⟩ := own_form o
  have hz2 := a2.size
  have R2 := ((boxA R1.out a2 (.inl (by omega))).alloc (.cells #[.int .i64 a, .slice av rs.length cv] 26))
  have B2 := Lib.hid ((B1.out.trans (a2.below (B := w.heap.size) (by omega) (by omega))).alloc (by omega : w.heap.size ≤ w2.heap.size) (.cells #[.int .i64 a, .slice av rs.length cv] 26))
  have G2 := BoxAt.new w2 26 #[.int .i64 a, .slice av rs.length cv]
  have O2 := Lib.hid (o.below ((Below.refl w2.heap.size w2).alloc (Nat.le_refl _) (.cells #[.int .i64 a, .slice av rs.length cv] 26)) (Nat.le_refl _))
  have C2 := c2.alloc (.cells #[.int .i64 a, .slice av rs.length cv] 26)
  have hg0 : w2.heap.size < (w2.alloc (.cells #[.int .i64 a, .slice av rs.length cv] 26)).heap.size := by simp
  clear o c2 a2 c1
  have HL9 := Lib.hid hl9
  clear hl9
  go_upto_region 3 with fail
  generalize w2.alloc (.cells #[.int .i64 a, .slice av rs.length cv] 26) = W at R2 B2 G2 O2 C2 hg0 ⊢
  obtain ⟨g, hg⟩ : ∃ g, w2.heap.size = g := ⟨_, rfl⟩
  rw [hg] at G2 O2 hg0 hz2 ⊢
  clear hg
  obtain ⟨n, hn'⟩ : ∃ n, rs.length = n := ⟨_, rfl⟩
  have HNN := Lib.hid hn'
  rw [hn'] at G2 O2 ⊢
  clear hn'
  have q0 := G2.cell 0
  have q1 := G2.cell 1
  have s0 := R2.cell 0
  have s1 := R2.cell 1
  have f0 := R2.free 0
  have f1 := R2.free 1
  simp only [List.getElem?_toArray, List.getElem?_cons_zero, List.getElem?_cons_succ] at q0 q1 s0 s1
  have k0 := fun z : PastC W B p => PastC.cell q0 (by show g < _; omega) (by show g ≠ p; omega) z
  have k1 := fun z : PastC W B p => PastC.cell q1 (by show g < _; omega) (by show g ≠ p; omega) z
  have t0 := fun z : PastC W B p => PastC.cell s0 (by show w.heap.size < _; omega) (by show w.heap.size ≠ p; omega) z
  have t1 := fun z : PastC W B p => PastC.cell s1 (by show w.heap.size < _; omega) (by show w.heap.size ≠ p; omega) z
  have v0 := fun z : PastC W B p => PastC.free f0 (by show w.heap.size < _; omega) (by show w.heap.size ≠ p; omega) z
  have v1 := fun z : PastC W B p => PastC.free f1 (by show w.heap.size < _; omega) (by show w.heap.size ≠ p; omega) z
  have z4 := PastC.start C2
  clear q0 q1 s0 s1 f0 f1
  have hb4 := l1BelowC 8 (PastC.start C2).drew (by omega) (by omega)
  rw [show (PastC.start C2).drew.w = W.drew from rfl, show ((8 : Nat) : Int) = 8 from rfl] at hb4
  have HB4 := Lib.hid hb4
  have hb5 := l1Below B p 8 ((W.drew.setCell ⟨w.heap.size, 0, none⟩ (.int .i64 a)).setCell ⟨w.heap.size, 1, none⟩ (.slice av n cv)) (curSet2 (curSet2 (PastC.start C2).drew.c (q := ⟨w.heap.size, 0, none⟩) hp' hB _) (q := ⟨w.heap.size, 1, none⟩) hp' hB _) (by omega) (by omega)
  rw [show ((8 : Nat) : Int) = 8 from rfl] at hb5
  have HB5 := Lib.hid hb5
  have hws : ∀ x : Nat, x < 8 → IntKind.i64.wrap ((x : Int) - 1) = (x : Int) - 1 := fun x hx => by rw [IntKind.wrap_i64]; omega
  have k00 := k0 (PastC.start C2)
  have k11 := k1 (PastC.start C2)
  have t00 := t0 (PastC.start C2)
  have t11 := t1 (PastC.start C2)
  have v00 := v0 (PastC.start C2)
  have v11 := v1 (PastC.start C2)
  simp only [PastC.start] at k00 k11 t00 t11 v00 v11
  clear hb4 hb5 z4
  go_wp2_with fail
  go_region_with ((go_at_call 90; first | (with_reducible refine HB4.out.mono ?_; rintro e w5 ⟨x5, rfl, hx5, z5, rfl⟩) | (with_reducible refine HB5.out.mono ?_; rintro e w5 ⟨x5, rfl, hx5, c5, a5⟩)))
  all_goals have O5 := Lib.hid (O2.out.apart z5.a (.inr (by omega)))
  all_goals have B5 := Lib.hid (B2.out.trans (z5.a.below (B := w.heap.size) (by omega) (by omega)))
  all_goals have hz5 := z5.size
  all_goals go_wp2_with fail
  all_goals refine bodyPost_ret (v := .tuple #[ctx a (.slice av n cv), .int .i64 ((x5 : Int) - 1)]) (by simp [results, Try.results72, go_sem, t0, t1]) rfl ⟨a, (x5 : Int) - 1, _, rs, rfl, HL9.out, ?_, ((B5.out.setCell (p := ⟨w.heap.size, 0, none⟩) (Nat.le_refl _) _).setCell (p := ⟨w.heap.size, 1, none⟩) (Nat.le_refl _) _)⟩
  all_goals exact (own_setB (own_setB O5.out (q := ⟨w.heap.size, 0, none⟩) (.inl (by show w.heap.size < _; omega)) _) (q := ⟨w.heap.size, 1, none⟩) (.inl (by show w.heap.size < _; omega)) _).mono (by omega) (by first | (simp; done) | (simp; omega))
theorem l2BentC {W : World} {B p : Nat} (z : PastC W B p) : Calls Try.prog 92 #[.pointer (some ⟨p, 0, none⟩)] z.w fun e w' => ∃ x : Int, e = .returned (.int .i64 x) ∧ ∃ y : PastC W B p, w' = y.w :=
  (l2Bent B p z.w z.c).mono fun _ _ ⟨x, he, c, a⟩ => ⟨x, he, z.turn a c⟩
theorem l1OnceC {W : World} {B p : Nat} (n : Nat) (z : PastC W B p) (h1 : 1 ≤ n) (hn : n ≤ 1000000000) : Calls Try.prog 100 #[.pointer (some ⟨p, 0, none⟩), .int .i64 n] z.w fun e w' => ∃ x : Bool, e = .returned (.bool x) ∧ ∃ y : PastC W B p, w' = y.w :=
  (l1Once B p n z.w z.c h1 hn).mono fun _ _ ⟨x, he, c, a⟩ => ⟨x, he, z.turn a c⟩
end Go.Proofs.Ytbpicpapkpomhaa.Draw
