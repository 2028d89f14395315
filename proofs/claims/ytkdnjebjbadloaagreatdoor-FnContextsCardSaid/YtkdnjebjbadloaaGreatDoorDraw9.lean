/-
  Draws of chapter 3: the text of a context, turned a little.
-/
import Derived.Test.YtkdnjebjbadloaaGreatDoorDraw8
import Derived.Test.YtkdnjebjbadloaaGreatDoorCtxText
namespace Go.Proofs.YtkdnjebjbadloaaGreatDoor.Draw
open Go Go.RowKit Mem Sets Elems Text Strs Ctx
set_option maxRecDepth 100000

theorem len_setsText (rs : List Int) : (Sets2.setsText rs).length ≤ 4 + 10 * rs.length := by
  unfold Sets2.setsText
  have := Sets2.join_all rs
  split
  · split
    · simp
    · omega
  · simp
set_option maxHeartbeats 800000 in
theorem DrawParseContext (v : Value) (xs : List Int) (B : Nat) (w : World) (hr : Reads w B v (u8s xs)) (hB : B ≤ w.heap.size) (hx : ∀ j, j < xs.length → 0 ≤ xs.getD j 0 ∧ xs.getD j 0 ≤ 255) (hn : xs.length ≤ 1048576) :
    Calls Tryz.prog 13 #[v] w fun e w' => ∃ l : List UInt8, e = .returned (.string ⟨l.toArray⟩) ∧ l.length ≤ 1100 ∧ Below w.heap.size w w' := by
  have HN := Lib.hid (newCur v xs B w hr hB hx hn)
  obtain ⟨_, aa, ca, rfl, hca⟩ := hr
  have e0 : (u8s xs).length = xs.length := by simp [u8s]
  rw [e0] at HN ⊢
  clear hca hx e0
  go_enter Tryz.func13, Tryz.ntmps13
  go_wp2_with fail
  refine HN.out.mono ?_
  rintro e w1 ⟨p, rfl, hp, c1, hz, b1⟩
  have B1 := Lib.hid b1
  clear b1
  go_wp2_with fail
  refine (l3Draw B p _ c1).mono ?_
  rintro e w2 ⟨a, u, rs, rfl, ha, hl, -, o, c2, a2⟩
  have A2 := Lib.hid a2
  have R2 := Lib.hid o.reads
  clear a2 o
  go_wp2_with fail
  refine (CtxText.spec_ctxText a _ rs _ w2 R2.out (Nat.le_refl _)).mono ?_
  rintro e w3 ⟨rfl, b3⟩
  have hle : (CtxText.ctxText (a : Int) rs).length ≤ 1000 := by
    unfold CtxText.ctxText
    split
    · have h1 := CtxText.itoa_small a (by omega)
      have h2 := len_setsText rs
      simp only [List.length_append, List.length_cons, List.length_nil, h1]
      omega
    · simp
  have C3 := Lib.hid (c2.below b3 c2.lt)
  have A3 := Lib.hid (Apart.thenBelow2 A2.out b3 (Nat.le_refl _))
  clear b3
  generalize CtxText.ctxText (a : Int) rs = t at hle
  go_wp2_with fail
  refine (turnLit B p t hle [[97], [44], [32], [45], [110, 111, 110, 101], [52]] 6 rfl (by omega) (by omega) (by decide) _ rfl w3 C3.out).mono ?_
  rintro e w4 ⟨l, rfl, hl, c4, a4⟩
  go_wp2_with fail
  go_ret
  exact ⟨l, rfl, hl, B1.out.trans ((A3.out.trans a4).below (by omega) (by omega))⟩
end Go.Proofs.YtkdnjebjbadloaaGreatDoor.Draw
