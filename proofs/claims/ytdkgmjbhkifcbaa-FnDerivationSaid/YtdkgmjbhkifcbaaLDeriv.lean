/-
  The law of derivation: walk.
-/
import Derived.Test.YtdkgmjbhkifcbaaDraw4
import Derived.Test.YtdkgmjbhkifcbaaLBig
import Derived.Test.YtdkgmjbhkifcbaaDerive
import Derived.Test.YtdkgmjbhkifcbaaDerLaws
import Derived.Deep.RegionHeld3
import Derived.Deep.DeepCutAuto
namespace Go.Proofs.Ytdkgmjbhkifcbaa.LDeriv
open Go Go.RowKit Mem Sets Ctx Draw
set_option maxRecDepth 100000

theorem isBig (v : Value) (xs : List Value) (B : Nat) (w : World) (hr : Reads w B v xs) :
    Calls Try.prog 14 #[v] w fun e w' => e = .returned (.bool (decide (1048576 < xs.length))) ∧ w' = w := by
  obtain ⟨hl, a, ca, rfl, hca⟩ := hr
  clear hca
  go_enter Try.func14, Try.ntmps14
  go_wp2_with fail
  go_ret
  exact ⟨by
    have : decide ((1048576 : Int) < (xs.length : Int)) = decide (1048576 < xs.length) := by rw [decide_eq_decide]; omega
    rw [← this]; rfl, rfl⟩

/-- Two contexts lie in their boxes, and nothing that was there has turned. -/
structure St (w0 w : World) (g1 g2 L : Nat) (a1 a2 : Int) (v1 v2 : Value) (r1 r2 : List Int) : Prop where
  cells : w.cell? ⟨g1, 0, none⟩ = some (.int .i64 a1) ∧ w.cell? ⟨g1, 1, none⟩ = some v1 ∧ w.cell? ⟨g2, 0, none⟩ = some (.int .i64 a2) ∧ w.cell? ⟨g2, 1, none⟩ = some v2
  R1 : Reads w L v1 (ints r1)
  R2 : Reads w L v2 (ints r2)
  hL : L ≤ w.heap.size
  hg : g1 < w.heap.size ∧ g2 < w.heap.size
  B : Below w0.heap.size w0 w
theorem St.step {w0 w w' : World} {g1 g2 L : Nat} {a1 a2 : Int} {v1 v2 : Value} {r1 r2 : List Int} (s : St w0 w g1 g2 L a1 a2 v1 v2 r1 r2) (b : Below w.heap.size w w') : St w0 w' g1 g2 L a1 a2 v1 v2 r1 r2 :=
  ⟨⟨(b.cell (p := ⟨g1, 0, none⟩) s.hg.1).trans s.cells.1, (b.cell (p := ⟨g1, 1, none⟩) s.hg.1).trans s.cells.2.1, (b.cell (p := ⟨g2, 0, none⟩) s.hg.2).trans s.cells.2.2.1, (b.cell (p := ⟨g2, 1, none⟩) s.hg.2).trans s.cells.2.2.2⟩,
   s.R1.below b s.hL, s.R2.below b s.hL, Nat.le_trans s.hL b.size, ⟨Nat.lt_of_lt_of_le s.hg.1 b.size, Nat.lt_of_lt_of_le s.hg.2 b.size⟩, s.B.trans (b.mono s.B.size)⟩
theorem St.drew {w0 w : World} {g1 g2 L : Nat} {a1 a2 : Int} {v1 v2 : Value} {r1 r2 : List Int} (s : St w0 w g1 g2 L a1 a2 v1 v2 r1 r2) : St w0 w.drew g1 g2 L a1 a2 v1 v2 r1 r2 := s.step (Below.refl _ w).drew
theorem via1 {F : FuncId} {args : Value → Array Value} {R : Value} {w0 w : World} {g1 g2 L : Nat} {a1 a2 : Int} {v1 v2 : Value} {r1 r2 : List Int} (s : St w0 w g1 g2 L a1 a2 v1 v2 r1 r2)
    (H : ∀ (v : Value) (B : Nat) (w : World), Reads w B v (ints r1) → B ≤ w.heap.size → Calls Try.prog F (args v) w fun e w' => e = .returned R ∧ Below w.heap.size w w') :
    Calls Try.prog F (args v1) w fun e w' => e = .returned R ∧ St w0 w' g1 g2 L a1 a2 v1 v2 r1 r2 :=
  (H v1 L w s.R1 s.hL).mono fun _ _ h => ⟨h.1, s.step h.2⟩
theorem via2 {F : FuncId} {args : Value → Array Value} {R : Value} {w0 w : World} {g1 g2 L : Nat} {a1 a2 : Int} {v1 v2 : Value} {r1 r2 : List Int} (s : St w0 w g1 g2 L a1 a2 v1 v2 r1 r2)
    (H : ∀ (v : Value) (B : Nat) (w : World), Reads w B v (ints r2) → B ≤ w.heap.size → Calls Try.prog F (args v) w fun e w' => e = .returned R ∧ Below w.heap.size w w') :
    Calls Try.prog F (args v2) w fun e w' => e = .returned R ∧ St w0 w' g1 g2 L a1 a2 v1 v2 r1 r2 :=
  (H v2 L w s.R2 s.hL).mono fun _ _ h => ⟨h.1, s.step h.2⟩
theorem full_bounds (a : Int) : 0 ≤ full a ∧ full a ≤ 255 := by
  unfold full
  split
  · rename_i h
    rcases cases9 h with rfl | rfl | rfl | rfl | rfl | rfl | rfl | rfl | rfl <;> simp
  · simp
theorem full_letter (a : Int) : ∃ f : Nat, full a = f ∧ f ≤ 255 := by
  have := full_bounds a
  obtain ⟨n, hn⟩ := Int.eq_ofNat_of_zero_le this.1
  exact ⟨n, hn, by omega⟩
theorem set_upto {a : Int} {rs : List Int} {f k : Nat} (hc : isCtx a rs = true) (hf : full a = f) (hk : k ≤ f) : isSet a (k : Int) = true := by
  obtain ⟨h0, h6, -, -⟩ := isCtx_parts hc
  have := full_nat h0 (by omega)
  have hp := Nat.pow_pos (n := a.toNat) (show 0 < 2 by omega)
  exact isSet_of_nat h0 (by omega) (by omega)
set_option maxHeartbeats 8000000 in
theorem walk (v : Value) (xs : List Int) (w : World) (hr : Reads w w.heap.size v (u8s xs)) (hx : ∀ j, j < xs.length → 0 ≤ xs.getD j 0 ∧ xs.getD j 0 ≤ 255) :
    Calls Try.prog 3 #[v] w fun e w' => e = .returned (.bool true) ∧ Below w.heap.size w w' := by
  have e0 : (u8s xs).length = xs.length := by simp [u8s]
  have HB := Lib.hid (isBig v (u8s xs) _ w hr)
  by_cases hlen : 1048576 < xs.length
  · have hd : decide (1048576 < (u8s xs).length) = true := by rw [e0]; simp; omega
    clear hr hx
    go_enter Try.func3, Try.ntmps3
    go_wp2_with fail
    refine HB.out.mono ?_
    rintro e w' ⟨rfl, hw⟩
    subst w'
    go_wp2_with fail
    go_ret
    exact ⟨rfl, Below.refl _ _⟩
  · have hd : decide (1048576 < (u8s xs).length) = false := by rw [e0]; simp; omega
    have HR := Lib.hid hr
    have HX := Lib.hid hx
    clear hr hx e0
    go_enter Try.func3, Try.ntmps3
    go_wp2_with fail
    refine HB.out.mono ?_
    rintro e w' ⟨rfl, hw⟩
    subst w'
    clear HB
    go_wp2_with fail
    refine (DrawIntentOf v xs _ w HR.out (Nat.le_refl _) HX.out (by omega)).mono ?_
    rintro e w1 ⟨a1, s1, u1, r1, rfl, -, -, hl1, o1, b1⟩
    obtain ⟨p1, q1, rfl⟩ := own_form o1
    have hz1 := b1.size
    have G1 := Lib.hid (BoxAt.new w1 26 #[.int .i64 a1, .slice p1 r1.length q1])
    have O1 := Lib.hid (o1.below ((Below.refl w1.heap.size w1).alloc (Nat.le_refl _) (.cells #[.int .i64 a1, .slice p1 r1.length q1] 26)) (Nat.le_refl _))
    have B1 := Lib.hid (b1.alloc hz1 (.cells #[.int .i64 a1, .slice p1 r1.length q1] 26))
    have hL1 := Lib.hid hl1
    clear o1 b1 hl1
    obtain ⟨n1, hn1⟩ : ∃ n, r1.length = n := ⟨_, rfl⟩
    rw [hn1] at G1 O1 B1 ⊢
    have HN1 := Lib.hid hn1
    clear hn1
    go_wp2_with fail
    refine (DrawExtentOf v xs w.heap.size _ (HR.out.below B1.out (Nat.le_refl _)) (by simp; omega) HX.out (by omega)).mono ?_
    rintro e w2 ⟨a2, s2, u2, r2, rfl, -, ha7, hl2, o2, b2⟩
    obtain ⟨p2, q2, rfl⟩ := own_form o2
    have hz2 : w1.heap.size + 1 ≤ w2.heap.size := by have := b2.size; simpa using this
    have G2 := Lib.hid ((G1.out.below b2 (by simp)).alloc (.cells #[.int .i64 a2, .slice p2 r2.length q2] 26))
    have HS0 := BoxAt.new w2 26 #[.int .i64 a2, .slice p2 r2.length q2]
    have hBl := (Below.refl w2.heap.size w2).alloc (Nat.le_refl _) (.cells #[.int .i64 a2, .slice p2 r2.length q2] 26)
    have hszz : (w2.alloc (.cells #[.int .i64 a2, .slice p2 r2.length q2] 26)).heap.size = w2.heap.size + 1 := by simp
    have hst : St w (w2.alloc (.cells #[.int .i64 a2, .slice p2 r2.length q2] 26)) w1.heap.size w2.heap.size w2.heap.size a1 a2 (.slice p1 n1 q1) (.slice p2 r2.length q2) r1 r2 :=
      ⟨⟨G2.out.cell 0, G2.out.cell 1, HS0.cell 0, HS0.cell 1⟩, ((O1.out.reads.below b2 (by simp)).below hBl (by omega)).mono (by omega), (o2.reads.below hBl (Nat.le_refl _)), by simp, ⟨by rw [hszz]; omega, by rw [hszz]; omega⟩,
       (B1.out.trans (b2.mono (by simp; omega))).alloc (by omega) _⟩
    have hL2 := Lib.hid hl2
    clear hszz G1 O1 B1 G2 HS0 hBl o2 b2 hl2 HR HX
    obtain ⟨n2, hn2⟩ : ∃ n, r2.length = n := ⟨_, rfl⟩
    rw [hn2] at hst ⊢
    have HN2 := Lib.hid hn2
    clear hn2
    have st2 := hst
    obtain ⟨kA, kB, kC, kD⟩ := hst.cells
    clear hst
    -- the results' letters and the contracts
    obtain ⟨I, hI⟩ : ∃ I, intent a1 r1 s1 = I := ⟨_, rfl⟩
    obtain ⟨O, hO⟩ : ∃ O, objClosure a1 r1 s1 = O := ⟨_, rfl⟩
    obtain ⟨E, hE⟩ : ∃ E, extent a2 r2 s2 = E := ⟨_, rfl⟩
    obtain ⟨X, hX⟩ : ∃ X, closure a2 r2 s2 = X := ⟨_, rfl⟩
    obtain ⟨Z, hZ⟩ : ∃ Z, closed a2 r2 s2 = Z := ⟨_, rfl⟩
    obtain ⟨K1, hK1⟩ : ∃ K, isCtx a1 r1 = K := ⟨_, rfl⟩
    obtain ⟨K2, hK2⟩ : ∃ K, isSet n1 s1 = K := ⟨_, rfl⟩
    obtain ⟨K3, hK3⟩ : ∃ K, isCtx a2 r2 = K := ⟨_, rfl⟩
    obtain ⟨K4, hK4⟩ : ∃ K, isSet a2 s2 = K := ⟨_, rfl⟩
    obtain ⟨f, hf, hf8⟩ := full_letter a2
    obtain ⟨g1, hg1⟩ : ∃ g, w1.heap.size = g := ⟨_, rfl⟩
    obtain ⟨g2, hg2⟩ : ∃ g, w2.heap.size = g := ⟨_, rfl⟩
    have HIi := Lib.hid (fun W (s : St w W w1.heap.size w2.heap.size w2.heap.size a1 a2 (.slice p1 n1 q1) (.slice p2 n2 q2) r1 r2) => by have := via1 (args := fun v => #[ctx a1 v, .int .i64 s1]) s (fun v B w h hB => impl_intent a1 v r1 s1 B w h hB); rw [hI] at this; exact this)
    have HSi := Lib.hid (fun W (s : St w W w1.heap.size w2.heap.size w2.heap.size a1 a2 (.slice p1 n1 q1) (.slice p2 n2 q2) r1 r2) => by have := via1 (args := fun v => #[ctx a1 v, .int .i64 s1]) s (fun v B w h hB => spec_intent a1 v r1 s1 B w h hB); rw [hI] at this; exact this)
    have HIo := Lib.hid (fun W (s : St w W w1.heap.size w2.heap.size w2.heap.size a1 a2 (.slice p1 n1 q1) (.slice p2 n2 q2) r1 r2) => by have := via1 (args := fun v => #[ctx a1 v, .int .i64 s1]) s (fun v B w h hB => impl_objcl a1 v r1 s1 B w h hB); rw [hO] at this; exact this)
    have HSo := Lib.hid (fun W (s : St w W w1.heap.size w2.heap.size w2.heap.size a1 a2 (.slice p1 n1 q1) (.slice p2 n2 q2) r1 r2) => by have := via1 (args := fun v => #[ctx a1 v, .int .i64 s1]) s (fun v B w h hB => spec_objcl a1 v r1 s1 B w h hB); rw [hO] at this; exact this)
    have HIe := Lib.hid (fun W (s : St w W w1.heap.size w2.heap.size w2.heap.size a1 a2 (.slice p1 n1 q1) (.slice p2 n2 q2) r1 r2) => by have := via2 (args := fun v => #[ctx a2 v, .int .i64 s2]) s (fun v B w h hB => impl_extent a2 v r2 s2 B w h hB); rw [hE] at this; exact this)
    have HSe := Lib.hid (fun W (s : St w W w1.heap.size w2.heap.size w2.heap.size a1 a2 (.slice p1 n1 q1) (.slice p2 n2 q2) r1 r2) => by have := via2 (args := fun v => #[ctx a2 v, .int .i64 s2]) s (fun v B w h hB => spec_extent a2 v r2 s2 B w h hB); rw [hE] at this; exact this)
    have HIx := Lib.hid (fun W (s : St w W w1.heap.size w2.heap.size w2.heap.size a1 a2 (.slice p1 n1 q1) (.slice p2 n2 q2) r1 r2) => by have := via2 (args := fun v => #[ctx a2 v, .int .i64 s2]) s (fun v B w h hB => impl_closure a2 v r2 s2 B w h hB); rw [hX] at this; exact this)
    have HSx := Lib.hid (fun W (s : St w W w1.heap.size w2.heap.size w2.heap.size a1 a2 (.slice p1 n1 q1) (.slice p2 n2 q2) r1 r2) => by have := via2 (args := fun v => #[ctx a2 v, .int .i64 s2]) s (fun v B w h hB => spec_closure a2 v r2 s2 B w h hB); rw [hX] at this; exact this)
    have HIz := Lib.hid (fun W (s : St w W w1.heap.size w2.heap.size w2.heap.size a1 a2 (.slice p1 n1 q1) (.slice p2 n2 q2) r1 r2) => by have := via2 (args := fun v => #[ctx a2 v, .int .i64 s2]) s (fun v B w h hB => impl_closed a2 v r2 s2 B w h hB); rw [hZ] at this; exact this)
    have HSz := Lib.hid (fun W (s : St w W w1.heap.size w2.heap.size w2.heap.size a1 a2 (.slice p1 n1 q1) (.slice p2 n2 q2) r1 r2) => by have := via2 (args := fun v => #[ctx a2 v, .int .i64 s2]) s (fun v B w h hB => spec_closed a2 v r2 s2 B w h hB); rw [hZ] at this; exact this)
    have HC1 := Lib.hid (fun W (s : St w W w1.heap.size w2.heap.size w2.heap.size a1 a2 (.slice p1 n1 q1) (.slice p2 n2 q2) r1 r2) => by have := via1 (args := fun v => #[ctx a1 v]) s (fun v B w h hB => spec_isCtx a1 v r1 B w h hB); rw [hK1] at this; exact this)
    have HC2 := Lib.hid (fun W (s : St w W w1.heap.size w2.heap.size w2.heap.size a1 a2 (.slice p1 n1 q1) (.slice p2 n2 q2) r1 r2) => by have := via2 (args := fun v => #[ctx a2 v]) s (fun v B w h hB => spec_isCtx a2 v r2 B w h hB); rw [hK3] at this; exact this)
    have HII := Lib.hid (fun W (s : St w W w1.heap.size w2.heap.size w2.heap.size a1 a2 (.slice p1 n1 q1) (.slice p2 n2 q2) r1 r2) x => via1 (args := fun v => #[ctx a1 v, .int .i64 x]) s (fun v B w h hB => impl_intent a1 v r1 x B w h hB))
    have HIE := Lib.hid (fun W (s : St w W w1.heap.size w2.heap.size w2.heap.size a1 a2 (.slice p1 n1 q1) (.slice p2 n2 q2) r1 r2) x => via2 (args := fun v => #[ctx a2 v, .int .i64 x]) s (fun v B w h hB => impl_extent a2 v r2 x B w h hB))
    have HIX := Lib.hid (fun W (s : St w W w1.heap.size w2.heap.size w2.heap.size a1 a2 (.slice p1 n1 q1) (.slice p2 n2 q2) r1 r2) x => via2 (args := fun v => #[ctx a2 v, .int .i64 x]) s (fun v B w h hB => impl_closure a2 v r2 x B w h hB))
    have HK2 : Hid (∀ w, Calls Try.prog 28 #[.int .i64 n1, .int .i64 s1] w fun e w' => e = .returned (.bool K2) ∧ w' = w) := Lib.hid (fun w => by have := spec_isSet n1 s1 w; rw [hK2] at this; exact this)
    have HK4 : Hid (∀ w, Calls Try.prog 28 #[.int .i64 a2, .int .i64 s2] w fun e w' => e = .returned (.bool K4) ∧ w' = w) := Lib.hid (fun w => by have := spec_isSet a2 s2 w; rw [hK4] at this; exact this)
    have HF : Hid (∀ w, Calls Try.prog 30 #[.int .i64 a2] w fun e w' => e = .returned (.int .i64 f) ∧ w' = w) := Lib.hid (fun w => by have := spec_full a2 w; rw [hf] at this; exact this)
    have P1 : Hid (K1 = true → K2 = true → intent a1 r1 O = I ∧ sub s1 O = true) := Lib.hid (fun h1 h2 => by
      rw [← hK1] at h1; rw [← hK2, ← HN1.out] at h2; rw [← hO, ← hI]; exact ⟨intent_objcl h1 h2, sub_objcl h1 h2⟩)
    have P2 : Hid (K3 = true → K4 = true → extent a2 r2 X = E ∧ sub s2 X = true ∧ closure a2 r2 X = X ∧ Z = (X == s2)) := Lib.hid (fun h1 h2 => by
      rw [← hK3] at h1; rw [← hK4] at h2; rw [← hX, ← hE, ← hZ]; exact ⟨extent_closure h1 h2, sub_closure h1 h2, closure_closure h1 h2, closed_eq h1 h2⟩)
    have P3 : Hid (K3 = false ∨ K4 = false → (X == 0) = true ∧ (E == 0) = true) := Lib.hid (fun h => by
      have hn : ¬ (isCtx a2 r2 = true ∧ isSet a2 s2 = true) := by rw [hK3, hK4]; rintro ⟨h1, h2⟩; subst h1 h2; simp at h
      rw [← hX, ← hE, closure, extent, if_neg hn, if_neg hn]; exact ⟨rfl, rfl⟩)
    have P4 : Hid (K3 = true → K4 = true → ∀ k : Nat, k ≤ f → sub s2 k = true → sub (extent a2 r2 k) E = true) := Lib.hid (fun h1 h2 k hk h => by
      rw [← hK3] at h1; rw [← hK4] at h2; rw [← hE]; exact sub_extent h1 h2 (set_upto h1 hf hk) h)
    have hqI : (I != I) = false := by simp
    have hqO : (O != O) = false := by simp
    have hqE : (E != E) = false := by simp
    have hqX : (X != X) = false := by simp
    have hqZ : (Z != Z) = false := by simp
    rw [hg1] at st2 kA kB HIi HSi HIo HSo HIe HSe HIx HSx HIz HSz HC1 HC2 HII HIE HIX
    rw [hg2] at st2 kC kD HIi HSi HIo HSo HIe HSe HIx HSx HIz HSz HC1 HC2 HII HIE HIX
    clear hI hO hE hX hZ hK1 hK2 hK3 hK4 hf
    go_wp2_with fail
    generalize w2.alloc (.cells #[.int .i64 a2, .slice p2 n2 q2] 26) = W2 at st2 kA kB kC kD ⊢
    refine (HIi.out _ st2).mono ?_
    rintro e w3 ⟨rfl, st3⟩
    have z3 := st3.cells
    obtain ⟨k3a, k3b, k3c, k3d⟩ := z3
    skip
    go_wp2_with fail
    refine (HIe.out _ st3).mono ?_
    rintro e w4 ⟨rfl, st4⟩
    have z4 := st4.cells
    obtain ⟨k4a, k4b, k4c, k4d⟩ := z4
    clear st3
    go_wp2_with fail
    refine (HIx.out _ st4).mono ?_
    rintro e w5 ⟨rfl, st5⟩
    have z5 := st5.cells
    obtain ⟨k5a, k5b, k5c, k5d⟩ := z5
    clear st4
    go_wp2_with fail
    refine (HIo.out _ st5).mono ?_
    rintro e w6 ⟨rfl, st6⟩
    have z6 := st6.cells
    obtain ⟨k6a, k6b, k6c, k6d⟩ := z6
    clear st5
    go_wp2_with fail
    go_region_held3 (fun wx => wx.cell? ⟨g1, 0, none⟩ = some (.int .i64 a1) ∧ wx.cell? ⟨g1, 1, none⟩ = some (.slice p1 n1 q1) ∧ wx.cell? ⟨g2, 0, none⟩ = some (.int .i64 a2) ∧ wx.cell? ⟨g2, 1, none⟩ = some (.slice p2 n2 q2))
      (first | exact st6.drew.cells | exact sy0.cells | exact sy1.cells | exact sy2.cells | exact sy3.cells | exact sy4.cells | exact sy5.cells)
      (first | (go_at_call 21; refine (HSi.out _ st6.drew).mono ?_; rintro e y0 ⟨rfl, sy0⟩) | (go_at_call 22; refine (HSe.out _ sy0).mono ?_; rintro e y1 ⟨rfl, sy1⟩) | (go_at_call 23; refine (HSx.out _ sy1).mono ?_; rintro e y2 ⟨rfl, sy2⟩) | (go_at_call 24; refine (HSo.out _ sy2).mono ?_; rintro e y3 ⟨rfl, sy3⟩) | (go_at_call 25; refine (HIz.out _ sy3).mono ?_; rintro e y4 ⟨rfl, sy4⟩) | (go_at_call 26; refine (HSz.out _ sy4).mono ?_; rintro e y5 ⟨rfl, sy5⟩) | fail)
    have st7 := sy5
    obtain ⟨k7a, k7b, k7c, k7d⟩ := st7.cells
    clear sy0 sy1 sy2 sy3 sy4 sy5 st6
    go_upto_region 11 with fail
    go_cut [92] (fun s92 wx => s92 = .bool false ∧ Hid (St w wx g1 g2 g2 a1 a2 (.slice p1 n1 q1) (.slice p2 n2 q2) r1 r2))
    case first =>
      cases K1 with
      | false =>
        go_wp2_with fail
        refine (HC1.out _ st7).mono ?_
        rintro e w8 ⟨rfl, st8⟩
        have z8 := st8.cells
        obtain ⟨k8a, k8b, k8c, k8d⟩ := z8
        clear st7
        go_wp2_with fail
        go_meet
        exact ⟨rfl, Lib.hid st8⟩
      | true =>
        go_wp2_with fail
        refine (HC1.out _ st7).mono ?_
        rintro e w8 ⟨rfl, st8⟩
        have z8 := st8.cells
        obtain ⟨k8a, k8b, k8c, k8d⟩ := z8
        clear st7
        cases K2 with
        | false =>
          go_wp2_with fail
          refine (HK2.out _).mono ?_
          rintro e w' ⟨rfl, hw⟩
          subst w'
          go_wp2_with fail
          go_meet
          exact ⟨rfl, Lib.hid st8⟩
        | true =>
          obtain ⟨hp1, hp2⟩ := P1.out (by simp) (by simp)
          go_wp2_with fail
          refine (HK2.out _).mono ?_
          rintro e w' ⟨rfl, hw⟩
          subst w'
          go_wp2_with fail
          refine (HII.out _ st8 O).mono ?_
          rintro e w9 ⟨rfl, st9⟩
          have z9 := st9.cells
          obtain ⟨k9a, k9b, k9c, k9d⟩ := z9
          clear st8
          rw [hp1]
          have hs := spec_sub s1 O
          rw [hp2] at hs
          go_wp2_with fail
          refine (hs _).mono ?_
          rintro e w' ⟨rfl, hw⟩
          subst w'
          go_wp2_with fail
          go_meet
          exact ⟨rfl, Lib.hid st9⟩
    case rest =>
      obtain ⟨rfl, hcs⟩ := hcut
      have st10 := hcs.out
      obtain ⟨k10a, k10b, k10c, k10d⟩ := st10.cells
      clear HIi HSi HIo HSo HSe HSz HSx HC1 HII HK2 P1
      by_cases hK34 : K3 = false ∨ K4 = false
      · obtain ⟨hx0, he0⟩ := P3.out hK34
        cases K3 with
        | false =>
          go_wp2_with fail
          refine (HC2.out _ st10).mono ?_
          rintro e w11 ⟨rfl, st11⟩
          have z11 := st11.cells
          obtain ⟨k11a, k11b, k11c, k11d⟩ := z11
          clear st10
          go_wp2_with fail
          go_ret
          exact ⟨rfl, st11.B⟩
        | true =>
          have h4 : K4 = false := by simpa using hK34
          subst h4
          go_wp2_with fail
          refine (HC2.out _ st10).mono ?_
          rintro e w11 ⟨rfl, st11⟩
          have z11 := st11.cells
          obtain ⟨k11a, k11b, k11c, k11d⟩ := z11
          clear st10
          go_wp2_with fail
          refine (HK4.out _).mono ?_
          rintro e w' ⟨rfl, hw⟩
          subst w'
          go_wp2_with fail
          go_ret
          exact ⟨rfl, st11.B⟩
      · have h3 : K3 = true := by cases K3 <;> simp at hK34 ⊢
        have h4 : K4 = true := by cases K4 <;> simp at hK34 ⊢
        subst h3 h4
        obtain ⟨hp1, hp2, hp3, hp4⟩ := P2.out (by simp) (by simp)
        subst hp4
        clear hK34 P2 P3
        go_wp2_with fail
        refine (HC2.out _ st10).mono ?_
        rintro e w11 ⟨rfl, st11⟩
        have z11 := st11.cells
        obtain ⟨k11a, k11b, k11c, k11d⟩ := z11
        clear st10
        go_wp2_with fail
        refine (HK4.out _).mono ?_
        rintro e w' ⟨rfl, hw⟩
        subst w'
        go_wp2_with fail
        refine (HIE.out _ st11 X).mono ?_
        rintro e w12 ⟨rfl, st12⟩
        have z12 := st12.cells
        obtain ⟨k12a, k12b, k12c, k12d⟩ := z12
        clear st11
        rw [hp1]
        have hs := spec_sub s2 X
        rw [hp2] at hs
        go_wp2_with fail
        refine (hs _).mono ?_
        rintro e w' ⟨rfl, hw⟩
        subst w'
        go_wp2_with fail
        refine (HIX.out _ st12 X).mono ?_
        rintro e w13 ⟨rfl, st13⟩
        have z13 := st13.cells
        obtain ⟨k13a, k13b, k13c, k13d⟩ := z13
        clear st12
        rw [hp3]
        go_wp2_with fail
        refine (HIz.out _ st13).mono ?_
        rintro e w14 ⟨rfl, st14⟩
        have z14 := st14.cells
        obtain ⟨k14a, k14b, k14c, k14d⟩ := z14
        clear st13
        clear hs
        go_wp2_with fail
        go_loopw [11] (fun i wr => ∃ k : Nat, k ≤ f + 1 ∧ i = .int .i64 k ∧ Hid (St w wr g1 g2 g2 a1 a2 (.slice p1 n1 q1) (.slice p2 n2 q2) r1 r2)) (fun i _ => f + 1 - (intOf i).toNat)
        case atStart => exact ⟨0, by omega, rfl, Lib.hid st14⟩
        case round =>
          obtain ⟨k, hk, rfl, hsr⟩ := hrel
          have st15 := hsr.out
          obtain ⟨k15a, k15b, k15c, k15d⟩ := st15.cells
          by_cases hlt : k ≤ f
          · have hle : decide ((k : Int) ≤ (f : Int)) = true := by simp; omega
            go_wp2_with fail
            refine (HF.out _).mono ?_
            rintro e w' ⟨rfl, hw⟩
            subst w'
            have hs := spec_sub s2 k
            have h4 := P4.out (by simp) (by simp) k hlt
            obtain ⟨Y, hY⟩ : ∃ Y, sub s2 k = Y := ⟨_, rfl⟩
            rw [hY] at hs h4
            clear hY
            cases Y with
            | false =>
              go_wp2_with fail
              refine (hs _).mono ?_
              rintro e w' ⟨rfl, hw⟩
              subst w'
              go_wp2_with fail
              go_roundw
              case rel => exact ⟨k + 1, by omega, by simp, Lib.hid st15⟩
              case measure => simp [intOf]; omega
            | true =>
              have h5 := h4 rfl
              have HE5 := HIE.out _ st15 k
              obtain ⟨U, hU⟩ : ∃ U, extent a2 r2 k = U := ⟨_, rfl⟩
              rw [hU] at h5 HE5
              have hs2 := spec_sub U E
              rw [h5] at hs2
              clear hU
              go_wp2_with fail
              refine (hs _).mono ?_
              rintro e w' ⟨rfl, hw⟩
              subst w'
              go_wp2_with fail
              refine HE5.mono ?_
              rintro e w16 ⟨rfl, st16⟩
              go_wp2_with fail
              refine (hs2 _).mono ?_
              rintro e w' ⟨rfl, hw⟩
              subst w'
              go_wp2_with fail
              go_roundw
              case rel => exact ⟨k + 1, by omega, by simp, Lib.hid st16⟩
              case measure => simp [intOf]; omega
          · have hle : decide ((k : Int) ≤ (f : Int)) = false := by simp; omega
            go_wp2_with fail
            refine (HF.out _).mono ?_
            rintro e w' ⟨rfl, hw⟩
            subst w'
            go_wp2_with fail
            go_ret
            exact ⟨rfl, st15.B⟩
end Go.Proofs.Ytdkgmjbhkifcbaa.LDeriv
