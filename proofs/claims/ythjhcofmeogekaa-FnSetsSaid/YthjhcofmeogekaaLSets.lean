/-
  The law of sets: walk.
-/
import Derived.Test.YthjhcofmeogekaaDraw2
import Derived.Test.YthjhcofmeogekaaLBig
import Derived.Test.YthjhcofmeogekaaSets
import Derived.Test.YthjhcofmeogekaaParse
import Derived.Test.YthjhcofmeogekaaSortSpec
import Derived.Test.YthjhcofmeogekaaSortImpl
import Derived.Deep.DeepCutAuto
namespace Go.Proofs.Ythjhcofmeogekaa.LSets
open Go Go.RowKit Mem Sets Elems Text Joins Strs Sets2 Parse Draw Ints
set_option maxRecDepth 100000

theorem isBig (v : Value) (xs : List Value) (B : Nat) (w : World) (hr : Reads w B v xs) :
    Calls Try.prog 4 #[v] w fun e w' => e = .returned (.bool (decide (1048576 < xs.length))) ∧ w' = w := by
  obtain ⟨hl, a, ca, rfl, hca⟩ := hr
  clear hca
  go_enter Try.func4, Try.ntmps4
  go_wp2_with fail
  go_ret
  exact ⟨by
    have : decide ((1048576 : Int) < (xs.length : Int)) = decide (1048576 < xs.length) := by rw [decide_eq_decide]; omega
    rw [← this]; rfl, rfl⟩
set_option maxHeartbeats 800000 in
theorem sameInts (va vb : Value) (xs ys : List Int) (Ba Bb : Nat) (w : World) (ha : Reads w Ba va (ints xs)) (hb : Reads w Bb vb (ints ys)) (hBa : Ba ≤ w.heap.size) (hBb : Bb ≤ w.heap.size) :
    Calls Try.prog 12 #[va, vb] w fun e w' => e = .returned (.bool (xs == ys)) ∧ Below w.heap.size w w' := by
  obtain ⟨hla, a, ca, rfl, hca⟩ := ha
  obtain ⟨hlb, b, cb, rfl, hcb⟩ := hb
  simp only [ints, List.length_map] at hla hlb hca hcb ⊢
  by_cases hl : xs.length = ys.length
  · by_cases hne : xs = []
    · subst hne
      have hy : ys = [] := List.length_eq_zero_iff.1 hl.symm
      subst hy
      clear hca hcb
      go_enter Try.func12, Try.ntmps12
      go_wp2_with fail
      refine wp_loop_rounds 1 ?_
      rw [rounds_succ]
      go_wp2
      go_ret
      exact ⟨rfl, Below.refl _ _⟩
    · have hney : ys ≠ [] := by rintro rfl; exact hne (List.length_eq_zero_iff.1 (by simpa using hl))
      obtain ⟨ba, oa, rfl, hba, gca⟩ := hca (by simpa using hne)
      obtain ⟨bb, ob, rfl, hbb, gcb⟩ := hcb (by simpa using hney)
      have hq : ((xs.length : Int) != (ys.length : Int)) = false := by simp [hl]
      have Hla : xs.length ≤ 9223372036854775807 := by unfold maxLen at hla; omega
      have Hlb : ys.length ≤ 9223372036854775807 := by unfold maxLen at hlb; omega
      have HA := Lib.hid gca
      have HB := Lib.hid gcb
      clear hca hcb gca gcb hla hlb
      have Hl := Lib.hid hl
      go_enter Try.func12, Try.ntmps12
      go_wp2_with fail
      go_loopw [5] (fun i wr => ∃ k : Nat, k ≤ xs.length ∧ i = .int .i64 k ∧ xs.take k = ys.take k ∧ Below w.heap.size w wr) (fun i _ => xs.length - (intOf i).toNat)
      case atStart => exact ⟨0, Nat.zero_le _, rfl, rfl, Below.refl _ _⟩
      case round =>
        obtain ⟨k, hk, rfl, heq, hb⟩ := hrel
        by_cases hlt : k < xs.length
        · have c1 : wr.cell? ⟨ba, oa + k, none⟩ = some (.int .i64 (xs.getD k 0)) := (hb.cell (p := ⟨ba, oa + k, none⟩) (by show ba < _; omega)).trans ((HA.out k (by simpa using hlt)).trans (ints_get xs k hlt))
          have c2 : wr.cell? ⟨bb, ob + k, none⟩ = some (.int .i64 (ys.getD k 0)) := (hb.cell (p := ⟨bb, ob + k, none⟩) (by show bb < _; omega)).trans ((HB.out k (by simpa using (by omega : k < ys.length))).trans (ints_get ys k (by omega)))
          have Hq := Lib.hid heq
          have hlt2 : k < ys.length := by omega
          clear heq
          by_cases hxy : xs.getD k 0 = ys.getD k 0
          · have hd : (xs.getD k 0 != ys.getD k 0) = false := by simp only [hxy, bne_self_eq_false]
            have Hxy := Lib.hid hxy
            clear hxy
            generalize hgx : xs.getD k 0 = x at c1 hd
            generalize hgy : ys.getD k 0 = y at c2 hd
            have Gx := Lib.hid hgx
            have Gy := Lib.hid hgy
            clear hgx hgy
            go_wp2
            go_region
            all_goals go_wp2
            all_goals go_roundw
            case rel => exact ⟨k + 1, by omega, by simp, take_both Hl.out hlt Hq.out Hxy.out, hb.drew⟩
            case measure => simp [intOf]; omega
          · have hd : (xs.getD k 0 != ys.getD k 0) = true := by simp only [bne_iff_ne, ne_eq]; exact hxy
            have Hxy := Lib.hid hxy
            clear hxy
            generalize hgx : xs.getD k 0 = x at c1 hd
            generalize hgy : ys.getD k 0 = y at c2 hd
            have Gx := Lib.hid hgx
            have Gy := Lib.hid hgy
            clear hgx hgy
            go_wp2
            go_region
            all_goals go_wp2
            all_goals go_ret
            all_goals exact ⟨by rw [ne_at (j := k) Hxy.out]; rfl, hb.drew⟩
        · have hkn : k = xs.length := by omega
          have Hq := Lib.hid heq
          clear heq
          go_wp2
          go_ret
          exact ⟨by rw [eq_all Hl.out hkn Hq.out]; rfl, hb⟩
  · have hq : ((xs.length : Int) != (ys.length : Int)) = true := by simp; omega
    clear hca hcb
    go_enter Try.func12, Try.ntmps12
    go_wp2_with fail
    go_ret
    exact ⟨by rw [ne_len hl]; rfl, Below.refl _ _⟩

theorem count_len (s : Int) : count s = ((elems s).length : Int) := by
  by_cases h : 0 ≤ s ∧ s ≤ 255
  · obtain ⟨m, rfl⟩ := Int.eq_ofNat_of_zero_le h.1
    have key : ∀ m : Nat, m < 256 → count (m : Int) = ((elems (m : Int)).length : Int) := by decide +kernel
    exact key m (by omega)
  · have hf : isSet 8 s = false := by simp [isSet]; omega
    have he : elemsTo s 8 = [] := by
      have : ∀ k, elemsTo s k = [] := by
        intro k
        induction k with
        | zero => rfl
        | succ k ih => rw [elemsTo_miss s k (by simp [hasEl, hf])]; exact ih
      exact this 8
    rw [count, hf, elems, he]
    rfl
theorem before_two (x y : Int) (hx : isSet 8 x = true) (hy : isSet 8 y = true) (hne : x ≠ y) : before y x = (!before x y) ∧ (sub x y = true → before x y = true) := by
  have rx : 0 ≤ x ∧ x ≤ 255 := by simp [isSet] at hx; omega
  have ry : 0 ≤ y ∧ y ≤ 255 := by simp [isSet] at hy; omega
  refine ⟨?_, ?_⟩
  · rw [Lectic.key_before x y rx ry, Lectic.key_before y x ry rx]
    have : Lectic.key x ≠ Lectic.key y := fun h => hne (Lectic.key_inj x y rx ry h)
    rw [Bool.eq_iff_iff]
    simp
    omega
  · intro hs
    obtain ⟨m, rfl⟩ := Int.eq_ofNat_of_zero_le rx.1
    obtain ⟨k, rfl⟩ := Int.eq_ofNat_of_zero_le ry.1
    have hm : m < 256 := by omega
    have hk : k < 256 := by omega
    have hsub : m &&& k = m := by
      simp only [sub, subB, Bool.and_eq_true, beq_iff_eq] at hs
      have h2 := hs.2
      rw [(bits_nat .i64 8 (by decide) (fun n h0 h1 => by rw [IntKind.wrap_i64]; omega) m k hm hk).1] at h2
      omega
    have hne' : m ≠ k := by rintro rfl; exact hne rfl
    have hd : m ^^^ k < 256 := Nat.xor_lt_two_pow (n := 8) hm hk
    have hd0 : m ^^^ k ≠ 0 := by
      intro h
      apply hne'
      apply Nat.eq_of_testBit_eq
      intro i
      have h1 := congrArg (fun n => Nat.testBit n i) h
      simp [Nat.testBit_xor] at h1
      exact h1
    have key2 : ∀ d : Nat, d < 256 → d ≠ 0 → Lectic.lowBit d ≠ 0 ∧ d &&& Lectic.lowBit d = Lectic.lowBit d := by decide +kernel
    obtain ⟨e1, e2⟩ := key2 _ hd hd0
    have e3 : k &&& (m ^^^ k) = m ^^^ k := by
      apply Nat.eq_of_testBit_eq
      intro i
      have h1 := congrArg (fun n => Nat.testBit n i) hsub
      simp only [Nat.testBit_and, Nat.testBit_xor] at h1 ⊢
      cases hmi : m.testBit i <;> cases hki : k.testBit i <;> simp_all
    rw [Lectic.before_mirror m k hm hk, ← Lectic.mirror_low m hm k hk]
    have e4 : k &&& Lectic.lowBit (m ^^^ k) = Lectic.lowBit (m ^^^ k) := by
      have : k &&& ((m ^^^ k) &&& Lectic.lowBit (m ^^^ k)) = (m ^^^ k) &&& Lectic.lowBit (m ^^^ k) := by rw [← Nat.and_assoc, e3]
      rwa [e2] at this
    rw [e4]
    simpa using e1
theorem text_back (s : Int) : (isSet 8 s = true ∧ parse (setText s) = some s ∧ (setText s == []) = false) ∨ (isSet 8 s = false ∧ setText s = []) := by
  by_cases h : 0 ≤ s ∧ s ≤ 255
  · obtain ⟨m, rfl⟩ := Int.eq_ofNat_of_zero_le h.1
    have key : ∀ m : Nat, m < 256 → isSet 8 (m : Int) = true ∧ parse (setText (m : Int)) = some (m : Int) ∧ (setText (m : Int) == []) = false := by decide +kernel
    exact .inl (key m (by omega))
  · exact .inr ⟨by simp [isSet]; omega, by rw [setText, if_neg (by simp [isSet]; omega)]⟩
theorem parse_nil : parse [] = none := by decide +kernel
theorem spec_isSet_at (n s : Int) (b : Bool) (h : isSet n s = b) (w : World) : Calls Try.prog 18 #[.int .i64 n, .int .i64 s] w fun e w' => e = .returned (.bool b) ∧ w' = w := by
  subst h; exact spec_isSet n s w
theorem impl_before_at (s t : Int) (b : Bool) (h : before s t = b) (w : World) : Calls Try.prog 23 #[.int .i64 s, .int .i64 t] w fun e w' => e = .returned (.bool b) ∧ w' = w := by
  subst h; exact impl_before s t w
theorem impl_sub_at (s t : Int) (b : Bool) (h : sub s t = b) (w : World) : Calls Try.prog 21 #[.int .i64 s, .int .i64 t] w fun e w' => e = .returned (.bool b) ∧ w' = w := by
  subst h; exact impl_sub s t w
theorem impl_parse_at (l : List UInt8) (z : Int) (b : Bool) (hl : l.length ≤ 1048576) (h1 : (parse l).getD 0 = z) (h2 : (parse l).isSome = b) (w : World) :
    Calls Try.prog 30 #[.string ⟨l.toArray⟩] w fun e w' => e = .returned (.tuple #[.int .i64 z, .bool b]) ∧ Below w.heap.size w w' := by
  subst h1 h2; exact impl_parse l hl w
theorem spec_parse_at (l : List UInt8) (z : Int) (b : Bool) (hl : l.length ≤ 1048576) (h1 : (parse l).getD 0 = z) (h2 : (parse l).isSome = b) (w : World) :
    Calls Try.prog 32 #[.string ⟨l.toArray⟩] w fun e w' => e = .returned (.tuple #[.int .i64 z, .bool b]) ∧ Below w.heap.size w w' := by
  subst h1 h2; exact spec_parse l hl w
theorem bne_f {x y : Int} (h : x = y) : (x != y) = false := by simp [h]
theorem bne_t {x y : Int} (h : ¬ x = y) : (x != y) = true := by simpa using h
theorem two_at {x y : Int} {r4 r5 : Bool} (h1 : isSet 8 x = true) (h2 : isSet 8 y = true) (h3 : x ≠ y) (e4 : sub x y = r4) (e5 : before x y = r5) : before y x = (!r5) ∧ (r4 = true → r5 = true) := by
  subst e4 e5; exact before_two x y h1 h2 h3

theorem ownForm {e : TypeId} {w : World} {lo hi : Nat} {v : Value} {xs : List Int} (h : Own e w lo hi v (ints xs)) : ∃ a c, v = .slice a xs.length c := by
  obtain ⟨_, a, c, rfl, _⟩ := h.reads
  exact ⟨a, c, by simp [ints]⟩
set_option maxHeartbeats 8000000 in
theorem walk (v : Value) (xs : List Int) (w : World) (hr : Reads w w.heap.size v (u8s xs)) (hx : ∀ j, j < xs.length → 0 ≤ xs.getD j 0 ∧ xs.getD j 0 ≤ 255) :
    Calls Try.prog 3 #[v] w fun e w' => e = .returned (.bool true) ∧ Below w.heap.size w w' := by
  have e0 : (u8s xs).length = xs.length := by simp [u8s]
  have HB := Lib.hid (isBig v (u8s xs) _ w hr)
  by_cases hlen : 1048576 < xs.length
  · have hd : decide (1048576 < (u8s xs).length) = true := by rw [e0]; simp; omega
    clear hr hx
    go_enter Try.func3, Try.ntmps3
    go_wp2_with fail
    refine HB.out.mono ?_
    rintro e w' ⟨rfl, hw⟩
    subst w'
    go_wp2_with fail
    go_ret
    exact ⟨rfl, Below.refl _ _⟩
  · have hd : decide (1048576 < (u8s xs).length) = false := by rw [e0]; simp; omega
    have HR := Lib.hid hr
    have HX := Lib.hid hx
    clear hr hx e0
    go_enter Try.func3, Try.ntmps3
    go_wp2_with fail
    refine HB.out.mono ?_
    rintro e w' ⟨rfl, hw⟩
    subst w'
    clear HB
    go_wp2_with fail
    refine (drawElems v xs w.heap.size w (HR.out.below (Below.refl w.heap.size w) (Nat.le_refl _)) (Nat.le_refl _) HX.out (by omega)).mono ?_
    rintro e w1 ⟨s, rfl, b⟩
    have hb1 := b.size
    have T1 := Lib.hid ((Below.refl w.heap.size w).trans (b.mono (Nat.le_refl _)))
    have hs1 : w.heap.size ≤ w1.heap.size := T1.out.size
    clear b
    go_wp2_with fail
    refine (drawHas v xs w.heap.size w1 (HR.out.below T1.out (Nat.le_refl _)) hs1 HX.out (by omega)).mono ?_
    rintro e w2 ⟨a, el, rfl, b⟩
    have hb2 := b.size
    have T2 := Lib.hid (T1.out.trans (b.mono hs1))
    have hs2 : w.heap.size ≤ w2.heap.size := T2.out.size
    clear b T1
    go_wp2_with fail
    refine (drawIsSet v xs w.heap.size w2 (HR.out.below T2.out (Nat.le_refl _)) hs2 HX.out (by omega)).mono ?_
    rintro e w3 ⟨n, t, rfl, b⟩
    have hb3 := b.size
    have T3 := Lib.hid (T2.out.trans (b.mono hs2))
    have hs3 : w.heap.size ≤ w3.heap.size := T3.out.size
    clear b T2
    go_wp2_with fail
    refine (drawFull v xs w.heap.size w3 (HR.out.below T3.out (Nat.le_refl _)) hs3 HX.out (by omega)).mono ?_
    rintro e w4 ⟨f, rfl, b⟩
    have hb4 := b.size
    have T4 := Lib.hid (T3.out.trans (b.mono hs3))
    have hs4 : w.heap.size ≤ w4.heap.size := T4.out.size
    clear b T3
    go_wp2_with fail
    refine (drawBefore v xs w.heap.size w4 (HR.out.below T4.out (Nat.le_refl _)) hs4 HX.out (by omega)).mono ?_
    rintro e w5 ⟨x, y, rfl, b⟩
    have hb5 := b.size
    have T5 := Lib.hid (T4.out.trans (b.mono hs4))
    have hs5 : w.heap.size ≤ w5.heap.size := T5.out.size
    clear b T4
    go_wp2_with fail
    refine (drawSort v xs w.heap.size w5 (HR.out.below T5.out (Nat.le_refl _)) hs5 HX.out (by omega)).mono ?_
    rintro e w6 ⟨v6, l, rfl, hll, o, b⟩
    have hb6 := b.size
    have T6 := Lib.hid (T5.out.trans (b.mono hs5))
    have hs6 : w.heap.size ≤ w6.heap.size := T6.out.size
    obtain ⟨p6, q6, rfl⟩ := ownForm o
    have L6 := Lib.hid o
    clear b o T5
    obtain ⟨es, hes⟩ : ∃ es, elems s = es := ⟨_, rfl⟩
    have HIE := Lib.hid (fun w => by have := impl_elems s w; rw [hes] at this; exact this)
    have HSE := Lib.hid (fun w => by have := spec_elems s w; rw [hes] at this; exact this)
    have HCN := Lib.hid (fun w => by have := impl_count s w; rw [count_len, hes] at this; exact this)
    have hqe : (es == es) = true := by simp
    have hqn : ((es.length : Int) != (es.length : Int)) = false := by simp
    have hel : es.length ≤ 8 := by rw [← hes]; exact elemsTo_le s 8
    clear hes
    obtain ⟨r1, hr1⟩ : ∃ r1 : Bool, hasEl a el = r1 := ⟨_, rfl⟩
    have HI1 := Lib.hid (fun w => by have := impl_hasEl a el w; rw [hr1] at this; exact this)
    have HS1 := Lib.hid (fun w => by have := spec_hasEl a el w; rw [hr1] at this; exact this)
    have hqr1 : (r1 != r1) = false := by simp
    clear hr1
    obtain ⟨r2, hr2⟩ : ∃ r2 : Bool, isSet n t = r2 := ⟨_, rfl⟩
    have HI2 := Lib.hid (fun w => by have := impl_isSet n t w; rw [hr2] at this; exact this)
    have HS2 := Lib.hid (fun w => by have := spec_isSet n t w; rw [hr2] at this; exact this)
    have hqr2 : (r2 != r2) = false := by simp
    clear hr2
    obtain ⟨r3, hr3⟩ : ∃ r3 : Int, full f = r3 := ⟨_, rfl⟩
    have HI3 := Lib.hid (fun w => by have := impl_full f w; rw [hr3] at this; exact this)
    have HS3 := Lib.hid (fun w => by have := spec_full f w; rw [hr3] at this; exact this)
    have hqr3 : (r3 != r3) = false := by simp
    clear hr3
    obtain ⟨r4, hr4⟩ : ∃ r4 : Bool, sub x y = r4 := ⟨_, rfl⟩
    have HI4 := Lib.hid (fun w => by have := impl_sub x y w; rw [hr4] at this; exact this)
    have HS4 := Lib.hid (fun w => by have := spec_sub x y w; rw [hr4] at this; exact this)
    have hqr4 : (r4 != r4) = false := by simp
    obtain ⟨r5, hr5⟩ : ∃ r5 : Bool, before x y = r5 := ⟨_, rfl⟩
    have HI5 := Lib.hid (fun w => by have := impl_before x y w; rw [hr5] at this; exact this)
    have HS5 := Lib.hid (fun w => by have := spec_before x y w; rw [hr5] at this; exact this)
    have hqr5 : (r5 != r5) = false := by simp
    have HR4 := Lib.hid hr4
    have HR5 := Lib.hid hr5
    clear hr4 hr5
    obtain ⟨so, hso⟩ : ∃ so, Lectic.sortLectic l = so := ⟨_, rfl⟩
    have HI6 := Lib.hid (fun v B w hr hB => by have := SortL.impl_sort v l B w hr hB (by omega); rw [hso] at this; exact this)
    have HS6 := Lib.hid (fun v B w hr hB => by have := SortL.spec_sort v l B w hr hB (by omega); rw [hso] at this; exact this)
    have hqso : (so == so) = true := by simp
    clear hso
    obtain ⟨tx, htx⟩ : ∃ tx, setsText l = tx := ⟨_, rfl⟩
    have HI7 := Lib.hid (fun v B w hr hB => by have := impl_sets v l B w hr hB (by omega); rw [htx] at this; exact this)
    have HS7 := Lib.hid (fun v B w hr hB => by have := spec_sets v l B w hr hB (by omega); rw [htx] at this; exact this)
    have hqtx : (tx == tx) = true := by simp
    have hqtx2 : (tx != tx) = false := by simp
    clear htx
    have HTX := Lib.hid (fun w => impl_text s w)
    have HTS := Lib.hid (fun w => spec_text s w)
    go_wp2_with fail
    refine (HIE.out _).mono ?_
    rintro e w7 ⟨v7, rfl, o, b⟩
    have hb7 := b.size
    have T7 := Lib.hid (T6.out.trans (b.mono hs6))
    have hs7 : w.heap.size ≤ w7.heap.size := T7.out.size
    have L7 := Lib.hid (L6.out.below b (by omega))
    obtain ⟨p7, q7, rfl⟩ := ownForm o
    have E7 := Lib.hid o
    clear b T6 L6 o
    go_wp2_with fail
    refine (HSE.out _).mono ?_
    rintro e w8 ⟨v8, rfl, o, b⟩
    have hb8 := b.size
    have T8 := Lib.hid (T7.out.trans (b.mono hs7))
    have hs8 : w.heap.size ≤ w8.heap.size := T8.out.size
    have L8 := Lib.hid (L7.out.below b (by omega))
    have E8 := Lib.hid (E7.out.below b (by omega))
    obtain ⟨p8, q8, rfl⟩ := ownForm o
    have F8 := Lib.hid o
    clear b T7 L7 E7 o
    go_wp2_with fail
    refine (sameInts _ _ es es w7.heap.size w8.heap.size _ E8.out.reads F8.out.reads (by omega) (by omega)).mono ?_
    rintro e w9 ⟨rfl, b⟩
    have hb9 := b.size
    have T9 := Lib.hid (T8.out.trans (b.mono hs8))
    have hs9 : w.heap.size ≤ w9.heap.size := T9.out.size
    have L9 := Lib.hid (L8.out.below b (by omega))
    have E9 := Lib.hid (E8.out.below b (by omega))
    have F9 := Lib.hid (F8.out.below b (by omega))
    clear b T8 L8 E8 F8
    clear E9
    clear F9
    go_wp2_with fail
    refine (HCN.out _).mono ?_
    rintro e w' ⟨rfl, hw⟩
    subst w'
    go_wp2_with fail
    refine (HI1.out _).mono ?_
    rintro e w' ⟨rfl, hw⟩
    subst w'
    go_wp2_with fail
    refine (HS1.out _).mono ?_
    rintro e w' ⟨rfl, hw⟩
    subst w'
    go_wp2_with fail
    refine (HI2.out _).mono ?_
    rintro e w' ⟨rfl, hw⟩
    subst w'
    go_wp2_with fail
    refine (HS2.out _).mono ?_
    rintro e w' ⟨rfl, hw⟩
    subst w'
    go_wp2_with fail
    refine (HI3.out _).mono ?_
    rintro e w' ⟨rfl, hw⟩
    subst w'
    go_wp2_with fail
    refine (HS3.out _).mono ?_
    rintro e w' ⟨rfl, hw⟩
    subst w'
    go_wp2_with fail
    refine (HI4.out _).mono ?_
    rintro e w' ⟨rfl, hw⟩
    subst w'
    go_wp2_with fail
    refine (HS4.out _).mono ?_
    rintro e w' ⟨rfl, hw⟩
    subst w'
    go_wp2_with fail
    refine (HI5.out _).mono ?_
    rintro e w' ⟨rfl, hw⟩
    subst w'
    go_wp2_with fail
    refine (HS5.out _).mono ?_
    rintro e w' ⟨rfl, hw⟩
    subst w'
    go_wp2_with fail
    refine (HI6.out _ w6.heap.size _ L9.out.reads (by omega)).mono ?_
    rintro e w10 ⟨v10, rfl, o, b⟩
    have hb10 := b.size
    have T10 := Lib.hid (T9.out.trans (b.mono hs9))
    have hs10 : w.heap.size ≤ w10.heap.size := T10.out.size
    have L10 := Lib.hid (L9.out.below b (by omega))
    obtain ⟨p10, q10, rfl⟩ := ownForm o
    have E10 := Lib.hid o
    clear b T9 L9 o
    go_wp2_with fail
    refine (HS6.out _ w6.heap.size _ L10.out.reads (by omega)).mono ?_
    rintro e w11 ⟨v11, rfl, o, b⟩
    have hb11 := b.size
    have T11 := Lib.hid (T10.out.trans (b.mono hs10))
    have hs11 : w.heap.size ≤ w11.heap.size := T11.out.size
    have L11 := Lib.hid (L10.out.below b (by omega))
    have E11 := Lib.hid (E10.out.below b (by omega))
    obtain ⟨p11, q11, rfl⟩ := ownForm o
    have F11 := Lib.hid o
    clear b T10 L10 E10 o
    go_wp2_with fail
    refine (sameInts _ _ so so w10.heap.size w11.heap.size _ E11.out.reads F11.out.reads (by omega) (by omega)).mono ?_
    rintro e w12 ⟨rfl, b⟩
    have hb12 := b.size
    have T12 := Lib.hid (T11.out.trans (b.mono hs11))
    have hs12 : w.heap.size ≤ w12.heap.size := T12.out.size
    have L12 := Lib.hid (L11.out.below b (by omega))
    have E12 := Lib.hid (E11.out.below b (by omega))
    have F12 := Lib.hid (F11.out.below b (by omega))
    clear b T11 L11 E11 F11
    clear E12
    clear F12
    go_wp2_with fail
    refine (HI7.out _ w6.heap.size _ L12.out.reads (by omega)).mono ?_
    rintro e w13 ⟨rfl, b⟩
    have hb13 := b.size
    have T13 := Lib.hid (T12.out.trans (b.mono hs12))
    have hs13 : w.heap.size ≤ w13.heap.size := T13.out.size
    have L13 := Lib.hid (L12.out.below b (by omega))
    clear b T12 L12
    go_wp2_with fail
    refine (HS7.out _ w6.heap.size _ L13.out.reads (by omega)).mono ?_
    rintro e w14 ⟨rfl, b⟩
    have hb14 := b.size
    have T14 := Lib.hid (T13.out.trans (b.mono hs13))
    have hs14 : w.heap.size ≤ w14.heap.size := T14.out.size
    have L14 := Lib.hid (L13.out.below b (by omega))
    clear b T13 L13
    clear L14
    have hne1 : (r5 == !r5) = false := by cases r5 <;> rfl
    go_upto_region 12 with fail
    go_cut [146] (fun s146 wx => s146 = .bool false ∧ wx = w14)
    case first =>
      rcases Bool.eq_false_or_eq_true (isSet 8 x) with hx8 | hx8
      · go_wp2_with fail
        refine (spec_isSet_at 8 x true hx8 _).mono ?_
        rintro e w' ⟨rfl, hw⟩
        subst w'
        rcases Bool.eq_false_or_eq_true (isSet 8 y) with hy8 | hy8
        · go_wp2_with fail
          refine (spec_isSet_at 8 y true hy8 _).mono ?_
          rintro e w' ⟨rfl, hw⟩
          subst w'
          by_cases hxy : x = y
          · have hd := bne_f hxy
            clear hxy
            go_wp2_with fail
            go_meet
            exact ⟨rfl, rfl⟩
          · have hd := bne_t hxy
            obtain ⟨hb1, hb2⟩ := two_at hx8 hy8 hxy HR4.out HR5.out
            go_wp2_with fail
            refine (HI5.out _).mono ?_
            rintro e w' ⟨rfl, hw⟩
            subst w'
            go_wp2_with fail
            refine (impl_before_at y x (!r5) hb1 _).mono ?_
            rintro e w' ⟨rfl, hw⟩
            subst w'
            rcases Bool.eq_false_or_eq_true r4 with h4 | h4
            · have h5 := hb2 h4
              go_wp2_with fail
              refine (HI4.out _).mono ?_
              rintro e w' ⟨rfl, hw⟩
              subst w'
              go_wp2_with fail
              refine (HI5.out _).mono ?_
              rintro e w' ⟨rfl, hw⟩
              subst w'
              go_wp2_with fail
              go_meet
              exact ⟨rfl, rfl⟩
            · go_wp2_with fail
              refine (HI4.out _).mono ?_
              rintro e w' ⟨rfl, hw⟩
              subst w'
              go_wp2_with fail
              go_meet
              exact ⟨rfl, rfl⟩
        · go_wp2_with fail
          refine (spec_isSet_at 8 y false hy8 _).mono ?_
          rintro e w' ⟨rfl, hw⟩
          subst w'
          go_wp2_with fail
          go_meet
          exact ⟨rfl, rfl⟩
      · go_wp2_with fail
        refine (spec_isSet_at 8 x false hx8 _).mono ?_
        rintro e w' ⟨rfl, hw⟩
        subst w'
        go_wp2_with fail
        go_meet
        exact ⟨rfl, rfl⟩
    case rest =>
    obtain ⟨rfl, hwc⟩ := hcut
    subst wc
    clear HI1 HS1 HI2 HS2 HI3 HS3 HI4 HS4 HI5 HS5 HI6 HS6 HI7 HS7
    go_wp2_with fail
    refine (HTX.out _).mono ?_
    rintro e w15 ⟨rfl, b⟩
    have hb15 := b.size
    have T15 := Lib.hid (T14.out.trans (b.mono hs14))
    have hs15 : w.heap.size ≤ w15.heap.size := T15.out.size
    clear b T14
    have HTB := Lib.hid (text_back s)
    obtain ⟨st, hst⟩ : ∃ st, setText s = st := ⟨_, rfl⟩
    have HST := Lib.hid hst
    rw [hst] at HTS
    rw [hst]
    have hstl : st.length ≤ 8 := by rw [← hst]; exact Parse.setText_le s
    clear hst
    obtain ⟨bk, hbk⟩ : ∃ bk, (parse st).getD 0 = bk := ⟨_, rfl⟩
    obtain ⟨okv, hok⟩ : ∃ okv, (parse st).isSome = okv := ⟨_, rfl⟩
    have HPB := Lib.hid (impl_parse_at st bk okv (by omega) hbk hok)
    have HBK := Lib.hid hbk
    have HOK := Lib.hid hok
    clear hbk hok
    go_wp2_with fail
    refine (HPB.out _).mono ?_
    rintro e w16 ⟨rfl, b⟩
    have hb16 := b.size
    have T16 := Lib.hid (T15.out.trans (b.mono hs15))
    have hs16 : w.heap.size ≤ w16.heap.size := T16.out.size
    clear b T15
    go_wp2_with fail
    refine (drawParse v xs w.heap.size w16 (HR.out.below T16.out (Nat.le_refl _)) hs16 HX.out (by omega)).mono ?_
    rintro e w17 ⟨q, rfl, hql, b⟩
    have hb17 := b.size
    have T17 := Lib.hid (T16.out.trans (b.mono hs16))
    have hs17 : w.heap.size ≤ w17.heap.size := T17.out.size
    clear b T16
    obtain ⟨zz, hzz⟩ : ∃ zz, (parse q).getD 0 = zz := ⟨_, rfl⟩
    obtain ⟨fn, hfn⟩ : ∃ fn, (parse q).isSome = fn := ⟨_, rfl⟩
    have HPI := Lib.hid (impl_parse_at q zz fn (by omega) hzz hfn)
    have HPS := Lib.hid (spec_parse_at q zz fn (by omega) hzz hfn)
    clear hzz hfn
    have hqf : (fn == fn) = true := by simp
    have hqz : (zz == zz) = true := by simp
    have hqt : (st == st) = true := by simp
    go_wp2_with fail
    refine (HPI.out _).mono ?_
    rintro e w18 ⟨rfl, b⟩
    have hb18 := b.size
    have T18 := Lib.hid (T17.out.trans (b.mono hs17))
    have hs18 : w.heap.size ≤ w18.heap.size := T18.out.size
    clear b T17
    go_wp2_with fail
    refine (HPS.out _).mono ?_
    rintro e w19 ⟨rfl, b⟩
    have hb19 := b.size
    have T19 := Lib.hid (T18.out.trans (b.mono hs18))
    have hs19 : w.heap.size ≤ w19.heap.size := T19.out.size
    clear b T18
    rcases HTB.out with ⟨h1, h2, h3⟩ | ⟨h1, h2⟩
    · rw [HST.out] at h2 h3
      have e1 : bk = s := by rw [← HBK.out, h2]; rfl
      have e2 : okv = true := by rw [← HOK.out, h2]; rfl
      have h4 : (st != []) = true := by rw [bne, h3]; rfl
      subst e1 e2
      have hqs : (bk == bk) = true := by simp
      clear h2
      go_wp2_with fail
      refine (HTS.out _).mono ?_
      rintro e w20 ⟨rfl, b⟩
      have hb20 := b.size
      have T20 := Lib.hid (T19.out.trans (b.mono hs19))
      have hs20 : w.heap.size ≤ w20.heap.size := T20.out.size
      clear b T19
      go_wp2_with fail
      go_ret
      exact ⟨rfl, T20.out⟩
    · rw [HST.out] at h2
      have e2 : okv = false := by rw [← HOK.out, h2, parse_nil]; rfl
      subst h2
      subst e2
      go_wp2_with fail
      refine (HTS.out _).mono ?_
      rintro e w20 ⟨rfl, b⟩
      have hb20 := b.size
      have T20 := Lib.hid (T19.out.trans (b.mono hs19))
      have hs20 : w.heap.size ≤ w20.heap.size := T20.out.size
      clear b T19
      go_wp2_with fail
      go_ret
      exact ⟨rfl, T20.out⟩

end Go.Proofs.Ythjhcofmeogekaa.LSets
