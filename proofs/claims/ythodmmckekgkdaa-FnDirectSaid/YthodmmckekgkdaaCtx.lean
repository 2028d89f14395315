/-
  The laws' own helpers over contexts, one contract each: szContext counts, toContext copies, eqContext compares, markContext writes, heldContext reads back.
-/
import Derived.Test.YthodmmckekgkdaaInts
import Derived.Test.YthodmmckekgkdaaSet
import Derived.Deep.QuietTactic
import Derived.BigQuiet
namespace Go.Proofs.Ythodmmckekgkdaa.Ctx
open Go Go.RowKit Mem Sets
set_option maxRecDepth 100000

/-- A context as a value: its number of attributes and its rows. -/
abbrev ctx (a : Int) (v : Value) : Value := .agg #[.int .i64 a, v]

theorem bcell {W w1 : World} (hb : Below W.heap.size W w1) : (∀ b o, b < W.heap.size → w1.cell? ⟨b, o, none⟩ = W.cell? ⟨b, o, none⟩) ∧ (∀ b o, b < W.heap.size → w1.frozen? ⟨b, o, none⟩ = W.frozen? ⟨b, o, none⟩) :=
  ⟨fun b o h => hb.cell (p := ⟨b, o, none⟩) h, fun b o h => hb.frozen (p := ⟨b, o, none⟩) h⟩

theorem bdrewN {B : Nat} {a w : World} (h : Below B a w) (n : Nat) : Below B a (w.drewN n) := ⟨h.os, h.tape, h.output, h.size, h.block⟩
theorem reads_form {w : World} {B : Nat} {v : Value} {xs : List Int} (h : Reads w B v (ints xs)) : ∃ a c, v = .slice a xs.length c := by
  obtain ⟨_, a, c, rfl, _⟩ := h
  exact ⟨a, c, by simp [ints]⟩
theorem own_form {e : TypeId} {w : World} {lo hi : Nat} {v : Value} {xs : List Int} (h : Own e w lo hi v (ints xs)) : ∃ a c, v = .slice a xs.length c := reads_form h.reads

theorem own_set {e : TypeId} {w : World} {lo hi : Nat} {v : Value} {cs : List Value} (h : Own e w lo hi v cs) {p : Addr} (hp : p.block < lo ∨ hi ≤ p.block) (u : Value) : Own e (w.setCell p u) lo hi v cs :=
  ⟨ownsRow_same h.1 fun k hk => Below.heap_setCell w p u k (by have := h.2 k hk; have := (h.1.lt k hk).1; omega), h.2⟩

theorem szInts (v : Value) (n : Nat) (left : Int) (w : World) (hv : ∃ a c, v = .slice a n c) (hn : n ≤ 9223372036854775807) (h0 : 0 ≤ left) (h1 : left ≤ 1048576) :
    Calls Try.prog 91 #[v, .int .i64 left] w fun e w' => e = .returned (.int .i64 (if left < n then -1 else left - n)) ∧ w' = w := by
  obtain ⟨a, c, rfl⟩ := hv
  by_cases h : left < n
  · have hd : decide (left - (n : Int) < 0) = true := by simp; omega
    go_enter Try.func91, Try.ntmps91
    go_wp2_with fail
    go_ret
    exact ⟨by simp, rfl⟩
  · have hd : decide (left - (n : Int) < 0) = false := by simp; omega
    go_enter Try.func91, Try.ntmps91
    go_wp2_with fail
    go_ret
    exact ⟨by simp, rfl⟩
theorem szCtx (a : Int) (v : Value) (n : Nat) (left : Int) (w : World) (hv : ∃ a c, v = .slice a n c) (hn : n ≤ 9223372036854775807) (h0 : 0 ≤ left) (h1 : left ≤ 1048576) :
    Calls Try.prog 41 #[ctx a v, .int .i64 left] w fun e w' => e = .returned (.int .i64 (if left < n then -1 else left - n)) ∧ Below w.heap.size w w' := by
  have H := Lib.hid (fun w => szInts v n left w hv hn h0 h1)
  by_cases h : left < n
  · simp only [h, if_true] at H ⊢
    go_enter Try.func41, Try.ntmps41
    go_wp2_with fail
    refine (H.out _).mono ?_
    rintro e w' ⟨rfl, rfl⟩
    go_wp2_with fail
    go_ret
    exact ⟨rfl, (Below.refl _ _).alloc (Nat.le_refl _) _⟩
  · simp only [h, if_false] at H ⊢
    have hd : decide (left - (n : Int) < 0) = false := by simp; omega
    go_enter Try.func41, Try.ntmps41
    go_wp2_with fail
    refine (H.out _).mono ?_
    rintro e w' ⟨rfl, rfl⟩
    go_wp2_with fail
    go_ret
    exact ⟨rfl, (Below.refl _ _).alloc (Nat.le_refl _) _⟩
theorem toCtx (a : Int) (v : Value) (rs : List Int) (B : Nat) (w : World) (hr : Reads w B v (ints rs)) (hB : B ≤ w.heap.size) (hlen : rs.length ≤ 1048576) :
    Calls Try.prog 42 #[ctx a v] w fun e w' => ∃ u, e = .returned (ctx a u) ∧ Own 3 w' w.heap.size w'.heap.size u (ints rs) ∧ Below w.heap.size w w' := by
  have HR := Lib.hid hr
  clear hr
  go_enter Try.func42, Try.ntmps42
  go_wp2_with fail
  refine (Ints.toInts v rs B _ (HR.out.below (B' := w.heap.size) (((Below.refl _ _).alloc (Nat.le_refl _) _).alloc (by simp) _ |>.alloc (by simp; omega) _) hB) (by simp; omega) hlen).mono ?_
  rintro e w1 ⟨u, rfl, o, b⟩
  obtain ⟨hc, hf⟩ := bcell b
  have hz := b.size
  simp at hz
  have O := Lib.hid o
  obtain ⟨au, cu, rfl⟩ := own_form o
  have BB := Lib.hid b
  clear o b
  go_wp2_with fail
  refine bodyPost_ret (v := ctx a (.slice au rs.length cu)) (by simp [results, Try.results42, go_sem, hc]) rfl ⟨_, rfl, ?_, ?_⟩
  · have o := O.out
    simp at o
    exact (own_set (own_set (own_set o (.inl (by simp)) _) (.inl (by simp)) _) (.inl (by simp)) _).mono (by omega) (by simp)
  · exact (((((((Below.refl _ _).alloc (Nat.le_refl _) _).alloc (by simp) _).alloc (by simp; omega) _).trans (BB.out.mono (by simp; omega))).setCell (by simp; omega) _).setCell (by simp) _).setCell (by simp) _
theorem eqCtx (a b : Int) (va vb : Value) (xs ys : List Int) (Ba Bb : Nat) (w : World) (ha : Reads w Ba va (ints xs)) (hb : Reads w Bb vb (ints ys)) (hBa : Ba ≤ w.heap.size) (hBb : Bb ≤ w.heap.size) :
    Calls Try.prog 44 #[ctx a va, ctx b vb] w fun e w' => e = .returned (.bool (a == b && xs == ys)) ∧ Below w.heap.size w w' := by
  obtain ⟨aa, ca, rfl⟩ := reads_form ha
  obtain ⟨ab, cb, rfl⟩ := reads_form hb
  by_cases h : a = b
  · subst h
    have hd : (a != a) = false := by simp
    have HA := Lib.hid ha
    have HB := Lib.hid hb
    clear ha hb
    by_cases hxy : xs = ys
    · subst hxy
      have hq : (xs == xs) = true := by simp
      go_enter Try.func44, Try.ntmps44
      go_wp2_with fail
      refine (Ints.eqInts _ _ xs xs Ba Bb _ (HA.out.below (B' := w.heap.size) (((Below.refl _ _).alloc (Nat.le_refl _) _).alloc (by simp) _) hBa) (HB.out.below (B' := w.heap.size) (((Below.refl _ _).alloc (Nat.le_refl _) _).alloc (by simp) _) hBb) (by simp; omega) (by simp; omega)).mono ?_
      rintro e w1 ⟨rfl, b⟩
      have BB := Lib.hid b
      clear b
      go_wp2_with fail
      go_ret
      exact ⟨by simp, ((((Below.refl _ _).alloc (Nat.le_refl _) _).alloc (by simp) _).trans (BB.out.mono (by simp; omega)))⟩
    · have hq : (xs == ys) = false := by simpa using hxy
      have H := Lib.hid hxy
      clear hxy
      go_enter Try.func44, Try.ntmps44
      go_wp2_with fail
      refine (Ints.eqInts _ _ xs ys Ba Bb _ (HA.out.below (B' := w.heap.size) (((Below.refl _ _).alloc (Nat.le_refl _) _).alloc (by simp) _) hBa) (HB.out.below (B' := w.heap.size) (((Below.refl _ _).alloc (Nat.le_refl _) _).alloc (by simp) _) hBb) (by simp; omega) (by simp; omega)).mono ?_
      rintro e w1 ⟨rfl, b⟩
      have BB := Lib.hid b
      clear b
      go_wp2_with fail
      go_ret
      exact ⟨by simp [hq], ((((Below.refl _ _).alloc (Nat.le_refl _) _).alloc (by simp) _).trans (BB.out.mono (by simp; omega)))⟩
  · have hd : (a != b) = true := by simpa using h
    have hd2 : (a == b) = false := by simpa using h
    clear ha hb h
    go_enter Try.func44, Try.ntmps44
    go_wp2_with fail
    go_ret
    exact ⟨by simp [hd2], (((Below.refl _ _).alloc (Nat.le_refl _) _).alloc (by simp) _)⟩
theorem markCtx (a : Int) (v : Value) (xs : List Int) (k : Nat) (lo hi : Nat) (w : World) (ho : Own 3 w lo hi v (ints xs)) (hlo : hi ≤ w.heap.size) (hk : k + xs.length ≤ 9223372036854775807) :
    Calls Try.prog 45 #[ctx a v, .int .i64 k] w fun e w' => e = .returned (.int .i64 ((k + xs.length : Nat) : Int)) ∧ Own 3 w' lo hi v (ints (seq k xs.length)) ∧ Apart lo hi w w' := by
  obtain ⟨aa, ca, rfl⟩ := own_form ho
  have HO := Lib.hid ho
  clear ho
  go_enter Try.func45, Try.ntmps45
  go_wp2_with fail
  refine (Ints.markInts _ xs k lo hi _ (HO.out.below (B := w.heap.size) ((Below.refl _ _).alloc (Nat.le_refl _) _) hlo) hk).mono ?_
  rintro e w1 ⟨rfl, m, ap⟩
  have M := Lib.hid m
  have AP := Lib.hid ap
  clear m ap
  go_wp2_with fail
  go_ret
  exact ⟨rfl, M.out, (Apart.of_below (B := w.heap.size) ((Below.refl _ _).alloc (Nat.le_refl _) _) (Nat.le_refl _)).trans AP.out⟩

/-- A context. -/
def isCtx (a : Int) (rs : List Int) : Bool := decide (0 ≤ a ∧ a ≤ 6) && decide (rs.length ≤ 8) && rs.all (isSet a)
theorem all_step {rs : List Int} {a : Int} {k : Nat} (hk : k < rs.length) (h : (rs.take k).all (isSet a) = true) (hs : isSet a (rs.getD k 0) = true) : (rs.take (k + 1)).all (isSet a) = true := by
  rw [List.take_add_one, List.getElem?_eq_getElem hk, List.all_append, h]
  simp only [List.getD, List.getElem?_eq_getElem hk, Option.getD_some] at hs
  simp [hs]
theorem all_bad {rs : List Int} {a : Int} {k : Nat} (hk : k < rs.length) (hs : isSet a (rs.getD k 0) = false) : rs.all (isSet a) = false := by
  simp only [List.getD, List.getElem?_eq_getElem hk, Option.getD_some] at hs
  rw [List.all_eq_false]
  exact ⟨rs[k], List.getElem_mem hk, by simp [hs]⟩

set_option maxHeartbeats 400000 in
theorem spec_isCtx (a : Int) (v : Value) (rs : List Int) (B : Nat) (w : World) (hr : Reads w B v (ints rs)) (hB : B ≤ w.heap.size) :
    Calls Try.prog 25 #[ctx a v] w fun e w' => e = .returned (.bool (isCtx a rs)) ∧ Below w.heap.size w w' := by
  obtain ⟨hl, aa, ca, rfl, hca⟩ := hr
  simp only [ints, List.length_map] at hl hca ⊢
  have Hl : rs.length ≤ 9223372036854775807 := by unfold maxLen at hl; omega
  by_cases hne : rs = []
  · subst hne
    clear hca hl
    go_enter Try.func25, Try.ntmps25
    go_wp2_with fail
    refine wp_loop_rounds 1 ?_
    rw [rounds_succ]
    go_wp2_with fail
    refine (l1In a 0 6 _).mono ?_
    rintro e w' ⟨rfl, rfl⟩
    generalize hX : decide (0 ≤ a ∧ a ≤ 6) = X
    have HX := Lib.hid hX
    clear hX
    cases X
    all_goals
      go_wp2_with fail
      go_ret
      exact ⟨by simp [isCtx, HX.out], (Below.refl _ _).alloc (Nat.le_refl _) _⟩
  · obtain ⟨b, o, rfl, hb, gca⟩ := hca (by simpa using hne)
    have HC := Lib.hid gca
    clear hl hca gca hne
    go_enter Try.func25, Try.ntmps25
    go_wp2_with fail
    go_loopw [3] (fun i wr => ∃ k : Nat, k ≤ rs.length ∧ i = .int .i64 k ∧ Hid ((rs.take k).all (isSet a) = true) ∧ Below (w.heap.size + 1) (w.alloc (Obj.cells #[Value.int IntKind.i64 a, Value.slice (some ⟨b, o, none⟩) rs.length ca] 26)) wr) (fun i _ => rs.length - (intOf i).toNat)
    case atStart => exact ⟨0, Nat.zero_le _, rfl, Lib.hid (by simp), Below.refl _ _⟩
    case round =>
      obtain ⟨k, hk, rfl, hall, hbel⟩ := hrel
      have c0 : wr.cell? ⟨w.heap.size, 0, none⟩ = some (.int .i64 a) := by rw [hbel.cell (p := ⟨w.heap.size, 0, none⟩) (by simp)]; simp
      have c1 : wr.cell? ⟨w.heap.size, 1, none⟩ = some (.slice (some ⟨b, o, none⟩) rs.length ca) := by rw [hbel.cell (p := ⟨w.heap.size, 1, none⟩) (by simp)]; simp
      have hz : w.heap.size + 1 ≤ wr.heap.size := by have := hbel.size; simpa using this
      by_cases hlt : k < rs.length
      · have c2 : wr.cell? ⟨b, o + k, none⟩ = some (.int .i64 (rs.getD k 0)) := by
          rw [hbel.cell (p := ⟨b, o + k, none⟩) (by show b < _; omega), World.cell?_alloc_lt _ _ _ (by show b < _; omega), HC.out k hlt, ints_get rs k hlt]
        cases hs : isSet a (rs.getD k 0) with
        | true =>
          have HS := Lib.hid (all_step hlt hall.out hs)
          generalize rs.getD k 0 = x at c2 hs
          go_wp2_with fail
          go_quiet ((go_at_call 72; exact Calls.quiet_of_same (spec_isSet _ _ _)))
          go_wp2_with fail
          go_roundw
          case rel => exact ⟨k + 1, by omega, by simp, HS, bdrewN hbel _⟩
          case measure => simp [intOf]; omega
        | false =>
          have HS := Lib.hid (all_bad hlt hs)
          generalize rs.getD k 0 = x at c2 hs
          go_wp2_with fail
          go_quiet ((go_at_call 72; exact Calls.quiet_of_same (spec_isSet _ _ _)))
          go_wp2_with fail
          go_ret
          exact ⟨by simp [isCtx, HS.out], bdrewN (((Below.refl _ _).alloc (Nat.le_refl _) _).trans (hbel.mono (by omega))) _⟩
      · have hkn : k = rs.length := by omega
        have HA : Hid (rs.all (isSet a) = true) := Lib.hid (by have := hall.out; rwa [List.take_of_length_le (by omega)] at this)
        go_wp2_with fail
        refine (l1In a 0 6 _).mono ?_
        rintro e w' ⟨rfl, rfl⟩
        generalize hX : decide (0 ≤ a ∧ a ≤ 6) = X
        have HX := Lib.hid hX
        clear hX
        cases X
        all_goals
          go_wp2_with fail
          go_ret
          exact ⟨by simp [isCtx, HX.out, HA.out] <;> omega, ((Below.refl _ _).alloc (Nat.le_refl _) _).trans (hbel.mono (by omega))⟩
set_option maxHeartbeats 400000 in
theorem impl_isCtx (a : Int) (v : Value) (rs : List Int) (B : Nat) (w : World) (hr : Reads w B v (ints rs)) (hB : B ≤ w.heap.size) :
    Calls Try.prog 55 #[ctx a v] w fun e w' => e = .returned (.bool (isCtx a rs)) ∧ Below w.heap.size w w' := by
  obtain ⟨hl, aa, ca, rfl, hca⟩ := hr
  simp only [ints, List.length_map] at hl hca ⊢
  have Hl : rs.length ≤ 9223372036854775807 := by unfold maxLen at hl; omega
  have HC := Lib.hid hca
  clear hl hca
  by_cases h0 : 0 ≤ a
  · have d0 : decide (a < 0) = false := by simp; omega
    by_cases h6 : a ≤ 6
    · have d6 : decide (6 < a) = false := by simp; omega
      by_cases h8 : rs.length ≤ 8
      · have d8 : decide ((8 : Int) < (rs.length : Int)) = false := by simp; omega
        by_cases hne : rs = []
        · subst hne
          have HX : Hid (decide (0 ≤ a ∧ a ≤ 6) = true) := Lib.hid (by simp [h0, h6])
          go_enter Try.func55, Try.ntmps55
          go_wp2_with fail
          refine wp_loop_rounds 1 ?_
          rw [rounds_succ]
          go_wp2_with fail
          go_ret
          exact ⟨by simp [isCtx, HX.out], (Below.refl _ _).alloc (Nat.le_refl _) _⟩
        · obtain ⟨b, o, rfl, hb, gca⟩ := HC.out (by simpa using hne)
          have HD := Lib.hid gca
          clear gca HC hne
          have HX : Hid (decide (0 ≤ a ∧ a ≤ 6) = true) := Lib.hid (by simp [h0, h6])
          go_enter Try.func55, Try.ntmps55
          go_wp2_with fail
          go_loop [22] (fun i => ∃ k : Nat, k ≤ rs.length ∧ i = .int .i64 k ∧ Hid ((rs.take k).all (isSet a) = true)) (fun i => rs.length - (intOf i).toNat)
          case atStart => exact ⟨0, Nat.zero_le _, rfl, Lib.hid (by simp)⟩
          case round =>
            obtain ⟨k, hk, rfl, hall⟩ := hrel
            by_cases hlt : k < rs.length
            · have c2 : (w.alloc (Obj.cells #[Value.int IntKind.i64 a, Value.slice (some ⟨b, o, none⟩) rs.length ca] 26)).cell? ⟨b, o + k, none⟩ = some (.int .i64 (rs.getD k 0)) := by
                rw [World.cell?_alloc_lt _ _ _ (by show b < _; omega), HD.out k hlt, ints_get rs k hlt]
              cases hs : isSet a (rs.getD k 0) with
              | true =>
                have HS := Lib.hid (all_step hlt hall.out hs)
                generalize rs.getD k 0 = x at c2 hs
                go_wp2_with fail
                refine (impl_isSet _ _ _).mono ?_
                rintro e w' ⟨rfl, rfl⟩
                rw [hs]
                go_wp2_with fail
                go_round
                case rel => exact ⟨k + 1, by omega, by simp, HS⟩
                case measure => simp [intOf]; omega
              | false =>
                have HS := Lib.hid (all_bad hlt hs)
                generalize rs.getD k 0 = x at c2 hs
                go_wp2_with fail
                refine (impl_isSet _ _ _).mono ?_
                rintro e w' ⟨rfl, rfl⟩
                rw [hs]
                go_wp2_with fail
                go_ret
                exact ⟨by simp [isCtx, HS.out], (Below.refl _ _).alloc (Nat.le_refl _) _⟩
            · have HA : Hid (rs.all (isSet a) = true) := Lib.hid (by have := hall.out; rwa [List.take_of_length_le (by omega)] at this)
              go_wp2_with fail
              go_ret
              exact ⟨by simp [isCtx, HX.out, HA.out] <;> omega, (Below.refl _ _).alloc (Nat.le_refl _) _⟩
      · have d8 : decide ((8 : Int) < (rs.length : Int)) = true := by simp; omega
        have HX : isCtx a rs = false := by simp [isCtx, h8]
        rw [HX]
        clear h8 HX
        go_enter Try.func55, Try.ntmps55
        go_wp2_with fail
        go_ret
        exact ⟨rfl, (Below.refl _ _).alloc (Nat.le_refl _) _⟩
    · have d6 : decide (6 < a) = true := by simp; omega
      have HX : isCtx a rs = false := by simp [isCtx, h6]
      rw [HX]
      clear h6 HX
      go_enter Try.func55, Try.ntmps55
      go_wp2_with fail
      go_ret
      exact ⟨rfl, (Below.refl _ _).alloc (Nat.le_refl _) _⟩
  · have d0 : decide (a < 0) = true := by simp; omega
    have HX : isCtx a rs = false := by simp [isCtx, h0]
    rw [HX]
    clear h0 HX
    go_enter Try.func55, Try.ntmps55
    go_wp2_with fail
    go_ret
    exact ⟨rfl, (Below.refl _ _).alloc (Nat.le_refl _) _⟩

/-- The objects among the first k that have the attribute m. -/
def colTo (rs : List Int) (m : Int) : Nat → Nat
  | 0 => 0
  | k + 1 => if bit (rs.getD k 0) m then colTo rs m k ||| 2 ^ k else colTo rs m k
theorem colTo_lt (rs : List Int) (m : Int) (k : Nat) : colTo rs m k < 2 ^ k := by
  induction k with
  | zero => simp [colTo]
  | succ k ih =>
    have h1 : 2 ^ k < 2 ^ (k + 1) := Nat.pow_lt_pow_right (by omega) (by omega)
    unfold colTo
    split
    · exact Nat.or_lt_two_pow (by omega) h1
    · omega
theorem or_nat (m k : Nat) (hm : m < 256) (hk : k < 256) : bits .or .i64 (m : Int) (k : Int) = ((m ||| k : Nat) : Int) :=
  (bits_nat .i64 8 (by decide) (fun n h0 h1 => by rw [IntKind.wrap_i64]; omega) m k hm hk).2
theorem or_pow (m k : Nat) (hm : m < 256) (hk : k < 8) : bits .or .i64 (m : Int) (wrap64 (2 ^ k)) = ((m ||| 2 ^ k : Nat) : Int) := by
  have hp : 2 ^ k < 2 ^ 8 := Nat.pow_lt_pow_right (by omega) (by omega)
  have e : ((2 : Int) ^ k) = ((2 ^ k : Nat) : Int) := by simp
  rw [e]
  generalize 2 ^ k = q at hp
  rw [IntWalk.wrap64_in _ ⟨by omega, by omega⟩, or_nat m q hm (by omega)]
theorem isCtx_parts {a : Int} {rs : List Int} (h : isCtx a rs = true) : 0 ≤ a ∧ a ≤ 6 ∧ rs.length ≤ 8 ∧ ∀ k, k < rs.length → isSet a (rs.getD k 0) = true := by
  simp only [isCtx, Bool.and_eq_true, decide_eq_true_eq, List.all_eq_true] at h
  refine ⟨h.1.1.1, h.1.1.2, h.1.2, fun k hk => h.2 _ ?_⟩
  simp only [List.getD, List.getElem?_eq_getElem hk, Option.getD_some]
  exact List.getElem_mem hk
theorem isSet_le {a s : Int} (h : isSet a s = true) : 0 ≤ s ∧ s ≤ 255 := by
  simp only [isSet, decide_eq_true_eq] at h
  obtain ⟨⟨h0, h1⟩, h2, h3⟩ := h
  rcases cases9 ⟨h0, h1⟩ with rfl | rfl | rfl | rfl | rfl | rfl | rfl | rfl | rfl <;> simp at h3 <;> omega
theorem row_le {a : Int} {rs : List Int} (h : isCtx a rs = true) (k : Nat) : 0 ≤ rs.getD k 0 ∧ rs.getD k 0 ≤ 255 := by
  by_cases hk : k < rs.length
  · exact isSet_le ((isCtx_parts h).2.2.2 k hk)
  · simp [List.getElem?_eq_none (by omega : rs.length ≤ k)]

end Go.Proofs.Ythodmmckekgkdaa.Ctx
