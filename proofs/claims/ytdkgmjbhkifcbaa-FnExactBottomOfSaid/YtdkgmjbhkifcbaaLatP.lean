/-
  The concepts of a context in their order: what the program's tables say is what the model asks (pure).
-/
import Derived.Test.YtdkgmjbhkifcbaaSLat2
import Derived.Test.YtdkgmjbhkifcbaaConP
namespace Go.Proofs.Ytdkgmjbhkifcbaa.Tab
open Go Go.RowKit Mem Sets Ctx
set_option maxRecDepth 100000

theorem ex_eq {a : Int} {rs : List Int} {i : Nat} (h : i < (concepts a rs).length) : ex (concepts a rs) i = ((E rs (it a rs i) : Nat) : Int) := by rw [ex, con_get h]
theorem sub_subB {s t : Nat} (hs : s < 256) (ht : t < 256) : sub (s : Int) (t : Int) = subB (s : Int) (t : Int) := by rw [sub, isSet8_true ⟨by omega, by omega⟩, isSet8_true ⟨by omega, by omega⟩]; rfl
/-- Program's and model's order agree. -/
theorem und_eq {a : Int} {rs : List Int} {i j : Nat} (hi : i < (concepts a rs).length) (hj : j < (concepts a rs).length) : und (concepts a rs) i j = und' (concepts a rs) i j := by
  have hc := con_ctx hi
  rw [und, decide_eq_true hi, decide_eq_true hj, und', ex_eq hi, ex_eq hj, sub_subB (E_256 hc _) (E_256 hc _)]; rfl
theorem und_le {a : Int} {rs : List Int} {i j : Nat} (hi : i < (concepts a rs).length) (hj : j < (concepts a rs).length) : und (concepts a rs) i j = true ↔ Le (it a rs j) (it a rs i) := by
  have hc := con_ctx hi
  rw [und, decide_eq_true hi, decide_eq_true hj, ex_eq hi, ex_eq hj, Bool.true_and, Bool.true_and, sub_nat (E_256 hc _) (E_256 hc _), ← E_le hi hj]
  exact Iff.rfl
theorem und_out {l : List PInt} {i j : Nat} (h : ¬ (i < l.length ∧ j < l.length)) : und l i j = false := by
  cases hu : und l i j with
  | false => rfl
  | true =>
    simp [und] at hu
    exact absurd ⟨hu.1, hu.2.1⟩ h
theorem rowFrom_at {a : Int} {rs : List Int} {M : Nat → Nat → Bool} {f : Nat → Bool} {s : Int} (h : ∀ k, k < (concepts a rs).length → (eqRow (M k) f = true ↔ ((concepts a rs).getD k (0, 0)).2 = s)) : ∀ (r k : Nat), k + r = (concepts a rs).length → rowFrom M f k r = atFrom (concepts a rs) s k r
  | 0, _, _ => rfl
  | r + 1, k, hk => by
    rw [rowFrom, atFrom, rowFrom_at h r (k + 1) (by omega)]
    have := h k (by omega)
    by_cases hc : eqRow (M k) f = true
    · rw [if_pos hc, if_pos (this.1 hc)]
    · rw [if_neg hc, if_neg (fun e => hc (this.2 e))]
/-- A row of truth values that ends with the concepts. -/
theorem eqRow_con {n : Nat} {f g : Nat → Bool} (hn : n ≤ 64) (hf : ∀ z, n ≤ z → f z = false) (hg : ∀ z, n ≤ z → g z = false) : eqRow f g = true ↔ ∀ z, z < n → (f z = true ↔ g z = true) := by
  rw [eqRow_iff]
  constructor
  · intro h z hz; rw [h z (by omega)]
  · intro h z _
    by_cases hz : z < n
    · exact Bool.eq_iff_iff.2 (h z hz)
    · rw [hf z (by omega), hg z (by omega)]
theorem meet_row {a : Int} {rs : List Int} {i j k : Nat} (hi : i < (concepts a rs).length) (hj : j < (concepts a rs).length) (hk : k < (concepts a rs).length) :
    eqRow (below (concepts a rs) k) (fun z => below (concepts a rs) i z && below (concepts a rs) j z) = true ↔ it a rs k = clo a rs (it a rs i ||| it a rs j) := by
  have hc := con_ctx hi
  have C := clo_ok hc
  have hu : it a rs i ||| it a rs j < 2 ^ a.toNat := Nat.or_lt_two_pow (it_ok hi).1 (it_ok hj).1
  obtain ⟨m, hm, hme⟩ := it_ex hc (C.lt _) (C.idem _ hu)
  have hext : Le (it a rs i ||| it a rs j) (clo a rs (it a rs i ||| it a rs j)) := C.ext _ hu
  rw [eqRow_con (concepts_64 a rs) (fun z hz => und_out (by omega)) (fun z hz => by simp only [below]; rw [und_out (by omega)]; rfl)]
  simp only [below, Bool.and_eq_true]
  constructor
  · intro h
    have h1 : Le (it a rs k) (it a rs m) := by
      rw [← und_le hm hk, h m hm, und_le hm hi, und_le hm hj, hme]
      exact le_or.1 hext
    have h2 := (h k hk).1 ((und_le hk hk).2 (Le.refl _))
    rw [und_le hk hi, und_le hk hj, ← le_or] at h2
    have h3 : Le (clo a rs (it a rs i ||| it a rs j)) (it a rs k) := by
      rw [← (it_ok hk).2]
      exact C.mono _ _ h2
    rw [hme] at h1
    exact Le.antisymm h1 h3
  · intro h z hz
    rw [und_le hz hk, und_le hz hi, und_le hz hj, h, ← le_or]
    constructor
    · exact fun h1 => Le.trans hext h1
    · intro h1
      rw [← (it_ok hz).2]
      exact C.mono _ _ h1
theorem join_row {a : Int} {rs : List Int} {i j k : Nat} (hi : i < (concepts a rs).length) (hj : j < (concepts a rs).length) (hk : k < (concepts a rs).length) :
    eqRow (above (concepts a rs) k) (fun z => above (concepts a rs) i z && above (concepts a rs) j z) = true ↔ it a rs k = it a rs i &&& it a rs j := by
  have hc := con_ctx hi
  have C := clo_ok hc
  have hu : it a rs i &&& it a rs j < 2 ^ a.toNat := Nat.lt_of_le_of_lt Nat.and_le_left (it_ok hi).1
  have hcl : clo a rs (it a rs i &&& it a rs j) = it a rs i &&& it a rs j := by
    have hle : Le (it a rs i &&& it a rs j) (it a rs i) ∧ Le (it a rs i &&& it a rs j) (it a rs j) := le_and.1 (Le.refl _)
    have h1 : Le (clo a rs (it a rs i &&& it a rs j)) (clo a rs (it a rs i)) := C.mono _ _ hle.1
    have h2 : Le (clo a rs (it a rs i &&& it a rs j)) (clo a rs (it a rs j)) := C.mono _ _ hle.2
    rw [(it_ok hi).2] at h1
    rw [(it_ok hj).2] at h2
    exact Le.antisymm (le_and.2 ⟨h1, h2⟩) (C.ext _ hu)
  obtain ⟨m, hm, hme⟩ := it_ex hc hu hcl
  rw [eqRow_con (concepts_64 a rs) (fun z hz => und_out (by omega)) (fun z hz => by simp only [above]; rw [und_out (by omega)]; rfl)]
  simp only [above, Bool.and_eq_true]
  constructor
  · intro h
    have h1 : Le (it a rs m) (it a rs k) := by
      rw [← und_le hk hm, h m hm, und_le hi hm, und_le hj hm, hme]
      exact le_and.1 (Le.refl _)
    have h2 := (h k hk).1 ((und_le hk hk).2 (Le.refl _))
    rw [und_le hi hk, und_le hj hk, ← le_and] at h2
    rw [hme] at h1
    exact Le.antisymm h2 h1
  · intro h z hz
    rw [und_le hk hz, und_le hi hz, und_le hj hz, h, le_and]
theorem E_or (rs : List Int) (x y : Nat) : E rs (x ||| y) = E rs x &&& E rs y := nat_bits fun g => by
  rw [Nat.testBit_and, Bool.and_eq_true, memE', memE', memE']
  constructor
  · rintro ⟨h, k⟩
    exact ⟨⟨h, fun j hj => k j (by simp [hj])⟩, h, fun j hj => k j (by simp [hj])⟩
  · rintro ⟨⟨h, k⟩, -, k2⟩
    refine ⟨h, fun j hj => ?_⟩
    rw [Nat.testBit_or, Bool.or_eq_true] at hj
    exact hj.elim (k j) (k2 j)
/-- What the model answers. -/
def meetS (a : Int) (rs : List Int) (x y : Int) : Int := if exi (concepts a rs) x = true ∧ exi (concepts a rs) y = true then atFrom (concepts a rs) (intTo a rs (bits .and .i64 (ex (concepts a rs) x.toNat) (ex (concepts a rs) y.toNat)) rs.length : Nat) 0 (concepts a rs).length else -1
def joinS (a : Int) (rs : List Int) (x y : Int) : Int := if exi (concepts a rs) x = true ∧ exi (concepts a rs) y = true then atFrom (concepts a rs) (bits .and .i64 ((concepts a rs).getD x.toNat (0, 0)).2 ((concepts a rs).getD y.toNat (0, 0)).2) 0 (concepts a rs).length else -1
theorem meet_eq (a : Int) (rs : List Int) (x y : Int) : meetI (concepts a rs) x y = meetS a rs x y := by
  unfold meetI meetS
  by_cases h : exi (concepts a rs) x = true ∧ exi (concepts a rs) y = true
  · rw [if_pos h, if_pos h]
    obtain ⟨i, rfl, hi⟩ := exi_nat h.1
    obtain ⟨j, rfl, hj⟩ := exi_nat h.2
    have hc := con_ctx hi
    simp only [Int.toNat_natCast]
    refine rowFrom_at (fun k hk => ?_) _ 0 (by omega)
    rw [meet_row hi hj hk, in_eq hk, ex_eq hi, ex_eq hj, and_nat _ _ (E_256 hc _) (E_256 hc _), ← E_or]
    show _ ↔ ((it a rs k : Nat) : Int) = ((clo a rs _ : Nat) : Int)
    omega
  · rw [if_neg h, if_neg h]
theorem join_eq (a : Int) (rs : List Int) (x y : Int) : joinI (concepts a rs) x y = joinS a rs x y := by
  unfold joinI joinS
  by_cases h : exi (concepts a rs) x = true ∧ exi (concepts a rs) y = true
  · rw [if_pos h, if_pos h]
    obtain ⟨i, rfl, hi⟩ := exi_nat h.1
    obtain ⟨j, rfl, hj⟩ := exi_nat h.2
    have hc := con_ctx hi
    have h6 : a.toNat ≤ 8 := by have := isCtx_parts hc; omega
    simp only [Int.toNat_natCast]
    refine rowFrom_at (fun k hk => ?_) _ 0 (by omega)
    rw [join_row hi hj hk, in_eq hk, in_eq hi, in_eq hj, and_nat _ _ (Nat.lt_of_lt_of_le (it_ok hi).1 (pow_le8 h6)) (Nat.lt_of_lt_of_le (it_ok hj).1 (pow_le8 h6))]
    omega
  · rw [if_neg h, if_neg h]
theorem bel_eq (a : Int) (rs : List Int) (x y : Int) : isBel (concepts a rs) x y = (exi (concepts a rs) x && (exi (concepts a rs) y && und' (concepts a rs) x.toNat y.toNat)) := by
  unfold isBel
  cases hx : exi (concepts a rs) x with
  | false => rfl
  | true =>
    cases hy : exi (concepts a rs) y with
    | false => rfl
    | true =>
      obtain ⟨i, rfl, hi⟩ := exi_nat hx
      obtain ⟨j, rfl, hj⟩ := exi_nat hy
      simp only [Int.toNat_natCast, und_eq hi hj]
/-- The covers. -/
theorem isCov_eq {a : Int} {rs : List Int} {i j : Nat} (hi : i < (concepts a rs).length) (hj : j < (concepts a rs).length) :
    isCov (above (concepts a rs)) (below (concepts a rs)) i j = true ↔ i ≠ j ∧ und (concepts a rs) i j = true ∧ ∀ k, k < (concepts a rs).length → k = i ∨ k = j ∨ ¬ und (concepts a rs) i k = true ∨ ¬ und (concepts a rs) k j = true := by
  have ri : und (concepts a rs) i i = true := (und_le hi hi).2 (Le.refl _)
  have rj : und (concepts a rs) j j = true := (und_le hj hj).2 (Le.refl _)
  rw [isCov, Bool.and_eq_true, decide_eq_true_eq, eqRow_con (concepts_64 a rs) (fun z hz => by simp only [above]; rw [und_out (by omega)]; rfl) (fun z hz => by rw [both, if_neg (by omega), if_neg (by omega)])]
  simp only [above, below, both, Bool.and_eq_true]
  refine and_congr Iff.rfl ⟨fun h => ⟨((h j hj).2 (by simp)).1, fun k hk => ?_⟩, fun h k hk => ?_⟩
  · have := h k hk
    by_cases h1 : k = i
    · exact .inl h1
    · by_cases h2 : k = j
      · exact .inr (.inl h2)
      · rw [if_neg h2, if_neg h1] at this
        by_cases h3 : und (concepts a rs) i k = true
        · exact .inr (.inr (.inr fun h4 => by have := this.1 ⟨h3, h4⟩; simp at this))
        · exact .inr (.inr (.inl h3))
  · by_cases h2 : k = j
    · subst h2; rw [if_pos rfl]; simp [h.1, rj]
    · by_cases h1 : k = i
      · subst h1; rw [if_neg h2, if_pos rfl]; simp [h.1, ri]
      · rw [if_neg h2, if_neg h1]
        rcases h.2 k hk with h3 | h3 | h3 | h3
        · exact absurd h3 h1
        · exact absurd h3 h2
        · simp [h3]
        · simp [h3]
theorem covS_iff {l : List PInt} {up : Bool} {i b : Nat} : covS l up i b = true ↔ b ≠ i ∧ srt l up i b = true ∧ ∀ k, k < l.length → k = i ∨ k = b ∨ ¬ srt l up i k = true ∨ ¬ srt l up k b = true := by
  simp [covS, fineN, apartB]
theorem up_eq (a : Int) (rs : List Int) (x : Int) : upI (concepts a rs) x = covL (concepts a rs) true x := by
  unfold upI covL
  cases hx : exi (concepts a rs) x with
  | false => rfl
  | true =>
    obtain ⟨i, rfl, hi⟩ := exi_nat hx
    simp only [if_true, Int.toNat_natCast, covN]
    refine congrArg _ (List.filter_congr fun b hb => ?_)
    have hb := List.mem_range.1 hb
    rw [Bool.eq_iff_iff, upc, isCov_eq hi hb, covS_iff]
    simp only [srt, if_true, ← und_eq hi hb]
    refine and_congr ne_comm (and_congr Iff.rfl ⟨fun h k hk => ?_, fun h k hk => ?_⟩)
    · have := h k hk; rwa [← und_eq hi hk, ← und_eq hk hb]
    · have := h k hk; rwa [← und_eq hi hk, ← und_eq hk hb] at this
theorem lo_eq (a : Int) (rs : List Int) (x : Int) : loI (concepts a rs) x = covL (concepts a rs) false x := by
  unfold loI covL
  cases hx : exi (concepts a rs) x with
  | false => rfl
  | true =>
    obtain ⟨i, rfl, hi⟩ := exi_nat hx
    simp only [if_true, Int.toNat_natCast, covN]
    refine congrArg _ (List.filter_congr fun b hb => ?_)
    have hb := List.mem_range.1 hb
    rw [Bool.eq_iff_iff, loc, isCov_eq hb hi, covS_iff]
    simp only [srt, Bool.false_eq_true, if_false, ← und_eq hb hi]
    refine and_congr Iff.rfl (and_congr Iff.rfl ⟨fun h k hk => ?_, fun h k hk => ?_⟩)
    · have := h k hk
      rw [← und_eq hk hi, ← und_eq hb hk]
      rcases this with h1 | h1 | h1 | h1
      · exact .inr (.inl h1)
      · exact .inl h1
      · exact .inr (.inr (.inr h1))
      · exact .inr (.inr (.inl h1))
    · have := h k hk
      rw [← und_eq hk hi, ← und_eq hb hk] at this
      rcases this with h1 | h1 | h1 | h1
      · exact .inr (.inl h1)
      · exact .inl h1
      · exact .inr (.inr (.inr h1))
      · exact .inr (.inr (.inl h1))
end Go.Proofs.Ytdkgmjbhkifcbaa.Tab
