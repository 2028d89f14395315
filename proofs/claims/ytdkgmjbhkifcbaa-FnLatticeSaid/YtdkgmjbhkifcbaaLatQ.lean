/-
  The law of lattices: what it asks of the answers (pure).
-/
import Derived.Test.YtdkgmjbhkifcbaaLatF
namespace Go.Proofs.Ytdkgmjbhkifcbaa.Tab
open Go Go.RowKit Mem Sets Ctx
set_option maxRecDepth 100000

theorem atFrom_found {l : List PInt} {s : Int} : ∀ (r k : Nat), k + r = l.length → (∃ j, k ≤ j ∧ j < l.length ∧ (l.getD j (0, 0)).2 = s) → ∃ j : Nat, j < l.length ∧ atFrom l s k r = (j : Int) ∧ (l.getD j (0, 0)).2 = s
  | 0, k, hk, ⟨j, h1, h2, _⟩ => by omega
  | r + 1, k, hk, ⟨j, h1, h2, h3⟩ => by
    rw [atFrom]
    by_cases h : (l.getD k (0, 0)).2 = s
    · exact ⟨k, by omega, by rw [if_pos h], h⟩
    · rw [if_neg h]
      refine atFrom_found r (k + 1) (by omega) ⟨j, ?_, h2, h3⟩
      by_cases e : j = k
      · subst e; exact absurd h3 h
      · omega
theorem meet_good {a : Int} {rs : List Int} {x y : Int} (hx : exi (concepts a rs) x = true) (hy : exi (concepts a rs) y = true) :
    ∃ k : Nat, k < (concepts a rs).length ∧ meetS a rs x y = (k : Int) ∧ ∀ i, i < (concepts a rs).length → und' (concepts a rs) i k = (und' (concepts a rs) i x.toNat && und' (concepts a rs) i y.toNat) := by
  rw [← meet_eq, meetI, if_pos ⟨hx, hy⟩]
  obtain ⟨i, rfl, hi⟩ := exi_nat hx
  obtain ⟨j, rfl, hj⟩ := exi_nat hy
  have hc := con_ctx hi
  have C := clo_ok hc
  simp only [Int.toNat_natCast]
  have hu : it a rs i ||| it a rs j < 2 ^ a.toNat := Nat.or_lt_two_pow (it_ok hi).1 (it_ok hj).1
  obtain ⟨m, hm, hme⟩ := it_ex hc (C.lt _) (C.idem _ hu)
  rw [rowFrom_at (s := ((clo a rs (it a rs i ||| it a rs j) : Nat) : Int)) (fun k hk => by rw [meet_row hi hj hk, in_eq hk]; omega) _ 0 (by omega)]
  obtain ⟨k, hk, he, hs⟩ := atFrom_found (concepts a rs).length 0 (by omega) ⟨m, by omega, hm, by rw [in_eq hm, hme]⟩
  refine ⟨k, hk, he, fun z hz => ?_⟩
  rw [in_eq hk] at hs
  have hr := (meet_row hi hj hk).2 (by omega)
  have := (eqRow_iff.1 hr) z (Nat.lt_of_lt_of_le hz (concepts_64 a rs))
  simp only [below] at this
  rwa [und_eq hz hk, und_eq hz hi, und_eq hz hj] at this
theorem join_good {a : Int} {rs : List Int} {x y : Int} (hx : exi (concepts a rs) x = true) (hy : exi (concepts a rs) y = true) :
    ∃ k : Nat, k < (concepts a rs).length ∧ joinS a rs x y = (k : Int) ∧ ∀ i, i < (concepts a rs).length → und' (concepts a rs) k i = (und' (concepts a rs) x.toNat i && und' (concepts a rs) y.toNat i) := by
  rw [← join_eq, joinI, if_pos ⟨hx, hy⟩]
  obtain ⟨i, rfl, hi⟩ := exi_nat hx
  obtain ⟨j, rfl, hj⟩ := exi_nat hy
  have hc := con_ctx hi
  have C := clo_ok hc
  simp only [Int.toNat_natCast]
  have hu : it a rs i &&& it a rs j < 2 ^ a.toNat := Nat.lt_of_le_of_lt Nat.and_le_left (it_ok hi).1
  have hcl : clo a rs (it a rs i &&& it a rs j) = it a rs i &&& it a rs j := by
    have hle : Le (it a rs i &&& it a rs j) (it a rs i) ∧ Le (it a rs i &&& it a rs j) (it a rs j) := le_and.1 (Le.refl _)
    have h1 : Le (clo a rs (it a rs i &&& it a rs j)) (clo a rs (it a rs i)) := C.mono _ _ hle.1
    have h2 : Le (clo a rs (it a rs i &&& it a rs j)) (clo a rs (it a rs j)) := C.mono _ _ hle.2
    rw [(it_ok hi).2] at h1
    rw [(it_ok hj).2] at h2
    exact Le.antisymm (le_and.2 ⟨h1, h2⟩) (C.ext _ hu)
  obtain ⟨m, hm, hme⟩ := it_ex hc hu hcl
  rw [rowFrom_at (s := ((it a rs i &&& it a rs j : Nat) : Int)) (fun k hk => by rw [join_row hi hj hk, in_eq hk]; omega) _ 0 (by omega)]
  obtain ⟨k, hk, he, hs⟩ := atFrom_found (concepts a rs).length 0 (by omega) ⟨m, by omega, hm, by rw [in_eq hm, hme]⟩
  refine ⟨k, hk, he, fun z hz => ?_⟩
  rw [in_eq hk] at hs
  have hr := (join_row hi hj hk).2 (by omega)
  have := (eqRow_iff.1 hr) z (Nat.lt_of_lt_of_le hz (concepts_64 a rs))
  simp only [above] at this
  rwa [und_eq hk hz, und_eq hi hz, und_eq hj hz] at this
theorem und_refl {a : Int} {rs : List Int} {i : Nat} (hi : i < (concepts a rs).length) : und' (concepts a rs) i i = true := by
  rw [← und_eq hi hi]; exact (und_le hi hi).2 (Le.refl _)
theorem srt_t (l : List PInt) (i j : Nat) : srt l true i j = und' l i j := if_pos rfl
theorem srt_f (l : List PInt) (i j : Nat) : srt l false i j = und' l j i := if_neg (by simp)
theorem covS_flip {l : List PInt} {i b : Nat} (h : covS l true i b = true) : covS l false b i = true := by
  have h' := covS_iff.1 h
  simp only [srt_t] at h'
  refine covS_iff.2 ?_
  simp only [srt_f]
  refine ⟨fun e => h'.1 e.symm, h'.2.1, fun k hk => ?_⟩
  rcases h'.2.2 k hk with h1 | h1 | h1 | h1
  · exact .inr (.inl h1)
  · exact .inl h1
  · exact .inr (.inr (.inr h1))
  · exact .inr (.inr (.inl h1))
theorem mem_covN {c : Nat → Bool} {k : Nat} {y : Int} : y ∈ covN c k ↔ ∃ b : Nat, y = b ∧ b < k ∧ c b = true := by
  simp only [covN, List.mem_map, List.mem_filter, List.mem_range]
  constructor
  · rintro ⟨b, ⟨h1, h2⟩, rfl⟩; exact ⟨b, rfl, h1, h2⟩
  · rintro ⟨b, rfl, h1, h2⟩; exact ⟨b, ⟨h1, h2⟩, rfl⟩
theorem up_facts {l : List PInt} {x y : Int} (h : y ∈ covL l true x) : isBelS l x y = true ∧ (y == x) = false ∧ x ∈ covL l false y := by
  unfold covL at h
  split at h
  · rename_i hx
    obtain ⟨i, rfl, hi⟩ := exi_nat hx
    obtain ⟨b, rfl, hb, hc⟩ := mem_covN.1 h
    rw [Int.toNat_natCast] at hc
    have hb' : exi l (b : Int) = true := by simp [exi]; omega
    have hs := covS_iff.1 hc
    refine ⟨?_, ?_, ?_⟩
    · rw [isBelS, hx, hb', Int.toNat_natCast, Int.toNat_natCast]
      have h2 := hs.2.1
      rw [srt_t] at h2
      rw [h2]; rfl
    · have := hs.1
      simp; omega
    · rw [covL, if_pos hb', Int.toNat_natCast]
      exact mem_covN.2 ⟨i, rfl, hi, covS_flip hc⟩
  · simp at h
end Go.Proofs.Ytdkgmjbhkifcbaa.Tab
