/-
  All sets of n elements in lectic order, as the program lays them, and the stem base found by going through them (pure).
-/
import Derived.Test.YthodmmckekgkdaaStemQ
namespace Go.Proofs.Ythodmmckekgkdaa.Stem
open Go Go.RowKit Mem Sets Ctx Tab Rule Lectic
set_option maxRecDepth 100000

/-- The list after t doublings: behind the sets laid so far the same ones with the element n - 1 - t. -/
def layTo (n : Nat) : Nat → Nat → Nat
  | 0, _ => 0
  | t + 1, i => if i < 2 ^ t then layTo n t i else if i < 2 ^ (t + 1) then layTo n t (i - 2 ^ t) ||| 2 ^ (n - 1 - t) else 0
def lecN (n : Nat) : List Nat := (List.range (2 ^ n)).map (layTo n n)
theorem lecN_len (n : Nat) : (lecN n).length = 2 ^ n := by simp [lecN]
theorem lecN_get {n i : Nat} (hi : i < 2 ^ n) : (lecN n).getD i 0 = layTo n n i := by
  rw [lecN, List.getD_eq_getElem?_getD, List.getElem?_map, List.getElem?_range hi]; rfl
theorem layTo_lt {n : Nat} : ∀ {t i : Nat}, t ≤ n → layTo n t i < 2 ^ n
  | 0, i, _ => by show 0 < 2 ^ n; exact Nat.pow_pos (by omega)
  | t + 1, i, ht => by
    have hp := Nat.pow_pos (n := n) (show 0 < 2 by omega)
    unfold layTo
    split
    · exact layTo_lt (by omega)
    · split
      · exact Nat.or_lt_two_pow (layTo_lt (by omega)) (Nat.pow_lt_pow_right (by omega) (by omega))
      · exact hp
theorem lay_mir : ∀ n : Nat, n < 7 → ∀ i : Nat, i < 64 → i < 2 ^ n → layTo n n i = mir (i * 2 ^ (8 - n)) ∧ i * 2 ^ (8 - n) < 256 := by decide +kernel
theorem mir_lay : ∀ n : Nat, n < 7 → ∀ x : Nat, x < 64 → x < 2 ^ n → mir x / 2 ^ (8 - n) < 2 ^ n ∧ mir (mir x / 2 ^ (8 - n) * 2 ^ (8 - n)) = x := by decide +kernel
theorem pow6 {n : Nat} (hn : n ≤ 6) : 2 ^ n ≤ 64 := Nat.pow_le_pow_right (n := 2) (by omega) hn
theorem lay_at {n i : Nat} (hn : n ≤ 6) (hi : i < 2 ^ n) : layTo n n i = mir (i * 2 ^ (8 - n)) ∧ i * 2 ^ (8 - n) < 256 :=
  lay_mir n (by omega) i (Nat.lt_of_lt_of_le hi (pow6 hn)) hi
theorem lecN_up {n : Nat} (hn : n ≤ 6) : Up (lecN n) := by
  unfold Up lecN
  rw [List.pairwise_map]
  refine List.Pairwise.imp_of_mem (fun {a b} ha hb h => ?_) (List.pairwise_lt_range (n := 2 ^ n))
  have h1 := lay_at hn (List.mem_range.1 ha)
  have h2 := lay_at hn (List.mem_range.1 hb)
  rw [h1.1, h2.1, mir_mir _ h1.2, mir_mir _ h2.2]
  exact Nat.mul_lt_mul_of_pos_right h (Nat.pow_pos (by omega))
theorem lecN_mem {n x : Nat} (hn : n ≤ 6) : x ∈ lecN n ↔ x < 2 ^ n := by
  unfold lecN
  rw [List.mem_map]
  constructor
  · rintro ⟨i, -, rfl⟩; exact layTo_lt (Nat.le_refl _)
  · intro hx
    obtain ⟨h1, h2⟩ := mir_lay n (by omega) x (Nat.lt_of_lt_of_le hx (pow6 hn)) hx
    exact ⟨_, List.mem_range.2 h1, by rw [(lay_at hn h1).1, h2]⟩
/-- A proper subset stands ahead. -/
theorem le_mir {x y : Nat} (hx : x < 256) (hy : y < 256) (h : Le x y) (hn : x ≠ y) : mir x < mir y := by
  rcases Nat.lt_trichotomy (mir x) (mir y) with h1 | h1 | h1
  · exact h1
  · exact absurd (mir_inj hx hy h1) hn
  · obtain ⟨m, -, h2, h3⟩ := mir_lexAt hy hx h1
    rw [h m h3] at h2; cases h2
/-- The rules found among the first k sets of a list. -/
def stemTo (cl : Nat → Nat) (l : List Nat) : Nat → List PInt
  | 0 => []
  | k + 1 => if cl (l.getD k 0) ≠ l.getD k 0 ∧ allR (stemTo cl l k) (l.getD k 0) = true then stemTo cl l k ++ [ruleOf cl (l.getD k 0)] else stemTo cl l k
theorem stemTo_succ (cl : Nat → Nat) (l : List Nat) (k : Nat) : stemTo cl l (k + 1) = if cl (l.getD k 0) ≠ l.getD k 0 ∧ allR (stemTo cl l k) (l.getD k 0) = true then stemTo cl l k ++ [ruleOf cl (l.getD k 0)] else stemTo cl l k := rfl
theorem stemTo_len (cl : Nat → Nat) (l : List Nat) : ∀ k, (stemTo cl l k).length ≤ k
  | 0 => Nat.le_refl _
  | k + 1 => by
    have := stemTo_len cl l k
    rw [stemTo_succ]
    split
    · rw [List.length_append]; simp; omega
    · omega
def isPs (cl : Nat → Nat) (n : Nat) (x : Nat) : Bool := decide (x ∈ psTo cl (2 ^ n))
theorem stemTo_eq {cl : Nat → Nat} {n : Nat} (hn : n ≤ 6) : ∀ k, k ≤ 2 ^ n → stemTo cl (lecN n) k = (((lecN n).take k).filter (isPs cl n)).map (ruleOf cl)
  | 0, _ => by simp [stemTo]
  | k + 1, hk => by
    have ih := stemTo_eq (cl := cl) hn k (by omega)
    have hkl : k < (lecN n).length := by rw [lecN_len]; omega
    have h64 := pow6 hn
    have hs : (lecN n).getD k 0 = (lecN n)[k] := by rw [List.getD_eq_getElem?_getD, List.getElem?_eq_getElem hkl]; rfl
    have htk : (lecN n).take (k + 1) = (lecN n).take k ++ [(lecN n).getD k 0] := by rw [List.take_add_one, List.getElem?_eq_getElem hkl, hs]; rfl
    have hmem : (lecN n).getD k 0 < 2 ^ n := (lecN_mem hn).1 (by rw [hs]; exact List.getElem_mem hkl)
    have hup := lecN_up hn
    have hbef : ∀ p, p < 2 ^ n → mir p < mir ((lecN n).getD k 0) → p ∈ (lecN n).take k := fun p hp hlt => by
      obtain ⟨j, hj, rfl⟩ := List.getElem_of_mem ((lecN_mem hn).2 hp)
      rw [hs] at hlt
      rcases Nat.lt_trichotomy j k with h1 | h1 | h1
      · exact List.mem_take_iff_getElem.2 ⟨j, by rw [lecN_len]; omega, rfl⟩
      · subst h1; omega
      · have := List.pairwise_iff_getElem.1 hup k j hkl hj h1; omega
    have hnot : (lecN n).getD k 0 ∉ (lecN n).take k := fun hm => by
      obtain ⟨j, hj, he⟩ := List.mem_take_iff_getElem.1 hm
      have hjl : j < (lecN n).length := by omega
      have := List.pairwise_iff_getElem.1 hup j k hjl hkl (by omega)
      rw [he, hs] at this; omega
    have key : (cl ((lecN n).getD k 0) ≠ (lecN n).getD k 0 ∧ allR (stemTo cl (lecN n) k) ((lecN n).getD k 0) = true) ↔ (lecN n).getD k 0 ∈ psTo cl (2 ^ n) := by
      rw [ps_iff hmem, ih, allR_map]
      refine and_congr Iff.rfl ⟨fun h p hp hne hle => ?_, fun h p hp hle => ?_⟩
      · have hlt := ps_lt hp
        refine h p (List.mem_filter.2 ⟨hbef p hlt (le_mir (by omega) (by omega) hle hne), by unfold isPs; exact decide_eq_true hp⟩) hle
      · have h1 := List.mem_filter.1 hp
        refine h p (by have := h1.2; unfold isPs at this; exact of_decide_eq_true this) (fun e => hnot (e ▸ h1.1)) hle
    rw [stemTo_succ, htk, List.filter_append, List.map_append]
    by_cases h : (lecN n).getD k 0 ∈ psTo cl (2 ^ n)
    · rw [if_pos (key.2 h), ih]
      have : isPs cl n ((lecN n).getD k 0) = true := by unfold isPs; exact decide_eq_true h
      rw [List.filter_cons_of_pos this]; rfl
    · rw [if_neg (fun h1 => h (key.1 h1)), ih]
      have : ¬ isPs cl n ((lecN n).getD k 0) = true := by unfold isPs; rw [decide_eq_false h]; decide
      rw [List.filter_cons_of_neg this]; simp
theorem mirror_mir : ∀ m : Nat, m < 256 → mirror m = mir m := by decide +kernel
theorem pseudo_lec {a : Int} {rs : List Int} (hc : isCtx a rs = true) : pseudoN a rs = (lecN a.toNat).filter (isPs (clo a rs) a.toNat) := by
  have h6 := isCtx_parts hc
  have hb := pseudo_base hc
  have hn : a.toNat ≤ 6 := by omega
  refine up_unique _ _ ?_ (List.Pairwise.sublist List.filter_sublist (lecN_up hn)) fun x => ?_
  · have h1 := pseudo_asc hc
    unfold Up pseudoN
    rw [List.pairwise_map]
    refine List.Pairwise.imp_of_mem (fun {x y} hx hy h => ?_) h1
    obtain ⟨u, hu, rfl⟩ := (pseudo_mem hc).1 hx
    obtain ⟨v, hv, rfl⟩ := (pseudo_mem hc).1 hy
    have := psN_256 hc hu
    have := psN_256 hc hv
    unfold key at h
    rw [Int.toNat_natCast, Int.toNat_natCast] at h ⊢
    rw [mirror_mir u (by omega), mirror_mir v (by omega)] at h
    exact h
  · rw [hb.mem, List.mem_filter, lecN_mem hn]
    unfold isPs
    rw [decide_eq_true_eq]
    exact ⟨fun h => ⟨ps_lt h, h⟩, fun h => h.2⟩
/-- Gone through to the end they are the stem base. -/
theorem stemTo_all {a : Int} {rs : List Int} (hc : isCtx a rs = true) : stemTo (clo a rs) (lecN a.toNat) (2 ^ a.toNat) = stemOf a rs := by
  have h6 := isCtx_parts hc
  rw [stemTo_eq (by omega) _ (Nat.le_refl _), List.take_of_length_le (by rw [lecN_len]; exact Nat.le_refl _), ← pseudo_lec hc]; rfl
/-- The first numbers of the rules are the pseudo-closed sets. -/
theorem stemOf_fst {a : Int} {rs : List Int} (hc : isCtx a rs = true) : (stemOf a rs).map Prod.fst = pseudo a rs := by
  rw [← pseudo_nat hc]
  unfold stemOf
  rw [List.map_map]
  rfl
theorem stemBase_fst (a : Int) (rs : List Int) : (stemBase a rs).map Prod.fst = pseudoIntents a rs := by
  unfold stemBase pseudoIntents
  split
  · rename_i h; exact stemOf_fst h
  · rfl
/-- What is closed and what is not are all sets. -/
theorem open_closed (cl : Nat → Nat) : ∀ k, openN cl k + ((List.range k).filter fun x => cl x == x).length = k
  | 0 => rfl
  | k + 1 => by
    have ih := open_closed cl k
    rw [List.range_succ, List.filter_append, List.length_append]
    unfold openN
    by_cases h : cl k = k
    · rw [if_pos h, List.filter_cons_of_pos (by simpa using h)]; simp; omega
    · rw [if_neg h, List.filter_cons_of_neg (by simpa using h)]; simp; omega
theorem closed_len {n : Nat} {cl : Nat → Nat} (C : Clo n cl) : (closedFrom n cl (cl 0)).length = ((List.range (2 ^ n)).filter fun x => cl x == x).length := by
  refine List.Perm.length_eq ((List.perm_ext_iff_of_nodup ?_ ((List.nodup_range).filter _)).2 fun x => ?_)
  · exact (up_closedFrom n cl (cl 0)).imp fun h e => by rw [e] at h; omega
  · rw [mem_closedFrom C.n8, List.mem_filter, List.mem_range, beq_iff_eq]
    exact ⟨fun h => ⟨h.1, h.2.1⟩, fun h => ⟨h.1, h.2, closedFrom_first C h.1 h.2⟩⟩
theorem countRules_eq {a : Int} {rs : List Int} (hc : isCtx a rs = true) : countRules a rs = ((2 ^ a.toNat : Nat) : Int) - ((closedFrom a.toNat (clo a rs) (clo a rs 0)).length : Int) := by
  have h1 := open_closed (clo a rs) (2 ^ a.toNat)
  rw [← closed_len (clo_ok hc)] at h1
  rw [countRules, if_pos hc]
  omega
end Go.Proofs.Ythodmmckekgkdaa.Stem
