/-
  The stem base of a context (pure): the pseudo-closed sets in lectic order, their rules, bases.
-/
import Derived.Test.YthodmmckekgkdaaStemP
import Derived.Test.YthodmmckekgkdaaLectic
namespace Go.Proofs.Ythodmmckekgkdaa.Stem
open Go Go.RowKit Mem Sets Ctx Tab Rule Lectic
set_option maxRecDepth 100000

/-- Numbers as the program has them. -/
abbrev asInts (l : List Nat) : List Int := l.map fun x : Nat => (x : Int)
/-- The pseudo-closed sets of a context, ascending as numbers. -/
def psN (a : Int) (rs : List Int) : List Nat := psTo (clo a rs) (2 ^ a.toNat)
/-- .. and in lectic order. -/
def pseudo (a : Int) (rs : List Int) : List Int := sortLectic (asInts (psN a rs))
def pseudoN (a : Int) (rs : List Int) : List Nat := (pseudo a rs).map Int.toNat
theorem psN_256 {a : Int} {rs : List Int} (hc : isCtx a rs = true) {x : Nat} (h : x ∈ psN a rs) : x < 256 := Nat.lt_of_lt_of_le (ps_lt h) (pow_le8 (by have := isCtx_parts hc; omega))
theorem asInts_sets {l : List Nat} (h : ∀ x ∈ l, x < 256) : (asInts l).all (isSet 8) = true := by
  rw [List.all_eq_true]
  intro x hx
  obtain ⟨y, hy, rfl⟩ := List.mem_map.1 hx
  have := h y hy
  exact isSet8_true (by omega)
theorem pseudo_eq {a : Int} {rs : List Int} (hc : isCtx a rs = true) : pseudo a rs = sortTo (asInts (psN a rs)) (asInts (psN a rs)).length := by
  rw [pseudo, sortLectic, if_pos (asInts_sets fun x hx => psN_256 hc hx)]
theorem pseudo_mem {a : Int} {rs : List Int} (hc : isCtx a rs = true) {z : Int} : z ∈ pseudo a rs ↔ ∃ x : Nat, x ∈ psN a rs ∧ z = (x : Int) := by
  rw [pseudo_eq hc, sortTo_mem _ _ (Nat.le_refl _), List.take_length, List.mem_map]
  exact ⟨fun ⟨x, h1, h2⟩ => ⟨x, h1, h2.symm⟩, fun ⟨x, h1, h2⟩ => ⟨x, h1, h2.symm⟩⟩
theorem pseudo_asc {a : Int} {rs : List Int} (hc : isCtx a rs = true) : Asc key (pseudo a rs) := by
  rw [pseudo_eq hc]
  refine asc_sortTo _ (fun x hx => ?_) _ (Nat.le_refl _)
  obtain ⟨y, hy, rfl⟩ := List.mem_map.1 hx
  have := psN_256 hc hy
  omega
theorem pseudo_nat {a : Int} {rs : List Int} (hc : isCtx a rs = true) : asInts (pseudoN a rs) = pseudo a rs := by
  unfold pseudoN asInts
  rw [List.map_map]
  conv => rhs; rw [← List.map_id (pseudo a rs)]
  apply List.map_congr_left
  intro z hz
  obtain ⟨x, -, rfl⟩ := (pseudo_mem hc).1 hz
  simp
theorem pseudo_base {a : Int} {rs : List Int} (hc : isCtx a rs = true) : Base (clo a rs) a.toNat (pseudoN a rs) where
  mem := fun x => by
    unfold pseudoN
    rw [List.mem_map]
    constructor
    · rintro ⟨z, hz, rfl⟩
      obtain ⟨y, hy, rfl⟩ := (pseudo_mem hc).1 hz
      rw [Int.toNat_natCast]; exact hy
    · intro hx
      exact ⟨(x : Int), (pseudo_mem hc).2 ⟨x, hx, rfl⟩, by simp⟩
  nodup := by
    have h1 : (pseudo a rs).Nodup := (pseudo_asc hc).imp fun h he => by rw [he] at h; omega
    unfold pseudoN
    refine nodup_map h1 fun x hx y hy he => ?_
    obtain ⟨u, -, rfl⟩ := (pseudo_mem hc).1 hx
    obtain ⟨v, -, rfl⟩ := (pseudo_mem hc).1 hy
    rw [Int.toNat_natCast, Int.toNat_natCast] at he
    rw [he]
theorem pseudo_len {a : Int} {rs : List Int} (hc : isCtx a rs = true) : (pseudo a rs).length ≤ 32 := by
  have := base_len (clo_ok hc) (pseudo_base hc) (by have := isCtx_parts hc; omega)
  simpa [pseudoN] using this
theorem psN_len {a : Int} {rs : List Int} (hc : isCtx a rs = true) : (psN a rs).length ≤ 32 :=
  base_len (clo_ok hc) ⟨fun _ => Iff.rfl, psTo_nodup _ _⟩ (by have := isCtx_parts hc; omega)
theorem psTo_len (cl : Nat → Nat) (k : Nat) : (psTo cl k).length ≤ k := holes k _ (psTo_nodup cl k) fun _ h => ps_lt h
/-- The rules of a context's pseudo-closed sets. -/
def stemOf (a : Int) (rs : List Int) : List PInt := (pseudoN a rs).map (ruleOf (clo a rs))
def pseudoIntents (a : Int) (rs : List Int) : List Int := if isCtx a rs = true then pseudo a rs else []
def stemBase (a : Int) (rs : List Int) : List PInt := if isCtx a rs = true then stemOf a rs else []
theorem stemOf_len (a : Int) (rs : List Int) : (stemOf a rs).length = (pseudo a rs).length := by simp [stemOf, pseudoN]
theorem stemBase_len (a : Int) (rs : List Int) : (stemBase a rs).length ≤ 32 := by
  unfold stemBase
  split
  · rename_i h; rw [stemOf_len]; exact pseudo_len h
  · simp
theorem pseudoIntents_len (a : Int) (rs : List Int) : (pseudoIntents a rs).length ≤ 32 := by
  unfold pseudoIntents
  split
  · rename_i h; exact pseudo_len h
  · simp
/-- Does a rule follow from others? (sets below 256) -/
def follow1 (l : List PInt) (r : PInt) : Bool := decide (r.2.toNat &&& Rule.cl l r.1.toNat = r.2.toNat)
def allFollow (l fr : List PInt) : Bool := l.all (follow1 fr)
def isBase (a : Int) (rs : List Int) (l : List PInt) : Bool := isCtx a rs && areR a l && l.all (holds a rs) && allFollow (stemOf a rs) l
def isShortest (a : Int) (rs : List Int) (l : List PInt) : Bool := isBase a rs l && decide (l.length = (pseudo a rs).length)
/-- How many sets below k are not closed. -/
def openN (cl : Nat → Nat) : Nat → Nat
  | 0 => 0
  | k + 1 => if cl k = k then openN cl k else openN cl k + 1
theorem openN_le (cl : Nat → Nat) : ∀ k, openN cl k ≤ k
  | 0 => Nat.le_refl _
  | k + 1 => by
    have := openN_le cl k
    unfold openN
    split <;> omega
def countRules (a : Int) (rs : List Int) : Int := if isCtx a rs = true then ((openN (clo a rs) (2 ^ a.toNat) : Nat) : Int) else -1
/-- The stem base is a list of rules of the context's attributes. -/
theorem ruleOf_isR {a : Int} {rs : List Int} (hc : isCtx a rs = true) {p : Nat} (hp : p ∈ pseudoN a rs) : isR a (ruleOf (clo a rs) p) = true := by
  have h6 := isCtx_parts hc
  have h1 : isSet a ((p : Nat) : Int) = true := isSet_of_nat h6.1 (by omega) ((pseudo_base hc).lt hp)
  have h2 : isSet a ((clo a rs p : Nat) : Int) = true := isSet_of_nat h6.1 (by omega) ((clo_ok hc).lt p)
  show (isSet a (p : Int) && isSet a ((clo a rs p : Nat) : Int)) = true
  rw [h1, h2]; rfl
theorem stemOf_areR {a : Int} {rs : List Int} (hc : isCtx a rs = true) : areR a (stemOf a rs) = true := by
  have h6 := isCtx_parts hc
  have h1 : allIn a (stemOf a rs) = true := List.all_eq_true.2 fun r hr => by
    obtain ⟨p, hp, rfl⟩ := List.mem_map.1 hr
    exact ruleOf_isR hc hp
  have h2 := pseudo_len hc
  rw [areR, h1, decide_eq_true (show 0 ≤ a ∧ a ≤ 6 from ⟨h6.1, h6.2.1⟩), stemOf_len, decide_eq_true (by omega)]; rfl
theorem stemOf_cl {a : Int} {rs : List Int} (hc : isCtx a rs = true) {s : Nat} (hs : s < 2 ^ a.toNat) : Rule.cl (stemOf a rs) s = clo a rs s := base_closed (clo_ok hc) (pseudo_base hc) hs
theorem holds_clo {a : Int} {rs : List Int} (hc : isCtx a rs = true) {r : PInt} (hr : isR a r = true) : holds a rs r = true ↔ Le r.2.toNat (clo a rs r.1.toNat) := by
  have h1 := hr
  unfold isR at h1
  rw [Bool.and_eq_true] at h1
  obtain ⟨m, hm, -, -, -⟩ := isSet_to_nat h1.1
  rw [holds, hc, hr, Bool.true_and, Bool.true_and, decide_eq_true_eq, and_le', hm, Int.toNat_natCast]
  exact Iff.rfl
theorem stemOf_base {a : Int} {rs : List Int} (hc : isCtx a rs = true) : isBase a rs (stemOf a rs) = true := by
  have h1 : (stemOf a rs).all (holds a rs) = true := List.all_eq_true.2 fun r hr => by
    obtain ⟨p, hp, rfl⟩ := List.mem_map.1 hr
    rw [holds_clo hc (ruleOf_isR hc hp)]
    show Le ((clo a rs p : Nat) : Int).toNat (clo a rs ((p : Nat) : Int).toNat)
    rw [Int.toNat_natCast, Int.toNat_natCast]
    exact Le.refl _
  have h2 : allFollow (stemOf a rs) (stemOf a rs) = true := List.all_eq_true.2 fun r hr => by
    obtain ⟨p, hp, rfl⟩ := List.mem_map.1 hr
    show decide (((clo a rs p : Nat) : Int).toNat &&& Rule.cl (stemOf a rs) ((p : Nat) : Int).toNat = ((clo a rs p : Nat) : Int).toNat) = true
    rw [Int.toNat_natCast, Int.toNat_natCast, stemOf_cl hc ((pseudo_base hc).lt hp), Nat.and_self, decide_eq_true rfl]
  rw [isBase, hc, stemOf_areR hc, h1, h2]; rfl
/-- No base is shorter than the stem base. -/
theorem stem_short {a : Int} {rs : List Int} {l : List PInt} (h : isBase a rs l = true) : (stemOf a rs).length ≤ l.length := by
  unfold isBase at h
  rw [Bool.and_eq_true, Bool.and_eq_true, Bool.and_eq_true] at h
  obtain ⟨⟨⟨hc, har⟩, hho⟩, haf⟩ := h
  have hin : allIn a l = true := by
    unfold areR at har
    rw [Bool.and_eq_true, Bool.and_eq_true] at har
    exact har.1.1
  have h6 := isCtx_parts hc
  have h8 : ∀ k, k < l.length → (rl l k).2.toNat < 2 ^ 8 := fun k hk => by
    obtain ⟨m, hm, hlt, -, -⟩ := isSet_to_nat (allIn_rl hin hk).2
    rw [hm, Int.toNat_natCast]
    exact Nat.lt_of_lt_of_le hlt (pow_le8 (by omega))
  have := base_short (l := l) (clo_ok hc) (pseudo_base hc) (fun k hk => ?_) (fun p hp => ?_)
  · simpa [stemOf] using this
  · have hr := List.all_eq_true.1 hin _ (rl_mem hk)
    exact (holds_clo hc hr).1 (List.all_eq_true.1 hho _ (rl_mem hk))
  · have hps := (ps_iff ((pseudo_base hc).lt hp)).1 (((pseudo_base hc).mem p).1 hp)
    have hf := List.all_eq_true.1 haf _ (List.mem_map_of_mem hp)
    change decide (((clo a rs p : Nat) : Int).toNat &&& Rule.cl l ((p : Nat) : Int).toNat = ((clo a rs p : Nat) : Int).toNat) = true at hf
    rw [Int.toNat_natCast, Int.toNat_natCast, decide_eq_true_eq, and_le'] at hf
    cases hb : allR l p with
    | false => rfl
    | true =>
      exfalso
      have hlt : p < 2 ^ 8 := Nat.lt_of_lt_of_le ((pseudo_base hc).lt hp) (Nat.pow_le_pow_right (by omega) (by omega))
      have he : Rule.cl l p = p := (cl_spec h8 hlt).eq ⟨Le.refl p, hb, fun u _ h => h⟩
      rw [he] at hf
      exact hps.1 (hf.antisymm ((clo_ok hc).ext p ((pseudo_base hc).lt hp)))
/-- What is left of the stem base without one rule does not give that rule. -/
theorem stem_needs {a : Int} {rs : List Int} (hc : isCtx a rs = true) {k : Nat} (hk : k < (stemOf a rs).length) : follow1 ((stemOf a rs).take k ++ (stemOf a rs).drop (k + 1)) (rl (stemOf a rs) k) = false := by
  have hk' : k < (pseudoN a rs).length := by simpa [stemOf] using hk
  have he : pseudoN a rs = (pseudoN a rs).take k ++ (pseudoN a rs)[k] :: (pseudoN a rs).drop (k + 1) := by
    rw [List.getElem_cons_drop, List.take_append_drop]
  have h1 := base_needs (pseudo_base hc) he
  have h2 : (stemOf a rs).take k ++ (stemOf a rs).drop (k + 1) = ((pseudoN a rs).take k ++ (pseudoN a rs).drop (k + 1)).map (ruleOf (clo a rs)) := by
    rw [stemOf, ← List.map_take, ← List.map_drop, List.map_append]
  have h3 : rl (stemOf a rs) k = ruleOf (clo a rs) (pseudoN a rs)[k] := by
    rw [rl, List.getD_eq_getElem?_getD, List.getElem?_eq_getElem hk, Option.getD_some]
    simp [stemOf]
  have hp : (pseudoN a rs)[k] ∈ pseudoN a rs := List.getElem_mem hk'
  rw [h2, h3]
  generalize (pseudoN a rs)[k] = p at h1 hp
  have hlt := (pseudo_base hc).lt hp
  have h6 := isCtx_parts hc
  have h28 : 2 ^ a.toNat ≤ 2 ^ 8 := Nat.pow_le_pow_right (by omega) (by omega)
  have hcl : Rule.cl (((pseudoN a rs).take k ++ (pseudoN a rs).drop (k + 1)).map (ruleOf (clo a rs))) p = p :=
    (cl_spec (fun j hj => by
      obtain ⟨q, -, e⟩ := rl_map hj
      rw [e]
      exact Nat.lt_of_lt_of_le ((clo_ok hc).lt q) h28) (Nat.lt_of_lt_of_le hlt h28)).eq ⟨Le.refl p, h1.1, fun u _ h => h⟩
  show decide (((clo a rs p : Nat) : Int).toNat &&& Rule.cl _ ((p : Nat) : Int).toNat = ((clo a rs p : Nat) : Int).toNat) = false
  rw [Int.toNat_natCast, Int.toNat_natCast, hcl, decide_eq_false_iff_not, and_le']
  intro hle
  exact h1.2 (hle.antisymm ((clo_ok hc).ext p hlt))
theorem stem_get {a : Int} {rs : List Int} (hc : isCtx a rs = true) {k : Nat} (hk : k < (pseudo a rs).length) : ∃ x : Nat, x < 256 ∧ x ∈ pseudoN a rs ∧ (pseudo a rs).getD k 0 = (x : Int) ∧ rl (stemOf a rs) k = ((x : Int), ((clo a rs x : Nat) : Int)) ∧ (stemOf a rs).take (k + 1) = (stemOf a rs).take k ++ [((x : Int), ((clo a rs x : Nat) : Int))] := by
  have hkN : k < (pseudoN a rs).length := by simpa [pseudoN] using hk
  have hkS : k < (stemOf a rs).length := by rw [stemOf_len]; exact hk
  have hm : (pseudoN a rs)[k] ∈ pseudoN a rs := List.getElem_mem hkN
  have h1 : (pseudo a rs).getD k 0 = (((pseudoN a rs)[k] : Nat) : Int) := by
    rw [List.getD_eq_getElem?_getD, ← pseudo_nat hc, List.getElem?_map, List.getElem?_eq_getElem hkN]; rfl
  have h2 : (stemOf a rs)[k] = ruleOf (clo a rs) (pseudoN a rs)[k] := by simp [stemOf]
  refine ⟨(pseudoN a rs)[k], psN_256 hc (((pseudo_base hc).mem _).1 hm), hm, h1, ?_, ?_⟩
  · rw [rl, List.getD_eq_getElem?_getD, List.getElem?_eq_getElem hkS, Option.getD_some, h2]; rfl
  · rw [List.take_add_one, List.getElem?_eq_getElem hkS, h2]; rfl
end Go.Proofs.Ythodmmckekgkdaa.Stem
