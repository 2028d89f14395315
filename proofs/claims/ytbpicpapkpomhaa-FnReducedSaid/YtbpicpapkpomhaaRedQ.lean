/-
  What reducing keeps and leaves (pure): as many concepts, and nothing reducible.
-/
import Derived.Test.YtbpicpapkpomhaaRedP
import Derived.Test.YtbpicpapkpomhaaBits
import Derived.Test.YtbpicpapkpomhaaConcQ
namespace Go.Proofs.Ytbpicpapkpomhaa.Tab
open Go Go.RowKit Mem Sets Ctx
set_option maxRecDepth 100000

/-- Where each number of a list is in another one or the common part of greater ones, the other one says as much. -/
theorem gen {f : Nat} {L L' : List Int} (h : ∀ x ∈ L, x ∈ L' ∨ Cp f L x) (hb : ∀ x ∈ L, 0 ≤ x ∧ x ≤ 255) : ∀ (n : Nat) (x : Int), x ∈ L → 256 - x.toNat ≤ n → ∀ j, f.testBit j = true → (∀ y ∈ L', Le x.toNat y.toNat → y.toNat.testBit j = true) → x.toNat.testBit j = true
  | 0, x, hx, hn => by have := hb x hx; omega
  | n + 1, x, hx, hn => by
    intro j hj hy
    rcases h x hx with h1 | h1
    · exact hy x h1 (Le.refl _)
    · refine h1 j hj fun y hyL hne hl => gen h hb n y hyL ?_ j hj fun z hz hlz => hy z hz (hl.trans hlz)
      have := le_num hl
      have h1 := hb x hx
      have h2 := hb y hyL
      omega
theorem gen_iff {f : Nat} {L L' : List Int} (h : ∀ x ∈ L, x ∈ L' ∨ Cp f L x) (hb : ∀ x ∈ L, 0 ≤ x ∧ x ≤ 255) (hs : ∀ x ∈ L', x ∈ L) (s j : Nat) :
    (f.testBit j = true ∧ ∀ x ∈ L, Le s x.toNat → x.toNat.testBit j = true) ↔ (f.testBit j = true ∧ ∀ x ∈ L', Le s x.toNat → x.toNat.testBit j = true) :=
  and_congr_right fun hj => ⟨fun h1 x hx => h1 x (hs x hx), fun h1 x hx hl => gen h hb 256 x hx (by omega) j hj fun y hy hl' => h1 y hy (hl.trans hl')⟩

theorem clo_bit (a : Int) (rs : List Int) (s j : Nat) : (clo a rs s).testBit j = true ↔ (fullA a).testBit j = true ∧ ∀ x ∈ rs, Le s x.toNat → x.toNat.testBit j = true := by
  rw [full_bit]
  refine (memI a rs _ j).trans (and_congr Iff.rfl ⟨fun h x hx hl => ?_, fun h g hg hm => ?_⟩)
  · obtain ⟨g, hg, rfl⟩ := mem_getD hx
    exact h g hg ((memE' rs s g).2 ⟨hg, fun j hj => hl j hj⟩)
  · exact h _ (getD_mem hg) (fun j hj => ((memE' rs s g).1 hm).2 j hj)
/-- The closure of a set of objects. -/
def ocl (a : Int) (rs : List Int) (y : Nat) : Nat := E rs (intTo a rs (y : Int) rs.length)
theorem ocl_bit {a : Int} {rs : List Int} {y : Nat} (g : Nat) (hy : y < 2 ^ rs.length) : (ocl a rs y).testBit g = true ↔ (fullO rs).testBit g = true ∧ ∀ c ∈ cols a rs, Le y c.toNat → c.toNat.testBit g = true := by
  rw [full_bit]
  refine (memE' rs _ g).trans (and_congr_right fun hg => ⟨fun h c hc hl => ?_, fun h m hm => ?_⟩)
  · obtain ⟨m, hm, rfl⟩ := col_mem.1 hc
    rw [Int.toNat_natCast] at hl ⊢
    exact (colbit rs m g).2 ⟨hg, h m ((memI a rs y m).2 ⟨hm, fun k _ hk => ((colbit rs m k).1 (hl k hk)).2⟩)⟩
  · have hm' := (memI a rs y m).1 hm
    have := h _ (col_mem.2 ⟨m, hm'.1, rfl⟩) (fun k hk => by rw [Int.toNat_natCast]; exact (colbit rs m k).2 ⟨bit_lt hy hk, hm'.2 k (bit_lt hy hk) hk⟩)
    rw [Int.toNat_natCast] at this
    exact ((colbit rs m g).1 this).2
def clA (a : Int) (rs : List Int) : List Nat := (List.range (2 ^ a.toNat)).filter fun x => clo a rs x == x
def clO (a : Int) (rs : List Int) : List Nat := (List.range (2 ^ rs.length)).filter fun y => ocl a rs y == y
theorem mem_clA {a : Int} {rs : List Int} {x : Nat} : x ∈ clA a rs ↔ x < 2 ^ a.toNat ∧ clo a rs x = x := by simp [clA]
theorem mem_clO {a : Int} {rs : List Int} {x : Nat} : x ∈ clO a rs ↔ x < 2 ^ rs.length ∧ ocl a rs x = x := by simp [clO]
/-- There are as many closed sets of objects as of attributes. -/
theorem clA_clO (a : Int) (rs : List Int) : (clA a rs).length = (clO a rs).length := by
  have hp : ((clA a rs).map (E rs)).Perm (clO a rs) := by
    refine (List.perm_ext_iff_of_nodup ?_ ?_).2 fun y => ?_
    · unfold List.Nodup
      rw [List.pairwise_map]
      refine List.Pairwise.imp_of_mem (fun {x y} hx hy hne he => hne ?_) (List.Pairwise.filter _ List.nodup_range)
      rw [← (mem_clA.1 hx).2, ← (mem_clA.1 hy).2]
      show intTo a rs ((E rs x : Nat) : Int) rs.length = intTo a rs ((E rs y : Nat) : Int) rs.length
      rw [he]
    · exact List.Pairwise.filter _ List.nodup_range
    · rw [List.mem_map, mem_clO]
      constructor
      · rintro ⟨x, hx, rfl⟩
        refine ⟨extTo_lt _ _ _, ?_⟩
        show E rs (clo a rs x) = E rs x
        rw [(mem_clA.1 hx).2]
      · rintro ⟨h1, h2⟩
        refine ⟨intTo a rs (y : Int) rs.length, mem_clA.2 ⟨intTo_lt _ _ _ _, ?_⟩, h2⟩
        show intTo a rs ((ocl a rs y : Nat) : Int) rs.length = _
        rw [h2]
  have := hp.length_eq
  rwa [List.length_map] at this
theorem con_clA {a : Int} {rs : List Int} (hc : isCtx a rs = true) : (concepts a rs).length = (clA a rs).length := by
  rw [← clN_all hc, clN, clA]
  refine congrArg List.length (List.filter_congr fun x hx => ?_)
  exact closed_nat hc (List.mem_range.1 hx)
/-- Leaving objects out that say nothing new. -/
theorem objs_count {a : Int} {rs l : List Int} (hc : isCtx a rs = true) (hc' : isCtx a l = true) (hs : ∀ x ∈ l, x ∈ rs) (h : ∀ x ∈ rs, x ∈ l ∨ Cp (fullA a) rs x) : (concepts a l).length = (concepts a rs).length := by
  rw [con_clA hc, con_clA hc', clA, clA]
  refine congrArg List.length (List.filter_congr fun x _ => ?_)
  have e : clo a l x = clo a rs x := nat_bits fun j => by
    rw [clo_bit, clo_bit]
    exact (gen_iff h (fun x hx => isSet_le (isCtx_mem hc hx)) hs x j).symm
  rw [e]
/-- Leaving attributes out that say nothing new. -/
theorem atts_count {a b : Int} {rs l : List Int} (hc : isCtx a rs = true) (hc' : isCtx b l = true) (hl : l.length = rs.length) (hs : ∀ x ∈ cols b l, x ∈ cols a rs) (h : ∀ x ∈ cols a rs, x ∈ cols b l ∨ Cp (fullO rs) (cols a rs) x) : (concepts b l).length = (concepts a rs).length := by
  have hb : ∀ x ∈ cols a rs, 0 ≤ x ∧ x ≤ 255 := fun x hx => by
    obtain ⟨m, -, rfl⟩ := col_mem.1 hx
    have := Nat.lt_of_lt_of_le (colTo_lt rs m rs.length) (pow_le8 (isCtx_parts hc).2.2.1)
    omega
  rw [con_clA hc, con_clA hc', clA_clO, clA_clO, clO, clO, hl]
  refine congrArg List.length (List.filter_congr fun y hy => ?_)
  have hy := List.mem_range.1 hy
  have e : ocl b l y = ocl a rs y := nat_bits fun j => by
    rw [ocl_bit j hy, ocl_bit j (by rw [hl]; exact hy), gen_iff h hb hs y j, fullO, hl]
  rw [e]

/-- The new number of an attribute that is kept. -/
abbrev rank (keep : Int) (i : Nat) : Nat := (packTo 0 keep i).2
theorem rank_yes {keep : Int} {i : Nat} (h : bit keep i = true) : rank keep (i + 1) = rank keep i + 1 := by rw [rank, packTo, if_pos h]
theorem rank_no {keep : Int} {i : Nat} (h : bit keep i = false) : rank keep (i + 1) = rank keep i := by rw [rank, packTo_no h]
theorem rank_le (keep : Int) (i d : Nat) : rank keep i ≤ rank keep (i + d) := by
  induction d with
  | zero => exact Nat.le_refl _
  | succ d ih =>
    refine Nat.le_trans ih ?_
    cases h : bit keep ((i + d : Nat) : Int) with
    | true => show _ ≤ rank keep (i + d + 1); rw [rank_yes h]; omega
    | false => show _ ≤ rank keep (i + d + 1); rw [rank_no h]; exact Nat.le_refl _
theorem rank_lt {keep : Int} {i k : Nat} (h : bit keep i = true) (hk : i < k) : rank keep i < rank keep k := by
  have := rank_le keep (i + 1) (k - (i + 1))
  rw [rank_yes h, show i + 1 + (k - (i + 1)) = k by omega] at this
  omega
theorem rank_inj {keep : Int} {i k : Nat} (h : bit keep i = true) (h' : bit keep k = true) (e : rank keep i = rank keep k) : i = k := by
  rcases Nat.lt_trichotomy i k with hl | rfl | hl
  · have := rank_lt h hl; omega
  · rfl
  · have := rank_lt h' hl; omega
theorem rank_sur {keep : Int} {j : Nat} : ∀ {e : Nat}, j < rank keep e → ∃ i, i < e ∧ bit keep i = true ∧ rank keep i = j
  | 0, h => by simp [rank, packTo] at h
  | e + 1, h => by
    cases hb : bit keep (e : Int) with
    | true =>
      rw [rank_yes hb] at h
      rcases Nat.lt_or_eq_of_le (Nat.le_of_lt_succ h) with h' | rfl
      · obtain ⟨i, h1, h2⟩ := rank_sur h'
        exact ⟨i, by omega, h2⟩
      · exact ⟨e, by omega, hb, rfl⟩
    | false =>
      rw [rank_no hb] at h
      obtain ⟨i, h1, h2⟩ := rank_sur h
      exact ⟨i, by omega, h2⟩
theorem packTo_bit (s keep : Int) (e j : Nat) : (packTo s keep e).1.testBit j = true ↔ ∃ i, i < e ∧ bit keep i = true ∧ rank keep i = j ∧ bit s i = true := by
  induction e with
  | zero => simp [packTo]
  | succ e ih =>
    have step : ∀ P : Nat → Prop, (∃ i, i < e + 1 ∧ P i) ↔ (∃ i, i < e ∧ P i) ∨ P e := fun P => by
      constructor
      · rintro ⟨i, h1, h2⟩
        rcases Nat.lt_or_eq_of_le (Nat.le_of_lt_succ h1) with h' | rfl
        · exact .inl ⟨i, h', h2⟩
        · exact .inr h2
      · rintro (⟨i, h1, h2⟩ | h)
        · exact ⟨i, by omega, h2⟩
        · exact ⟨e, by omega, h⟩
    rw [step]
    cases hb : bit keep (e : Int) with
    | false => rw [packTo_no hb, ih]; simp
    | true =>
      cases hs : bit s (e : Int) with
      | false => rw [packTo_skip hb hs]; show (packTo s keep e).1.testBit j = true ↔ _; rw [ih]; simp
      | true =>
        rw [packTo_yes hb hs]
        show ((packTo s keep e).1 ||| 2 ^ (packTo s keep e).2).testBit j = true ↔ _
        rw [Nat.testBit_or, Nat.testBit_two_pow, Bool.or_eq_true, ih, packTo_snd s 0 keep e]
        simp
theorem pack_at (s : Int) {keep : Int} {i : Nat} (hi : i < 8) (h : bit keep i = true) : (pack s keep).testBit (rank keep i) = bit s i := by
  rw [Bool.eq_iff_iff, pack, packTo_bit]
  exact ⟨fun ⟨k, _, h2, h3, h4⟩ => by rw [← rank_inj h2 h h3]; exact h4, fun h' => ⟨i, hi, h, rfl, h'⟩⟩
theorem packRows_get {rs : List Int} {keep : Int} {g : Nat} (hg : g < rs.length) : (packRows rs keep rs.length).getD g 0 = ((pack (rs.getD g 0) keep : Nat) : Int) := by
  simp [packRows, List.getD_eq_getElem?_getD, List.getElem?_eq_getElem hg]
theorem pack_col (rs : List Int) {keep : Int} {i : Nat} (hi : i < 8) (h : bit keep i = true) : colTo (packRows rs keep rs.length) ((rank keep i : Nat) : Int) (packRows rs keep rs.length).length = colTo rs i rs.length := nat_bits fun g => by
  rw [colbit, colbit, packRows_length _ _ _ (Nat.le_refl _)]
  refine and_congr_right fun hg => ?_
  rw [packRows_get hg]
  show (pack (rs.getD g 0) keep).testBit (rank keep i) = true ↔ _
  rw [pack_at _ hi h]
theorem keep_bit {a : Int} {rs : List Int} {s : Int} (hc : isCtx a rs = true) (hs : isSet a s = true) (i : Nat) : bit (keepOf a s) i = true ↔ i < a.toNat ∧ bit s i = false := by
  have hp := isCtx_parts hc
  obtain ⟨n, rfl, hn, -, -⟩ := isSet_to_nat hs
  have e : keepOf a n = ((2 ^ a.toNat - (n + 1) : Nat) : Int) := by rw [keepOf, full_nat hp.1 (by omega)]; omega
  rw [e]
  show (2 ^ a.toNat - (n + 1)).testBit i = true ↔ i < a.toNat ∧ n.testBit i = false
  rw [Nat.testBit_two_pow_sub_succ hn]; simp
/-- The columns of what is left. -/
theorem pack_cols {a : Int} {rs : List Int} {s : Int} (hc : isCtx a rs = true) (hs : isSet a s = true) {c : Int} : c ∈ cols (count (keepOf a s)) (packRows rs (keepOf a s) rs.length) ↔ ∃ i : Nat, i < a.toNat ∧ bit s i = false ∧ c = ((colTo rs i rs.length : Nat) : Int) := by
  have hp := isCtx_parts hc
  have hkb := keep_bit hc hs
  obtain ⟨k, hk, hlt⟩ := keepOf_nat hc hs
  rw [hk] at hkb ⊢
  have h8 : rank (k : Int) 8 = pop k := packTo_count k (by omega)
  rw [col_mem, count_nat (by omega), Int.toNat_natCast]
  constructor
  · rintro ⟨m, hm, rfl⟩
    rw [← h8] at hm
    obtain ⟨i, h1, h2, rfl⟩ := rank_sur hm
    refine ⟨i, ((hkb i).1 h2).1, ((hkb i).1 h2).2, ?_⟩
    rw [pack_col rs h1 h2]
  · rintro ⟨i, h1, h2, rfl⟩
    have hb := (hkb i).2 ⟨h1, h2⟩
    have h8' : i < 8 := by omega
    refine ⟨rank (k : Int) i, ?_, by rw [pack_col rs h8' hb]⟩
    rw [← h8]; exact rank_lt hb h8'
theorem dropA_count {a : Int} {rs : List Int} {s : Int} (hc : isCtx a rs = true) (hs : isSet a s = true)
    (h : ∀ m : Nat, m < a.toNat → bit s m = true → (∃ i : Nat, i < a.toNat ∧ bit s i = false ∧ colTo rs m rs.length = colTo rs i rs.length) ∨ Cp (fullO rs) (cols a rs) ((colTo rs m rs.length : Nat) : Int)) :
    (concepts (count (keepOf a s)) (packRows rs (keepOf a s) rs.length)).length = (concepts a rs).length := by
  refine atts_count hc (packRows_ctx hc hs) (packRows_length _ _ _ (Nat.le_refl _)) (fun c hc' => ?_) (fun c hc' => ?_)
  · obtain ⟨i, h1, -, rfl⟩ := (pack_cols hc hs).1 hc'
    exact col_mem.2 ⟨i, h1, rfl⟩
  · obtain ⟨m, hm, rfl⟩ := col_mem.1 hc'
    cases hb : bit s m with
    | false => exact .inl ((pack_cols hc hs).2 ⟨m, hm, hb, rfl⟩)
    | true =>
      rcases h m hm hb with ⟨i, h1, h2, h3⟩ | h1
      · exact .inl ((pack_cols hc hs).2 ⟨i, h1, h2, by rw [h3]⟩)
      · exact .inr h1
/-- Clarifying keeps the number of concepts. -/
theorem first_dup {xs : List Int} {x : Int} : ∀ {n : Nat}, n ≤ xs.length → x ∈ xs.take n → ∃ i, i < n ∧ xs.getD i 0 = x ∧ (xs.take i).contains x = false
  | 0, _, h => by simp at h
  | n + 1, hn, h => by
    by_cases h' : x ∈ xs.take n
    · obtain ⟨i, h1, h2⟩ := first_dup (by omega) h'
      exact ⟨i, by omega, h2⟩
    · rcases (take_mem (by omega)).1 h with h1 | h1
      · exact absurd h1 h'
      · exact ⟨n, by omega, h1.symm, by rw [Bool.eq_false_iff]; exact fun e => h' (List.contains_iff_mem.1 e)⟩
theorem clarify_count {a b : Int} {rs l : List Int} (h : clarify a rs = some (b, l)) : isCtx a rs = true ∧ isCtx b l = true ∧ (concepts b l).length = (concepts a rs).length := by
  unfold clarify at h
  split at h
  · rename_i hc
    have hd := dedTo_ctx hc
    have ht := twins_isSet hd
    rw [dropA, if_pos ⟨hd, ht⟩] at h
    simp only [Option.some.injEq, Prod.mk.injEq] at h
    obtain ⟨rfl, rfl⟩ := h
    refine ⟨hc, packRows_ctx hd ht, ?_⟩
    have hmem : ∀ x, x ∈ dedTo rs rs.length ↔ x ∈ rs := fun x => by rw [mem_dedTo (Nat.le_refl _), List.take_length]
    rw [dropA_count hd ht fun m hm hb => .inl ?_]
    · exact objs_count hc hd (fun x hx => (hmem x).1 hx) fun x hx => .inl ((hmem x).2 hx)
    · generalize dedTo rs rs.length = r at *
      have hlen : (cols a r).length = a.toNat := dualTo_length _ _
      have hmem : (cols a r).getD m 0 ∈ (cols a r).take a.toNat := by rw [← hlen, List.take_length]; exact getD_mem (by omega)
      obtain ⟨i, h1, h2, h3⟩ := first_dup (by omega) hmem
      refine ⟨i, h1, ?_, ?_⟩
      · show (dupTo (cols a r) a.toNat).testBit i = false
        rw [dupTo_bit, h2, h3]; simp
      · rw [cols_get h1, cols_get hm] at h2
        omega
  · cases h
theorem redA_count {a : Int} {rs : List Int} (hc : isCtx a rs = true) : (concepts (count (keepOf a ((redAs a rs : Nat) : Int))) (packRows rs (keepOf a ((redAs a rs : Nat) : Int)) rs.length)).length = (concepts a rs).length :=
  dropA_count hc (redAs_isSet hc) fun m hm hb => .inr ((isCp_col hm).1 (by
    have hb' : (cmTo (fullO rs) (cols a rs) a.toNat).testBit m = true := hb
    rw [cmTo_bit, Bool.and_eq_true] at hb'
    exact hb'.2))
theorem redO_left {a : Int} {rs : List Int} (hc : isCtx a rs = true) : ∀ x ∈ rs, x ∈ dropTo rs ((redOs a rs : Nat) : Int) rs.length ∨ Cp (fullA a) rs x := fun x hx => by
  obtain ⟨g, hg, rfl⟩ := mem_getD hx
  cases hb : bit ((redOs a rs : Nat) : Int) g with
  | false => exact .inl (mem_dropTo.2 ⟨g, hg, hb, rfl⟩)
  | true =>
    have hb' : (cmTo (fullA a) rs rs.length).testBit g = true := hb
    rw [cmTo_bit, Bool.and_eq_true] at hb'
    exact .inr ((isCp_row hc hg).1 hb'.2)
/-- No object of what is left of the objects is reducible. -/
theorem redO_none {a : Int} {rs : List Int} (hc : isCtx a rs = true) : ∀ x ∈ dropTo rs ((redOs a rs : Nat) : Int) rs.length, ¬ Cp (fullA a) (dropTo rs ((redOs a rs : Nat) : Int) rs.length) x := fun x hx h => by
  obtain ⟨g, hg, hb, rfl⟩ := mem_dropTo.1 hx
  have hb' : (cmTo (fullA a) rs rs.length).testBit g = false := hb
  rw [cmTo_bit, decide_eq_true hg, Bool.true_and] at hb'
  have := (isCp_row hc hg).2 (h.more fun y hy => dropTo_sub hy)
  rw [hb'] at this
  cases this
/-- Dropping the reducible attributes leaves nothing reducible where no object is. -/
theorem red_left {a : Int} {rs : List Int} (hc : isCtx a rs = true) (hn : ∀ x ∈ rs, ¬ Cp (fullA a) rs x) :
    (∀ m : Int, redA (count (keepOf a ((redAs a rs : Nat) : Int))) (packRows rs (keepOf a ((redAs a rs : Nat) : Int)) rs.length) m = false) ∧
    ∀ g : Int, redO (count (keepOf a ((redAs a rs : Nat) : Int))) (packRows rs (keepOf a ((redAs a rs : Nat) : Int)) rs.length) g = false := by
  have hs := redAs_isSet hc
  have hpc := fun c => pack_cols hc hs (c := c)
  have hkb := keep_bit hc hs
  have hbit : ∀ i : Nat, i < a.toNat → (bit ((redAs a rs : Nat) : Int) i = true ↔ Cp (fullO rs) (cols a rs) ((colTo rs i rs.length : Nat) : Int)) := fun i hi => by
    show (cmTo (fullO rs) (cols a rs) a.toNat).testBit i = true ↔ _
    rw [cmTo_bit, decide_eq_true hi, Bool.true_and, isCp_col hi]
  have hC := packRows_ctx hc hs
  have hrl : (packRows rs (keepOf a ((redAs a rs : Nat) : Int)) rs.length).length = rs.length := packRows_length _ _ _ (Nat.le_refl _)
  have hgen := gen (f := fullO rs) (L := cols a rs) (L' := cols (count (keepOf a ((redAs a rs : Nat) : Int))) (packRows rs (keepOf a ((redAs a rs : Nat) : Int)) rs.length)) (fun c hc' => by
      obtain ⟨m, hm, rfl⟩ := col_mem.1 hc'
      cases hb : bit ((redAs a rs : Nat) : Int) m with
      | false => exact .inl ((hpc _).2 ⟨m, hm, hb, rfl⟩)
      | true => exact .inr ((hbit m hm).1 hb))
    (fun x hx => by
      obtain ⟨m, -, rfl⟩ := col_mem.1 hx
      have := Nat.lt_of_lt_of_le (colTo_lt rs m rs.length) (pow_le8 (isCtx_parts hc).2.2.1)
      omega)
  -- what a column says follows from the kept ones
  have hcol : ∀ j, j < a.toNat → ∀ g, g < rs.length → (∀ i : Nat, i < a.toNat → bit ((redAs a rs : Nat) : Int) i = false → Le (colTo rs j rs.length) (colTo rs i rs.length) → bit (rs.getD g 0) i = true) → bit (rs.getD g 0) j = true := by
    intro j hj g hg h
    have := hgen 256 _ (col_mem.2 ⟨j, hj, rfl⟩) (by omega) g (full_bit.2 hg) fun c hc' hl => by
      obtain ⟨i, h1, h2, rfl⟩ := (hpc c).1 hc'
      rw [Int.toNat_natCast] at hl ⊢
      rw [Int.toNat_natCast] at hl
      exact (colbit rs i g).2 ⟨hg, h i h1 h2 hl⟩
    rw [Int.toNat_natCast] at this
    exact ((colbit rs j g).1 this).2
  constructor
  · intro m
    unfold redA
    split
    · rename_i h
      obtain ⟨_, h0, hm⟩ := h
      obtain ⟨n, rfl⟩ := Int.eq_ofNat_of_zero_le h0
      rw [Int.toNat_natCast]
      have hn' : n < (count (keepOf a ((redAs a rs : Nat) : Int))).toNat := by omega
      cases hcp : isCp (fullO (packRows rs (keepOf a ((redAs a rs : Nat) : Int)) rs.length)) (cols (count (keepOf a ((redAs a rs : Nat) : Int))) (packRows rs (keepOf a ((redAs a rs : Nat) : Int)) rs.length)) n with
      | false => rfl
      | true =>
        have h1 := (isCp_col hn').1 hcp
        obtain ⟨i, h2, h3, h4⟩ := (hpc _).1 (col_mem.2 ⟨n, hn', rfl⟩)
        rw [h4, fullO, hrl] at h1
        have h5 := (hbit i h2).2 (h1.more fun c hc' => by
          obtain ⟨k, h1, -, rfl⟩ := (hpc c).1 hc'
          exact col_mem.2 ⟨k, h1, rfl⟩)
        rw [h3] at h5
        cases h5
    · rfl
  · intro g
    unfold redO
    split
    · rename_i h
      obtain ⟨_, h0, hg⟩ := h
      obtain ⟨n, rfl⟩ := Int.eq_ofNat_of_zero_le h0
      rw [Int.toNat_natCast]
      have hn' : n < rs.length := by omega
      cases hcp : isCp (fullA (count (keepOf a ((redAs a rs : Nat) : Int)))) (packRows rs (keepOf a ((redAs a rs : Nat) : Int)) rs.length) n with
      | false => rfl
      | true =>
        exfalso
        have h1 := (isCp_row hC (by omega)).1 hcp
        rw [packRows_get hn'] at h1
        obtain ⟨k, hk, hlt⟩ := keepOf_nat hc hs
        have h8 : rank (k : Int) 8 = pop k := packTo_count k (by omega)
        rw [hk] at h1 hkb
        have h6 := isCtx_parts hc
        -- the packed rows lie in each other as the rows do
        have hle : ∀ r ∈ rs, Le (pack (rs.getD n 0) k) (pack r k) → Le (rs.getD n 0).toNat r.toNat := by
          intro r hr hl
          obtain ⟨h, hh, rfl⟩ := mem_getD hr
          have hkept : ∀ i : Nat, i < a.toNat → bit ((redAs a rs : Nat) : Int) i = false → bit (rs.getD n 0) i = true → bit (rs.getD h 0) i = true := fun i hi hb hr => by
            have := (hkb i).2 ⟨hi, hb⟩
            rw [← pack_at _ (by omega) this] at hr ⊢
            exact hl _ hr
          intro j hj
          have hja : j < a.toNat := full_bit.1 ((row_fullA hc (getD_mem hn')).2 j hj)
          refine hcol j hja h hh fun i hi hb hl' => hkept i hi hb ?_
          exact ((colbit rs i n).1 (hl' n ((colbit rs j n).2 ⟨hn', hj⟩))).2
        have hkept : ∀ i : Nat, i < a.toNat → bit ((redAs a rs : Nat) : Int) i = false → (∀ y ∈ rs, y ≠ rs.getD n 0 → Le (rs.getD n 0).toNat y.toNat → y.toNat.testBit i = true) → bit (rs.getD n 0) i = true := by
          intro i hi hb hy
          have hki := (hkb i).2 ⟨hi, hb⟩
          have := h1 (rank (k : Int) i) (full_bit.2 (by
            rw [count_nat (by omega), Int.toNat_natCast, ← h8]; exact rank_lt hki (by omega))) fun y hy' hne hl => by
              obtain ⟨r, hr, rfl⟩ := List.mem_map.1 hy'
              have hr' : r ∈ rs := List.mem_of_mem_take hr
              rw [Int.toNat_natCast] at hl ⊢
              rw [Int.toNat_natCast] at hl
              rw [pack_at _ (by omega) hki]
              exact hy r hr' (fun e => hne (by rw [e])) (hle r hr' hl)
          rw [Int.toNat_natCast, pack_at _ (by omega) hki] at this
          exact this
        refine hn _ (getD_mem hn') fun j hj hy => ?_
        have hja : j < a.toNat := full_bit.1 hj
        refine hcol j hja n hn' fun i hi hb hl => hkept i hi hb fun y hyr hne hle' => ?_
        obtain ⟨h, hh, rfl⟩ := mem_getD hyr
        exact ((colbit rs i h).1 (hl h ((colbit rs j h).2 ⟨hh, hy _ hyr hne hle'⟩))).2
    · rfl
theorem thin_count {a b : Int} {rs l : List Int} (hc : isCtx a rs = true) (h : thin a rs = some (b, l)) : (concepts b l).length = (concepts a rs).length := by
  have hd := dropTo_ctx hc ((redOs a rs : Nat) : Int)
  unfold thin at h
  rw [dropA, if_pos ⟨hd, redAs_isSet hd⟩] at h
  simp only [Option.some.injEq, Prod.mk.injEq] at h
  obtain ⟨rfl, rfl⟩ := h
  rw [redA_count hd]
  exact objs_count hc hd (fun x hx => dropTo_sub hx) (redO_left hc)
theorem thin_left {a b : Int} {rs l : List Int} (hc : isCtx a rs = true) (h : thin a rs = some (b, l)) : (∀ m : Int, redA b l m = false) ∧ ∀ g : Int, redO b l g = false := by
  have hd := dropTo_ctx hc ((redOs a rs : Nat) : Int)
  unfold thin at h
  rw [dropA, if_pos ⟨hd, redAs_isSet hd⟩] at h
  simp only [Option.some.injEq, Prod.mk.injEq] at h
  obtain ⟨rfl, rfl⟩ := h
  exact red_left hd (redO_none hc)
theorem reduce_count {a b : Int} {rs l : List Int} (h : reduce a rs = some (b, l)) : isCtx a rs = true ∧ (concepts b l).length = (concepts a rs).length ∧ (∀ m : Int, redA b l m = false) ∧ ∀ g : Int, redO b l g = false := by
  unfold reduce at h
  cases hq : clarify a rs with
  | none => rw [hq] at h; cases h
  | some p =>
    rw [hq] at h
    obtain ⟨h1, h2, h3⟩ := clarify_count (b := p.1) (l := p.2) hq
    exact ⟨h1, by rw [thin_count h2 h, h3], thin_left h2 h⟩
end Go.Proofs.Ytbpicpapkpomhaa.Tab
