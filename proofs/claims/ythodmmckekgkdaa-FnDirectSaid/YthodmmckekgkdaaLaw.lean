/-
  The last step of every law of one bool without listed results in memory: a call that returns true and leaves all that was there as it was gives the law's answer, whatever the types of its arguments are. Condition: no slice type of the program has elements of no cell.
-/
import Derived.Below
import Derived.ChangeSame
import Derived.ChangeOld
import Derived.ChangeBears
import Derived.RowKit
import Derived.WideShapes
import Derived.OpenShut
namespace Go.Proofs.Ythodmmckekgkdaa.Law
open Go Go.RowKit Go.WideShapes Go.ChangeShapes
set_option maxRecDepth 100000
section
variable {H : Type} {enc : TypeId × Value → H} {P : Program} {w : World} {base : Nat}

/-- No slice type of the program has elements of no cell. -/
def Full (P : Program) : Prop := ((List.range P.types.size).all fun t => match P.underlying t with | some (.slice e) => P.cellsOf e != 0 | _ => true) = true
theorem Full.at {P : Program} (h : Full P) {t e : TypeId} (hT : t < P.types.size) (ht : P.underlying t = some (.slice e)) : P.cellsOf e ≠ 0 := by
  have := List.all_eq_true.1 h t (List.mem_range.2 hT)
  simpa [ht] using this

theorem step_spare (K : Kids P (· < P.types.size)) (hc : Full P) {sp : Nat → Bool} {r r' : TypeId → List Value → Option (DataW H × List MemPlace)}
    (hr : ∀ t cs x, t < P.types.size → r t cs = some x → (∀ p ∈ x.2, sp p.block = true) → r' t cs = some x) {t : TypeId} (hT : t < P.types.size) {cs : List Value} {x : DataW H × List MemPlace}
    (h : DataW.trodStep enc P w base (fun _ => true) true r t cs = some x) (hs : ∀ p ∈ x.2, sp p.block = true) : DataW.trodStep enc P w base sp true r' t cs = some x := by
  unfold DataW.trodStep at h ⊢
  split at h
  case h_1 => exact h
  case h_2 => exact h
  case h_3 => exact h
  case h_4 => exact h
  case h_5 => exact h
  case h_6 e a _ =>
    simp only [Option.map_eq_some_iff, Option.bind_eq_some_iff] at h ⊢
    obtain ⟨y, ⟨cs', hc', hy⟩, rfl⟩ := h
    exact ⟨y, ⟨cs', hc', hr _ _ _ (K.pointer hT ‹_›) hy (fun p hp => hs p (by simp [hp]))⟩, rfl⟩
  case h_7 => exact h
  case h_8 e a len cap ht =>
    simp only at h ⊢
    split at h
    · rename_i hcond
      rw [if_pos hcond]
      simp only [Option.map_eq_some_iff, Option.bind_eq_some_iff, if_true] at h ⊢
      obtain ⟨elems, he, rest, hrest, rfl⟩ := h
      have hlen : elems.length = len := by simpa using mapM_some_length he
      have hrl : rest.length = cap - len := by simpa using mapM_some_length hrest
      have one : ∀ (i : Nat) (y : DataW H × List MemPlace), y ∈ elems ++ rest →
          (w.cells? base (a.add (i * P.cellsOf e)) (P.cellsOf e)).bind (r e) = some y → (w.cells? base (a.add (i * P.cellsOf e)) (P.cellsOf e)).bind (r' e) = some y := by
        intro i y hy hv
        simp only [Option.bind_eq_some_iff] at hv ⊢
        obtain ⟨cs', hc', hy'⟩ := hv
        refine ⟨cs', hc', hr _ _ _ (K.slice hT ‹_›) hy' (fun p hp => hs p ?_)⟩
        simp only [List.mem_append, List.mem_flatMap]
        right
        exact ⟨y, by simpa using hy, hp⟩
      refine ⟨elems, mapM_carry he (fun i y _ hy => one i y (by simp [hy])), rest, ?_, rfl⟩
      by_cases hcl : cap - len = 0
      · have : rest = [] := List.length_eq_zero_iff.1 (by omega)
        subst this
        rw [hcl]
        split <;> simp
      · have hspb : sp a.block = true := by
          have hmul : 0 < (elems.length + rest.length) * P.cellsOf e := Nat.mul_pos (by omega) (Nat.pos_of_ne_zero (hc.at hT ht))
          exact hs (.cell a.block (a.off + 0)) (by
            simp only [List.mem_append]
            left
            exact MemPlace.mem_row.2 ⟨0, hmul, rfl⟩)
        rw [if_pos hspb]
        exact mapM_carry hrest (fun j y _ hy => one (len + j) y (by simp [hy]))
    · cases h
  case h_9 =>
    split at h
    · rename_i hc'
      rw [if_pos hc']
      simp only [Option.map_eq_some_iff] at h ⊢
      obtain ⟨xs, hx, rfl⟩ := h
      exact ⟨xs, mapM_carry hx (fun f y hf hy hv => hr _ _ _ ((K.struct hT ‹_›).1 f hf) hv (fun p hp => hs p (List.mem_flatMap.2 ⟨y, hy, hp⟩))), rfl⟩
    · cases h
  case h_10 =>
    split at h
    · rename_i hc'
      rw [if_pos hc']
      simp only [Option.map_eq_some_iff] at h ⊢
      obtain ⟨xs, hx, rfl⟩ := h
      exact ⟨xs, mapM_carry hx (fun f y _ hy hv => hr _ _ _ (K.array hT ‹_›).1 hv (fun p hp => hs p (List.mem_flatMap.2 ⟨y, hy, hp⟩))), rfl⟩
    · cases h
  case h_11 => exact h
  case h_12 =>
    split at h
    · exact h
    · cases ‹true = false›
    · cases h
  case h_13 => exact h
  case h_14 k e b _ =>
    split at h
    · rename_i es clock hb
      split at h
      · rename_i hc'
        simp only [Option.bind_eq_some_iff] at h
        obtain ⟨entries, he, hd⟩ := h
        split at hd
        · rename_i hris
          have hx := Option.some.inj hd
          subst hx
          simp only [if_pos hc', Option.bind_eq_some_iff]
          refine ⟨entries, mapM_carry he (fun x y _ hy hv => ?_), by simp [hris]⟩
          simp only [Option.bind_eq_some_iff] at hv ⊢
          obtain ⟨key, hk, hz⟩ := hv
          refine ⟨key, hk, ?_⟩
          split at hz
          · rename_i hf
            rw [if_pos hf]
            simp only [Option.map_eq_some_iff] at hz ⊢
            obtain ⟨q, hq, rfl⟩ := hz
            exact ⟨q, hr _ _ _ (K.map hT ‹_›) hq (fun p hp => hs p (by simp only [List.mem_cons, List.mem_flatMap]; right; exact ⟨_, hy, hp⟩)), rfl⟩
          · cases hz
        · cases hd
      · cases h
    · cases h
  case h_15 => exact h
  case h_16 => exact h
  case h_17 => exact h
  case h_18 => exact h
  case h_19 => exact h
  case h_20 => exact h
  case h_21 => cases h

theorem trod_spare (K : Kids P (· < P.types.size)) (hc : Full P) {sp : Nat → Bool} : ∀ (n : Nat) (t : TypeId) (cs : List Value) (x : DataW H × List MemPlace), t < P.types.size →
    DataW.trod enc P w base (fun _ => true) true n t cs = some x → (∀ p ∈ x.2, sp p.block = true) → DataW.trod enc P w base sp true n t cs = some x := by
  intro n
  induction n with
  | zero => intro t cs x _ h; simp [DataW.trod] at h
  | succ n ih =>
    intro t cs x hT h hs
    rw [DataW.trod_step] at h ⊢
    exact step_spare K hc ih hT h hs

theorem trodAll_spare (K : Kids P (· < P.types.size)) (hc : Full P) {w' : World} {sp : Nat → Bool} : ∀ {ts : List TypeId} {vs : List Value} {ds : List (DataW H)} {ps : List MemPlace}, (∀ t ∈ ts, t < P.types.size) →
    DataW.TrodAll enc P w base (fun _ => true) true ts vs ds ps → (∀ p ∈ ps, sp p.block = true) → (∀ p ∈ ps, w.sameAt w' p) → DataW.TrodAll enc P w' base sp true ts vs ds ps
  | [], [], [], _, _, h, _, _ => h
  | _ :: _, _ :: _, _ :: _, _, hT, ⟨p, q, ⟨n, hn⟩, hs, e⟩, hp, hq => by
    subst e
    refine ⟨p, q, ⟨n, ?_⟩, trodAll_spare K hc (fun t ht => hT t (by simp [ht])) hs (fun x hx => hp x (by simp [hx])) (fun x hx => hq x (by simp [hx])), rfl⟩
    exact trod_spare K hc n _ _ _ (hT _ (by simp)) (DataW.trod_carry n _ _ _ hn (fun x hx => hq x (by simp [hx]))) (fun x hx => hp x (by simp [hx]))

/-- THE LAST STEP: true is returned, and what was there stands. -/
theorem post_true (K : Kids P (· < P.types.size)) (hc : Full P) {f : Func} {s : ChangeSpec} {W W' : World} {args : Array Value} {ds gs : List (DataW H)} {before : List MemPlace} {tb : TypeId}
    (hW : DataW.Whole enc P f.params.toList s.vars false W args.toList ds gs before) (hvars : s.vars = []) (hT : ∀ t ∈ f.params.toList, t < P.types.size) (htb : P.underlying tb = some .bool) (hres : f.resultTypes = #[tb])
    (hfn : s.fn H ds = { results := [.lit (.bool true)], args := ds }) (hb : Below W.heap.size W W') :
    s.post enc P f false true false false W args (.bool true) W' := by
  have hW' := hW
  have hlt : ∀ p ∈ before, p.block < W.heap.size := fun p hp => hW.lt p hp
  obtain ⟨p, q, hA, hV, rfl, hz, hn⟩ := hW
  rw [hvars] at hV
  obtain ⟨rfl, rfl⟩ := trodVars_none hV
  simp only [List.append_nil] at hW' hlt
  refine ⟨ds, [], p, [], p, [], hW', ?_, ?_, ?_, hb.frame _, fun h => by cases h⟩
  · simp only [List.append_nil]
    rw [hfn, hres]
    exact trodAll_cons_mk (shut_bool htb true) trodAll_mk0
  · simp only [List.append_nil]
    rw [hfn]
    exact trodAll_spare K hc hT hA (fun x hx => by simpa using hlt x hx) (fun x hx => hb.same (hlt x hx))
  · simp only [List.append_nil]
    rw [hfn, hvars]
    rfl
/-- The types of the listed variables are types of the program. -/
def varsIn (P : Program) (ns : List String) : Bool := ns.all fun n => match (P.globalNamed n).bind fun g => (P.globals[g]?).map (·.type) with | some t => decide (t < P.types.size) | none => true
theorem trodVars_spare (K : Kids P (· < P.types.size)) (hc : Full P) {w' : World} {sp : Nat → Bool} (hb : Below w.heap.size w w') : ∀ {ns : List String} {gs : List (DataW H)} {ps : List MemPlace}, varsIn P ns = true →
    DataW.TrodVars enc P w (fun _ => true) ns gs ps → (∀ p ∈ ps, sp p.block = true) → (∀ p ∈ ps, w.sameAt w' p) → DataW.TrodVars enc P w' sp ns gs ps
  | [], [], _, _, h, _, _ => h
  | n :: ns, _ :: _, _, hT, ⟨g, t, cs, fuel, p, q, h1, h2, h3, h4, hs, e⟩, hp, hq => by
    subst e
    unfold varsIn at hT
    rw [List.all_cons, Bool.and_eq_true] at hT
    have ht : t < P.types.size := by
      have := hT.1
      rw [h1] at this
      simp only [Option.bind_some, h2, decide_eq_true_eq] at this
      exact this
    have h5 : w'.var? P n = some cs := by
      have h6 := h3
      unfold World.var? at h6 ⊢
      rw [h1] at h6 ⊢
      simp only [Option.bind_some] at h6 ⊢
      rcases Nat.lt_or_ge g w.heap.size with hlt | hge
      · rw [hb.block g hlt]; exact h6
      · rw [Array.getElem?_eq_none hge] at h6
        cases h6
    refine ⟨g, t, cs, fuel, p, q, h1, h2, h5, ?_, trodVars_spare K hc hb hT.2 hs (fun x hx => hp x (by simp [hx])) (fun x hx => hq x (by simp [hx])), rfl⟩
    exact trod_spare K hc fuel _ _ _ ht (DataW.trod_carry fuel _ _ _ h4 (fun x hx => hq x (by simp [hx]))) (fun x hx => hp x (by simp [hx]))

/-- THE LAST STEP of a law whose row lists variables: true is returned, and what was there stands. -/
theorem post_trueV (K : Kids P (· < P.types.size)) (hc : Full P) {f : Func} {s : ChangeSpec} {W W' : World} {args : Array Value} {ds gs : List (DataW H)} {before : List MemPlace} {tb : TypeId}
    (hW : DataW.Whole enc P f.params.toList s.vars false W args.toList ds gs before) (hv : varsIn P s.vars = true) (hT : ∀ t ∈ f.params.toList, t < P.types.size) (htb : P.underlying tb = some .bool) (hres : f.resultTypes = #[tb])
    (hfn : s.fn H (ds ++ gs) = { results := [.lit (.bool true)], args := ds, vars := gs }) (hb : Below W.heap.size W W') :
    s.post enc P f false true false false W args (.bool true) W' := by
  have hW' := hW
  have hlt : ∀ p ∈ before, p.block < W.heap.size := fun p hp => hW.lt p hp
  obtain ⟨p, q, hA, hV, rfl, hz, hn⟩ := hW
  refine ⟨ds, gs, p ++ q, [], p, q, hW', ?_, ?_, ?_, hb.frame _, fun h => by cases h⟩
  · rw [hfn, hres]
    exact trodAll_cons_mk (shut_bool htb true) trodAll_mk0
  · rw [hfn]
    exact trodAll_spare K hc hT hA (fun x hx => by simpa using hlt x (by simp [hx])) (fun x hx => hb.same (hlt x (by simp [hx])))
  · rw [hfn]
    exact trodVars_spare K hc hb hv hV (fun x hx => by simpa using hlt x (by simp [hx])) (fun x hx => hb.same (hlt x (by simp [hx])))
end
end Go.Proofs.Ythodmmckekgkdaa.Law
