/-
  Chapter 11 of the model: lists that say the same, a list without one of its rules, what follows from the other ones, what stays.
-/
import Derived.Test.YtgkoggajdhibdaaInfP
import Derived.Test.YtgkoggajdhibdaaAppR
import Derived.Test.YtgkoggajdhibdaaMrg2
namespace Go.Proofs.Ytgkoggajdhibdaa.Infer
open Go Go.RowKit Mem Sets Ctx Tab Rule Stem Lectic
set_option maxRecDepth 100000

theorem equiv_no1 {a b : List PInt} (h : allIn 8 a = false) : equiv a b = false := by rw [equiv, h]; rfl
theorem equiv_no2 {a b : List PInt} (h : allIn 8 b = false) : equiv a b = false := by rw [equiv, h]; cases allIn 8 a <;> rfl
theorem equiv_yes {a b : List PInt} (ha : allIn 8 a = true) (hb : allIn 8 b = true) : equiv a b = (allFollow a b && allFollow b a) := by rw [equiv, ha, hb]; rfl
set_option maxHeartbeats 1600000 in
theorem spec_equiv (v1 v2 : Value) (a b : List PInt) (B : Nat) (w : World) (h1 : ReadsP w B v1 a) (h2 : ReadsP w B v2 b) (hB : B ≤ w.heap.size) :
    Calls Try.prog 54 #[v1, v2] w fun e w' => e = .returned (.bool (equiv a b)) ∧ Below w.heap.size w w' := by
  have H1 := Lib.hid fun p : Past w => p.of (Rule.l9Sets v1 a B p.w (h1.below p.h hB) (Nat.le_trans hB p.size))
  have H2 := Lib.hid fun p : Past w => p.of (Rule.l9Sets v2 b B p.w (h2.below p.h hB) (Nat.le_trans hB p.size))
  cases ha : allIn 8 a with
  | false =>
    have HX := Lib.hid (equiv_no1 (b := b) ha)
    rw [ha] at H1
    clear ha H2
    go_enter Try.func54, Try.ntmps54
    go_wp2_with fail
    refine (H1.out (Past.start w)).mono ?_
    rintro e _ ⟨rfl, p, rfl⟩
    have hbb := p.h
    go_wp2_with fail
    go_ret
    exact ⟨by rw [HX.out]; rfl, hbb⟩
  | true =>
    cases hb : allIn 8 b with
    | false =>
      have HX := Lib.hid (equiv_no2 (a := a) hb)
      rw [ha] at H1
      rw [hb] at H2
      clear ha hb
      go_enter Try.func54, Try.ntmps54
      go_wp2_with fail
      refine (H1.out (Past.start w)).mono ?_
      rintro e _ ⟨rfl, p, rfl⟩
      go_wp2_with fail
      refine (H2.out p).mono ?_
      rintro e _ ⟨rfl, p2, rfl⟩
      have hbb := p2.h
      go_wp2_with fail
      go_ret
      exact ⟨by rw [HX.out]; rfl, hbb⟩
    | true =>
      have H3 := Lib.hid fun p : Past w => p.of (l10All v1 v2 a b B p.w (h1.below p.h hB) (h2.below p.h hB) (Nat.le_trans hB p.size) ha hb)
      have H4 := Lib.hid fun p : Past w => p.of (l10All v2 v1 b a B p.w (h2.below p.h hB) (h1.below p.h hB) (Nat.le_trans hB p.size) hb ha)
      have HX := Lib.hid (equiv_yes ha hb)
      rw [ha] at H1
      rw [hb] at H2
      obtain ⟨d1, hd1⟩ : ∃ d, allFollow a b = d := ⟨_, rfl⟩
      obtain ⟨d2, hd2⟩ : ∃ d, allFollow b a = d := ⟨_, rfl⟩
      rw [hd1] at H3 HX
      rw [hd2] at H4 HX
      clear ha hb hd1 hd2
      cases d1 with
      | false =>
        go_enter Try.func54, Try.ntmps54
        go_wp2_with fail
        refine (H1.out (Past.start w)).mono ?_
        rintro e _ ⟨rfl, p, rfl⟩
        go_wp2_with fail
        refine (H2.out p).mono ?_
        rintro e _ ⟨rfl, p2, rfl⟩
        go_wp2_with fail
        refine (H3.out p2).mono ?_
        rintro e _ ⟨rfl, p3, rfl⟩
        have hbb := p3.h
        go_wp2_with fail
        go_ret
        exact ⟨by rw [HX.out]; rfl, hbb⟩
      | true =>
        go_enter Try.func54, Try.ntmps54
        go_wp2_with fail
        refine (H1.out (Past.start w)).mono ?_
        rintro e _ ⟨rfl, p, rfl⟩
        go_wp2_with fail
        refine (H2.out p).mono ?_
        rintro e _ ⟨rfl, p2, rfl⟩
        go_wp2_with fail
        refine (H3.out p2).mono ?_
        rintro e _ ⟨rfl, p3, rfl⟩
        go_wp2_with fail
        refine (H4.out p3).mono ?_
        rintro e _ ⟨rfl, p4, rfl⟩
        have hbb := p4.h
        go_wp2_with fail
        go_ret
        exact ⟨by rw [HX.out]; rfl, hbb⟩
theorem cut_own {w w3 w4 : World} {e : TypeId} {g1 g2 c1 c2 k : Nat} {l : List PInt} {ob : Obj} {m1 m2 : Nat}
    (o3 : w3.ownsRow w.heap.size e 2 (.slice (some ⟨g1, 0, none⟩) m1 c1) m1 ([] ++ prs (l.take k))) (o4 : w4.ownsRow w.heap.size e 2 (.slice (some ⟨g2, 0, none⟩) m2 c2) m2 ([] ++ prs (l.take k) ++ prs (l.drop (k + 1))))
    (gr3 : (w.alloc ob).drew.grownBy w3 (some w.heap.size)) (gr4 : w3.grownBy w4 (some g1)) :
    OwnP e w4 w.heap.size w4.heap.size (.slice (some ⟨g2, 0, none⟩) m2 c2) (without l k) ∧ Below w.heap.size w w4 := by
  have h3 := (((Below.refl w.heap.size w).alloc (Nat.le_refl _) ob).drew).grown gr3 (by show w.heap.size ≤ (w.alloc ob).heap.size; simp) (fun q hq => by cases hq; exact Nat.le_refl _)
  have h4 := h3.grown gr4 (by have := gr3.size; change (w.alloc ob).heap.size ≤ _ at this; simp at this; omega) (fun q hq => by cases hq; exact (o3.lt g1 rfl).1)
  refine ⟨OwnP.made (n := m2) ?_, h4⟩
  rw [without, prs_app]
  simpa using o4
set_option maxHeartbeats 3200000 in
theorem l11Without (a : Option Addr) (c : Nat) (l : List PInt) (k : Nat) (B : Nat) (w : World) (hr : ReadsP w B (.slice a l.length c) l) (hB : B ≤ w.heap.size) (hcap : l.length ≤ c) (hlen : l.length ≤ 1048576) (hk : k < l.length) :
    Calls Try.prog 116 #[.slice a l.length c, .int .i64 k] w fun e w' => ∃ u, e = .returned u ∧ OwnP 43 w' w.heap.size w'.heap.size u (without l k) ∧ Below w.heap.size w w' := by
  obtain ⟨i0, hinf, hz0, hz1, hz2⟩ := info_parts PRule.infoT
  obtain ⟨b, o, rfl, hbB, hcs⟩ : ∃ b o, a = some ⟨b, o, none⟩ ∧ b < w.heap.size ∧ ∀ p : Past w, ∀ j, j < l.length → p.w.cell? ⟨b, o + j * 2, none⟩ = some (.int .i64 (l.getD j (0, 0)).1) ∧ p.w.cell? ⟨b, o + j * 2 + 1, none⟩ = some (.int .i64 (l.getD j (0, 0)).2) := by
    obtain ⟨_, a', c', hv, hcells⟩ := hr
    injection hv with e1 e2 e3
    subst e1
    obtain ⟨b, o, h1, h2, h3⟩ := hcells (by rintro rfl; simp at hk)
    exact ⟨b, o, h1, by omega, fun p j hj => ⟨Past.cell (h3 j hj).1 (by show b < _; omega) p, Past.cell (h3 j hj).2 (by show b < _; omega) p⟩⟩
  have HN1 := Lib.hid (cut_news (w := w.alloc (.cells #[] 43)) (q := 0) (m := l.take k) (hcs ((Past.start w).alloc (.cells #[] 43))) (take_at (by omega)))
  rw [Nat.zero_mul, Nat.add_zero] at HN1
  have HL0 := Lib.hid (World.ownsRow_lit (e := 43) (size := 2) w #[] 0 (Nat.le_refl _) (Nat.zero_le _) rfl)
  have HT1 : Hid ((prs (l.take k)).length = k * 2) := Lib.hid (by rw [prs_length, List.length_take]; omega)
  have HT2 : Hid ((prs (l.drop (k + 1))).length = (l.length - (k + 1)) * 2) := Lib.hid (by rw [prs_length, List.length_drop])
  have M1 : Hid (0 + k ≤ maxLen) := Lib.hid (by unfold maxLen; omega)
  have M2 : Hid ((0 + k) * 16 ≤ 140737488355328) := Lib.hid (by omega)
  have M3 : Hid (k + (l.length - (k + 1)) ≤ maxLen) := Lib.hid (by unfold maxLen; omega)
  have M4 : Hid ((k + (l.length - (k + 1))) * 16 ≤ 140737488355328) := Lib.hid (by omega)
  have hz0p : w.heap.size ≤ (w.alloc (.cells #[] 43)).drew.heap.size := (Below.refl 0 w |>.alloc (Nat.zero_le _) (.cells #[] 43)).size
  have hkq : k ≤ c := by omega
  have hkl : k + 1 ≤ l.length := hk
  have hkq1 : k + 1 ≤ c := by omega
  have hwr : IntKind.i64.wrap ((k : Int) + 1) = (k : Int) + 1 := by rw [IntKind.wrap_i64]; omega
  have htn : ((k : Int) + 1).toNat = k + 1 := by omega
  have hi0 : (0 : Int) ≤ (k : Int) + 1 := by omega
  have hi1 : (k : Int) + 1 ≤ (l.length : Int) := by omega
  have hi2 : (k : Int) ≤ (k : Int) + 1 := by omega
  clear hr
  by_cases hqk : c = k + 1
  · have hdr : l.drop (k + 1) = [] := List.drop_of_length_le (by omega)
    subst hqk
    rw [show l.length - (k + 1) = 0 by omega] at HT2 M3 M4
    go_enter Try.func116, Try.ntmps116
    go_wp2_with fail
    go_region_law (first | (refine step_append_at (w := (w.alloc (.cells #[] 43)).drew) (by rfl) _ _ _ (by rfl) w.heap.size 43 i0 (.agg #[.int .i64 0, .int .i64 0]) 2 16 Try.underlying28 hinf hz0 hz1 hz2 rfl (by decide) w.heap.size 0 0 [] (by rfl) HL0.out ⟨b, o, none⟩ k _ (prs (l.take k)) (by rfl) HT1.out HN1.out (prs_one _) M1.out M2.out hz0p ?_; intro ga capa wa own3 grow3; rw [Nat.zero_add] at own3) | (refine step_append_at (w := wa) (by rfl) _ _ _ (by rfl) w.heap.size 43 i0 (.agg #[.int .i64 0, .int .i64 0]) 2 16 Try.underlying28 hinf hz0 hz1 hz2 rfl (by decide) ga capa k ([] ++ prs (l.take k)) (by rfl) own3 ⟨b, o, none⟩ 0 _ (prs (l.drop (k + 1))) (by rfl) HT2.out (fun j u hj => by rw [hdr] at hj; simp [prs] at hj) (prs_one _) M3.out M4.out (Nat.le_trans hz0p grow3.size) ?_; intro gb capb wb own4 grow4; rw [Nat.add_zero] at own4) | fail)
    simp only [Act.put, List.getElem_toArray, List.getElem_cons_succ, List.getElem_cons_zero, List.setIfInBounds_toArray, List.set_cons_zero, List.set_cons_succ]
    have HD := Lib.hid (cut_own own3 own4 grow3 grow4)
    clear own3 own4 grow3 grow4 HN1 HL0 HT1 HT2 M1 M2 M3 M4 hz0p hcs
    go_wp2_with fail
    go_ret
    exact ⟨_, rfl, HD.out.1, HD.out.2⟩
  · have hqk2 : ¬ k + 1 = c := fun h => hqk h.symm
    go_enter Try.func116, Try.ntmps116
    go_wp2_with fail
    go_region_law (first | (refine step_append_at (w := (w.alloc (.cells #[] 43)).drew) (by rfl) _ _ _ (by rfl) w.heap.size 43 i0 (.agg #[.int .i64 0, .int .i64 0]) 2 16 Try.underlying28 hinf hz0 hz1 hz2 rfl (by decide) w.heap.size 0 0 [] (by rfl) HL0.out ⟨b, o, none⟩ k _ (prs (l.take k)) (by rfl) HT1.out HN1.out (prs_one _) M1.out M2.out hz0p ?_; intro ga capa wa own3 grow3; rw [Nat.zero_add] at own3) | (refine step_append_at (w := wa) (by rfl) _ _ _ (by rfl) w.heap.size 43 i0 (.agg #[.int .i64 0, .int .i64 0]) 2 16 Try.underlying28 hinf hz0 hz1 hz2 rfl (by decide) ga capa k ([] ++ prs (l.take k)) (by rfl) own3 ⟨b, o + (k + 1) * 2, none⟩ (l.length - (k + 1)) _ (prs (l.drop (k + 1))) (by rfl) HT2.out (cut_news (q := k + 1) (cells_grown (f := fun j => l.getD j (0, 0)) (hcs (Past.drew ((Past.start w).alloc (.cells #[] 43)))) grow3 (by show b < (w.alloc _).heap.size; simp; omega) (by intro he; injection he; omega)) drop_at) (prs_one _) M3.out M4.out (Nat.le_trans hz0p grow3.size) ?_; intro gb capb wb own4 grow4) | fail)
    simp only [Act.put, List.getElem_toArray, List.getElem_cons_succ, List.getElem_cons_zero, List.setIfInBounds_toArray, List.set_cons_zero, List.set_cons_succ]
    have HD := Lib.hid (cut_own own3 own4 grow3 grow4)
    clear own3 own4 grow3 grow4 HN1 HL0 HT1 HT2 M1 M2 M3 M4 hz0p hcs
    go_wp2_with fail
    go_ret
    exact ⟨_, rfl, HD.out.1, HD.out.2⟩
theorem redundant_no {l : List PInt} {k : Int} (h : ¬ (0 ≤ k ∧ k ≤ (l.length : Int) - 1)) : redundant l k = false := by
  rw [redundant, isRed]
  by_cases h0 : 0 ≤ k
  · rw [decide_eq_false (show ¬ k.toNat < l.length by omega), Bool.false_and, Bool.and_false]
  · rw [decide_eq_false h0]; rfl
theorem redundant_nat (l : List PInt) (k : Nat) : redundant l (k : Int) = isRed l k := by
  rw [redundant, decide_eq_true (by omega), Int.toNat_natCast]; rfl
theorem isRed_at {l : List PInt} {k : Nat} (hk : k < l.length) : isRed l k = follows (without l k) (rl l k) := by rw [isRed, decide_eq_true hk]; rfl
set_option maxHeartbeats 3200000 in
theorem spec_redundant (a : Option Addr) (c : Nat) (l : List PInt) (k : Int) (B : Nat) (w : World) (hr : ReadsP w B (.slice a l.length c) l) (hB : B ≤ w.heap.size) (hcap : l.length ≤ c) (hlen : l.length ≤ 1048576) :
    Calls Try.prog 56 #[.slice a l.length c, .int .i64 k] w fun e w' => e = .returned (.bool (redundant l k)) ∧ Below w.heap.size w w' := by
  have hwl : IntKind.i64.wrap ((l.length : Int) - 1) = (l.length : Int) - 1 := by rw [IntKind.wrap_i64]; omega
  by_cases h : 0 ≤ k ∧ k ≤ (l.length : Int) - 1
  · obtain ⟨n, rfl⟩ := Int.eq_ofNat_of_zero_le h.1
    have hn : n < l.length := by omega
    have HI := Lib.hid fun w => l1In (n : Int) 0 ((l.length : Int) - 1) w
    rw [decide_eq_true h] at HI
    have HX : Hid (redundant l (n : Int) = follows (without l n) (rl l n)) := Lib.hid (by rw [redundant_nat, isRed_at hn])
    have HW := Lib.hid ((Past.start w).drew.ofPairs (l11Without a c l n B w.drew (hr.below ((Past.start w).drew.h) hB) (Nat.le_trans hB (Past.start w).drew.size) hcap hlen hn))
    obtain ⟨b, o, rfl, hb, h0, h1⟩ := readsP_at hr hn
    have c0 := fun q : Past w => Past.cell h0 (by show b < _; omega) q
    have c1 := fun q : Past w => Past.cell h1 (by show b < _; omega) q
    have hnl : (n : Int) < (l.length : Int) := by omega
    clear hr h h0 h1
    generalize rl l n = r at c0 c1 HX
    obtain ⟨x, y⟩ := r
    have HF := Lib.hid fun (q : Past w) (v : Value) (hq : ReadsP q.w q.w.heap.size v (without l n)) => q.of (spec_follows v (without l n) (x, y) q.w.heap.size q.w hq (Nat.le_refl _))
    generalize follows (without l n) (x, y) = d at HF HX
    have kd0 := c0 (Past.start w).drew
    have kd1 := c1 (Past.start w).drew
    go_enter Try.func56, Try.ntmps56
    go_wp2_with fail
    go_region_held3 (fun wx => wx.cell? ⟨b, o + n * 2, none⟩ = some (.int .i64 x) ∧ wx.cell? ⟨b, o + n * 2 + 1, none⟩ = some (.int .i64 y))
      (first | with_reducible exact ⟨kd0, kd1⟩ | with_reducible exact ⟨c0 q, c1 q⟩ | with_reducible exact ⟨c0 q2, c1 q2⟩ | fail)
      (first
        | (go_at_call 94; (with_reducible refine (HI.out _).mono ?_); rintro e w' ⟨rfl, hw⟩; subst w')
        | (go_at_call 116; (with_reducible refine HW.out.mono ?_); rintro e _ ⟨au, cu, rfl, q, rfl, HRQ⟩)
        | (go_at_call 35; (with_reducible refine (HF.out q _ HRQ).mono ?_); rintro e _ ⟨rfl, q2, rfl⟩) | fail)
    have hbb := q2.h
    go_wp2_with fail
    go_ret
    exact ⟨by rw [HX.out]; rfl, hbb⟩
  · have HI := Lib.hid fun p : Past w => p.ofSame (l1In k 0 ((l.length : Int) - 1) p.w)
    rw [decide_eq_false h] at HI
    have HX := Lib.hid (redundant_no h)
    clear hr h
    go_enter Try.func56, Try.ntmps56
    go_wp2_with fail
    refine wp_region_past (by kernel_rfl) (by kernel_rfl) ?_
    repeat (go_big_quiet_step (first | with_reducible exact HI.out _))
    refine wpQuiet_nil ?_
    rintro _ ⟨p, rfl⟩
    have hbb := p.h
    go_wp2_with fail
    go_ret
    exact ⟨by rw [HX.out]; rfl, hbb⟩
theorem minimal_no {l : List PInt} (h : allIn 8 l = false) : minimal l = [] := by rw [minimal, if_neg (by rw [h]; decide)]
theorem minimal_yes {l : List PInt} (h : allIn 8 l = true) : minF (l.length - 0) l 0 = minimal l := by rw [minimal, if_pos h]; rfl
theorem minF_red {l : List PInt} {k : Nat} (hk : k < l.length) (h : isRed l k = true) : minF (l.length - k) l k = minF ((without l k).length - k) (without l k) k := by
  obtain ⟨d, hd⟩ : ∃ d, l.length - k = d + 1 := ⟨l.length - k - 1, by omega⟩
  rw [hd, minF, if_pos hk, if_pos h, without_len hk, show l.length - 1 - k = d by omega]
theorem minF_next {l : List PInt} {k : Nat} (hk : k < l.length) (h : isRed l k = false) : minF (l.length - k) l k = minF (l.length - (k + 1)) l (k + 1) := by
  obtain ⟨d, hd⟩ : ∃ d, l.length - k = d + 1 := ⟨l.length - k - 1, by omega⟩
  rw [hd, minF, if_pos hk, if_neg (by rw [h]; decide), show l.length - (k + 1) = d by omega]
theorem minF_end {l : List PInt} {k : Nat} (hk : l.length ≤ k) : minF (l.length - k) l k = l := by
  rw [show l.length - k = 0 by omega]; rfl
theorem capP {e : TypeId} {w : World} {lo hi n c : Nat} {a : Option Addr} {l : List PInt} (h : OwnP e w lo hi (.slice a n c) l) : n ≤ c := by
  rcases h.1.2 with ⟨hv, _⟩ | ⟨g, cap, cur, hv, _, _, hn, _⟩
  · injection hv with e1 e2 e3; omega
  · injection hv with e1 e2 e3; omega
/-- A call that returns a list of its own, in a world of the class. -/
theorem _root_.Go.Proofs.Ytgkoggajdhibdaa.Mem.Past.ofB' {W : World} {P : Program} {f : FuncId} {args : Array Value} {l : List PInt} {t : TypeId} (p : Past W) (h : Calls P f args p.w fun e w' => ∃ u, e = .returned u ∧ OwnP t w' p.w.heap.size w'.heap.size u l ∧ Below p.w.heap.size p.w w') :
    Calls P f args p.w fun e w' => ∃ a c, e = .returned (.slice a l.length c) ∧ ∃ q : Past W, w' = q.w ∧ OwnP t q.w p.w.heap.size q.w.heap.size (.slice a l.length c) l :=
  h.mono fun _ w' ⟨u, he, ho, hb⟩ => by
    obtain ⟨a, c, rfl⟩ := ho.form
    exact ⟨a, c, he, ⟨w', p.h.trans (hb.mono p.h.size)⟩, rfl, ho⟩
def lenV : Value → Nat
  | .slice _ n _ => n
  | _ => 0
set_option maxHeartbeats 3200000 in
theorem spec_minimal (a : Option Addr) (c : Nat) (l : List PInt) (B : Nat) (w : World) (hr : ReadsP w B (.slice a l.length c) l) (hB : B ≤ w.heap.size) (hlen : l.length ≤ 1048576) :
    Calls Try.prog 52 #[.slice a l.length c] w fun e w' => ∃ u, e = .returned u ∧ OwnP 43 w' w.heap.size w'.heap.size u (minimal l) ∧ Below w.heap.size w w' := by
  obtain ⟨i0, hinf, hz0, hz1, hz2⟩ := info_parts PRule.infoT
  have HL := Lib.hid (((Past.start w).alloc (.cells #[] 43)).ofB (Rule.l9Sets (.slice a l.length c) l B (w.alloc (.cells #[] 43)) (hr.below ((Past.start w).alloc (.cells #[] 43)).h hB) (Nat.le_trans hB ((Past.start w).alloc (.cells #[] 43)).size)))
  have HL0 := Lib.hid (World.ownsRow_lit (e := 43) (size := 2) w #[] 0 (Nat.le_refl _) (Nat.zero_le _) rfl)
  have hzz : w.heap.size < (w.alloc (.cells #[] 43)).heap.size := by simp
  cases h8 : allIn 8 l with
  | false =>
    have HX := Lib.hid (minimal_no h8)
    rw [h8] at HL
    clear h8 hr
    go_enter Try.func52, Try.ntmps52
    go_wp2_with fail
    refine HL.out.mono ?_
    rintro e _ ⟨rfl, p, rfl, b2⟩
    have HO := Lib.hid ((OwnP.made (l := []) HL0.out).below b2 (Nat.le_refl _))
    have hzp := b2.size
    have hbb := p.h
    clear b2
    go_wp2_with fail
    go_ret
    exact ⟨_, rfl, by rw [HX.out]; exact HO.out.mono (Nat.le_refl _) hzp, hbb⟩
  | true =>
    have HX := Lib.hid (minimal_yes h8)
    rw [h8] at HL
    have HRD := Lib.hid fun q : Past w => hr.below q.h hB
    have M1 : Hid (0 + l.length ≤ maxLen) := Lib.hid (by unfold maxLen; omega)
    have M2 : Hid ((0 + l.length) * 16 ≤ 140737488355328) := Lib.hid (by omega)
    clear h8 hr
    go_enter Try.func52, Try.ntmps52
    go_wp2_with fail
    refine HL.out.mono ?_
    rintro e _ ⟨rfl, p, rfl, b2⟩
    have HO := Lib.hid (rowP_same HL0.out fun g hg => b2.block g (HL0.out.lt g hg).2)
    have hzp := p.size
    clear b2 HL0
    go_wp2_with (at_builtin; refine wpList_append_reads rfl _ _ _ rfl w.heap.size 43 i0 (.agg #[.int .i64 0, .int .i64 0]) 16 Try.underlying28 hinf hz0 hz1 hz2 rfl _ 0 [] rfl HO.out a c l rfl B (HRD.out p) M1.out M2.out hzp ?_)
    intro v1 w1 own1 grow1
    have HP1 : Hid (∃ p1 : Past w, p1.w = w1) := Lib.hid ⟨⟨w1, p.h.grown grow1 p.size (fun q hq => (HO.out.lt q hq).1)⟩, rfl⟩
    obtain ⟨p1, rfl⟩ := HP1.out
    have HO1 := Lib.hid (OwnP.made own1)
    clear own1 grow1 HP1 HO M1 M2 HRD HL
    go_wp2_with fail
    go_loopw [3, 4] (fun ov kv wr => ∃ (l' : List PInt) (k : Nat) (au : Option Addr) (cu : Nat) (p : Past w), k ≤ l'.length ∧ kv = .int .i64 k ∧ ov = .slice au l'.length cu ∧ Hid (minF (l'.length - k) l' k = minimal l) ∧ l'.length ≤ l.length ∧ Hid (OwnP 43 p.w w.heap.size p.w.heap.size (.slice au l'.length cu) l') ∧ wr = p.w) (fun ov kv _ => lenV ov - (intOf kv).toNat)
    case atStart =>
      obtain ⟨au, cu, rfl⟩ := HO1.out.form
      exact ⟨l, 0, au, cu, p1, Nat.zero_le _, rfl, rfl, HX, Nat.le_refl _, HO1, rfl⟩
    case round =>
      obtain ⟨l', k, au, cu, p2, hk, rfl, rfl, HM, hl2, HO2, rfl⟩ := hrel
      by_cases hlt : k < l'.length
      · have HC := Lib.hid (p2.ofB (spec_redundant au cu l' (k : Int) p2.w.heap.size p2.w HO2.out.reads (Nat.le_refl _) (capP HO2.out) (by omega)))
        rw [redundant_nat] at HC
        have HR := Lib.hid (minF_red hlt)
        have HN := Lib.hid (minF_next hlt)
        have hz2p := p2.size
        cases hd : isRed l' k with
        | true =>
          have HE := Lib.hid ((HR.out hd).symm.trans HM.out)
          have hwl := without_len hlt
          rw [hd] at HC
          clear hd HR HN
          go_wp2_with fail
          refine HC.out.mono ?_
          rintro e _ ⟨rfl, p3, rfl, b3⟩
          have HO3 := Lib.hid ((HO2.out.below b3 (Nat.le_refl _)).mono (Nat.le_refl _) b3.size)
          have HW := Lib.hid (p3.ofB' (l11Without au cu l' k p3.w.heap.size p3.w HO3.out.reads (Nat.le_refl _) (capP HO3.out) (by omega) hlt))
          have hz3p := p3.size
          clear b3
          go_wp2_with fail
          refine HW.out.mono ?_
          rintro e _ ⟨a4, c4, rfl, p4, rfl, o4⟩
          have HO4 := Lib.hid (o4.mono (lo' := w.heap.size) (by omega) (Nat.le_refl _))
          clear o4
          go_wp2_with fail
          go_roundw
          case rel => exact ⟨without l' k, k, a4, c4, p4, by omega, rfl, by rw [hwl], HE, by omega, HO4, rfl⟩
          case measure => simp [intOf, lenV]; omega
        | false =>
          have HE := Lib.hid ((HN.out hd).symm.trans HM.out)
          rw [hd] at HC
          clear hd HR HN
          go_wp2_with fail
          refine HC.out.mono ?_
          rintro e _ ⟨rfl, p3, rfl, b3⟩
          have HO3 := Lib.hid ((HO2.out.below b3 (Nat.le_refl _)).mono (Nat.le_refl _) b3.size)
          clear b3
          go_wp2_with fail
          go_roundw
          case rel => exact ⟨l', k + 1, au, cu, p3, hlt, by simp, rfl, HE, hl2, HO3, rfl⟩
          case measure => simp [intOf, lenV]; omega
      · have HE := Lib.hid ((minF_end (l := l') (k := k) (by omega)).symm.trans HM.out)
        have hbb := p2.h
        go_wp2_with fail
        go_ret
        exact ⟨_, rfl, by rw [← HE.out]; exact HO2.out, hbb⟩
end Go.Proofs.Ytgkoggajdhibdaa.Infer
