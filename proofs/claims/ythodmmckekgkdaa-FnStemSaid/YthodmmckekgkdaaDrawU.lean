/-
  Draws of chapter 10: a context with rules that are mostly a base.
-/
import Derived.Test.YthodmmckekgkdaaDrawT
import Derived.Test.YthodmmckekgkdaaMrg3
import Derived.Test.YthodmmckekgkdaaCutOne
namespace Go.Proofs.Ythodmmckekgkdaa.Draw
open Go Go.RowKit Mem Sets Elems Text Strs Ctx
set_option maxRecDepth 100000
attribute [local go_sem ↓] Go.wp_at_zero Go.wp_at_succ

theorem box_apart {w w' : World} {p b : Nat} {t : TypeId} {cs : Array Value} (h : BoxAt w b t cs) (a : Apart p (p + 1) w w') (hp : b ≠ p) : BoxAt w' b t cs := (a.block b h.lt (by omega)).trans h
/-- What is handed back at the end: the context is stored into the result's box. -/
theorem case_end {w V w' : World} {B p g n cv : Nat} {a : Int} {av : Option Addr} {rs : List Int} {x : Value} {l : List PInt} {lo : Nat}
    (hB : Below w.heap.size w V) (hX : BoxAt V w.heap.size 26 #[.int .i64 0, .slice none 0 0]) (hG : BoxAt V g 26 #[.int .i64 a, .slice av n cv])
    (O : Mem.Own 3 V lo g (.slice av n cv) (ints rs)) (hp : w.heap.size < p) (hpl : p < lo) (hlg : lo ≤ g) (R : Rw V w' B p x l) :
    w'.cell? ⟨g, 0, none⟩ = some (.int .i64 a) ∧ w'.cell? ⟨g, 1, none⟩ = some (.slice av n cv) ∧ w'.cell? ⟨w.heap.size, 0, none⟩ = some (.int .i64 0) ∧ w'.cell? ⟨w.heap.size, 1, none⟩ = some (.slice none 0 0) ∧ w'.frozen? ⟨w.heap.size, 0, none⟩ = false ∧ w'.frozen? ⟨w.heap.size, 1, none⟩ = false ∧
    Mem.Own 3 ((w'.setCell ⟨w.heap.size, 0, none⟩ (.int .i64 a)).setCell ⟨w.heap.size, 1, none⟩ (.slice av n cv)) w.heap.size ((w'.setCell ⟨w.heap.size, 0, none⟩ (.int .i64 a)).setCell ⟨w.heap.size, 1, none⟩ (.slice av n cv)).heap.size (.slice av n cv) (ints rs) ∧
    OwnP 43 ((w'.setCell ⟨w.heap.size, 0, none⟩ (.int .i64 a)).setCell ⟨w.heap.size, 1, none⟩ (.slice av n cv)) w.heap.size ((w'.setCell ⟨w.heap.size, 0, none⟩ (.int .i64 a)).setCell ⟨w.heap.size, 1, none⟩ (.slice av n cv)).heap.size x l ∧
    Below w.heap.size w ((w'.setCell ⟨w.heap.size, 0, none⟩ (.int .i64 a)).setCell ⟨w.heap.size, 1, none⟩ (.slice av n cv)) := by
  have hbV := hB.size
  have hgl := hG.lt
  have hG' := box_apart hG R.ap (by omega)
  have hX' := box_apart hX R.ap (by omega)
  have hO' := O.apart R.ap (.inr (by omega))
  have hz := R.size
  have hBB : Below w.heap.size w w' := hB.trans (R.ap.below (by omega) (by omega))
  refine ⟨hG'.cell 0, hG'.cell 1, hX'.cell 0, hX'.cell 1, hX'.free 0, hX'.free 1, ?_, ?_, (hBB.setCell (p := ⟨w.heap.size, 0, none⟩) (Nat.le_refl _) _).setCell (p := ⟨w.heap.size, 1, none⟩) (Nat.le_refl _) _⟩
  · exact (own_setB (own_setB hO' (q := ⟨w.heap.size, 0, none⟩) (.inl (by show w.heap.size < _; omega)) _) (q := ⟨w.heap.size, 1, none⟩) (.inl (by show w.heap.size < _; omega)) _).mono (by omega) (by simp; omega)
  · have hne : ∀ k, x.ownBlock = some k → k ≠ w.heap.size := fun k hk => by have := (R.own.lt k hk).1; omega
    have h1 : (w'.setCell ⟨w.heap.size, 0, none⟩ (.int .i64 a)).ownsRow V.heap.size 43 2 x l.length (prs l) := rowP_same R.own fun k hk => Below.heap_setCell _ _ _ _ (hne k hk)
    have h2 : ((w'.setCell ⟨w.heap.size, 0, none⟩ (.int .i64 a)).setCell ⟨w.heap.size, 1, none⟩ (.slice av n cv)).ownsRow V.heap.size 43 2 x l.length (prs l) := rowP_same h1 fun k hk => Below.heap_setCell _ _ _ _ (hne k hk)
    exact (OwnP.made h2).mono (by omega) (Nat.le_refl _)
theorem cut_news0 {w : World} {b q : Nat} {l m : List PInt} (hc : ∀ j, j < l.length → w.cell? ⟨b, 0 + j * 2, none⟩ = some (.int .i64 (l.getD j (0, 0)).1) ∧ w.cell? ⟨b, 0 + j * 2 + 1, none⟩ = some (.int .i64 (l.getD j (0, 0)).2))
    (hm : ∀ j, j < m.length → q + j < l.length ∧ l.getD (q + j) (0, 0) = m.getD j (0, 0)) : ∀ (j : Nat) (u : Value), (prs m)[j]? = some u → w.cell? ((⟨b, q * 2, none⟩ : Addr).add j) = some u := by
  have := cut_news (o := 0) hc hm
  rw [Nat.zero_add] at this
  exact this
theorem cells_alloc {w : World} {b o n : Nat} {f : Nat → PInt} {ob : Obj} (hc : ∀ j, j < n → w.cell? ⟨b, o + j * 2, none⟩ = some (.int .i64 (f j).1) ∧ w.cell? ⟨b, o + j * 2 + 1, none⟩ = some (.int .i64 (f j).2)) (hb : b < w.heap.size) :
    ∀ j, j < n → (w.alloc ob).cell? ⟨b, o + j * 2, none⟩ = some (.int .i64 (f j).1) ∧ (w.alloc ob).cell? ⟨b, o + j * 2 + 1, none⟩ = some (.int .i64 (f j).2) :=
  fun j hj => ⟨(World.cell?_alloc_lt w ob ⟨b, o + j * 2, none⟩ hb).trans (hc j hj).1, (World.cell?_alloc_lt w ob ⟨b, o + j * 2 + 1, none⟩ hb).trans (hc j hj).2⟩
theorem Rw.store1 {V w : World} {B p gx m c : Nat} {r0 r1 z : Int} {t : List PInt} (h : Rw V w B p (.slice (some ⟨gx, 0, none⟩) m c) ((r0, r1) :: t)) (hm : ((r0, r1) :: t).length = m) : Rw V (w.setCell ⟨gx, 1, none⟩ (.int .i64 z)) B p (.slice (some ⟨gx, 0, none⟩) m c) ((r0, z) :: t) := by
  have hg := h.own.lt gx rfl
  have hpp := h.hp
  have ho := h.own
  rw [hm] at ho
  have st := ho.stored 1 (.int .i64 z)
  exact ⟨by rw [show ((r0, z) :: t).length = m from hm]; exact st.1, curSet h.cur (q := ⟨gx, 1, none⟩) (by show p < gx; omega) _, apartSet h.ap (q := ⟨gx, 1, none⟩) hg.1 _, h.hp⟩
theorem Rw.drew {V w : World} {B p : Nat} {v : Value} {l : List PInt} (h : Rw V w B p v l) : Rw V w.drew B p v l := ⟨h.own, h.cur.below (Below.refl w.heap.size w).drew h.cur.lt, h.ap.drew, h.hp⟩
theorem cut_len {l : List PInt} {k : Nat} (hk : k < l.length) : (l.take k ++ l.drop (k + 1)).length = k + (l.length - (k + 1)) := by
  rw [List.length_append, List.length_take, List.length_drop]; omega
theorem Rw.cut {V w w3 w4 : World} {B p g1 g2 c1 c2 k m : Nat} {v : Value} {l : List PInt} (h : Rw V w B p v l) (hm : l.length = m) (hk : k < m)
    (o3 : w3.ownsRow w.heap.size 43 2 (.slice (some ⟨g1, 0, none⟩) k c1) k ([] ++ prs (l.take k))) (o4 : w4.ownsRow w.heap.size 43 2 (.slice (some ⟨g2, 0, none⟩) (k + (m - (k + 1))) c2) (k + (m - (k + 1))) ([] ++ prs (l.take k) ++ prs (l.drop (k + 1))))
    (gr3 : (w.alloc (.cells #[] 43)).drew.grownBy w3 (some w.heap.size)) (gr4 : w3.grownBy w4 (some g1)) : Rw V w4 B p (.slice (some ⟨g2, 0, none⟩) (k + (m - (k + 1))) c2) (l.take k ++ l.drop (k + 1)) := by
  have hz := h.size
  have hh := (h.alloc (.cells #[] 43)).drew
  have hg1 := o3.lt g1 rfl
  have hpp := h.hp
  have hle := h.cur.le
  refine ⟨?_, ?_, ?_, h.hp⟩
  · rw [cut_len (by omega), hm, prs_app]
    have := o4
    rw [List.nil_append] at this
    obtain ⟨h1, h2⟩ := this
    refine ⟨h1, ?_⟩
    rcases h2 with h2 | ⟨g, cap, cur, e1, e2, e3⟩
    · exact .inl h2
    · exact .inr ⟨g, cap, cur, e1, by omega, e3⟩
  · exact cur_grown (cur_grown hh.cur gr3 (fun q hq => by cases hq; omega) (fun q hq => by cases hq; omega)) gr4 (fun q hq => by cases hq; omega) (fun q hq => by cases hq; omega)
  · exact Apart.thenGrown2 (Apart.thenGrown2 hh.ap gr3 (fun q hq => by cases hq; exact hz)) gr4 (fun q hq => by cases hq; omega)
theorem clamp {a : Int} (h : a ≤ 7) : ∃ n : Nat, n ≤ 8 ∧ (if (if a < 6 then a else 6) < 0 then (0 : Int) else (if a < 6 then a else 6)) = (n : Int) := by
  by_cases h1 : a < 6
  · rw [if_pos h1]
    by_cases h2 : a < 0
    · exact ⟨0, by omega, by rw [if_pos h2]; rfl⟩
    · rw [if_neg h2]
      obtain ⟨n, rfl⟩ := Int.eq_ofNat_of_zero_le (show 0 ≤ a by omega)
      exact ⟨n, by omega, rfl⟩
  · rw [if_neg h1]
    exact ⟨6, by omega, by simp⟩
set_option maxHeartbeats 6400000 in
theorem l10Case (v : Value) (xs : List Int) (B : Nat) (w : World) (hr : Reads w B v (u8s xs)) (hB : B ≤ w.heap.size) (hx : ∀ j, j < xs.length → 0 ≤ xs.getD j 0 ∧ xs.getD j 0 ≤ 255) (hn : xs.length ≤ 1048576) :
    Calls Try.prog 60 #[v] w fun e w' => ∃ (a : Int) (u : Value) (rs : List Int) (x : Value) (l : List PInt), e = .returned (.tuple #[ctx a u, x]) ∧ rs.length ≤ 9 ∧ l.length ≤ 33 ∧ Own 3 w' w.heap.size w'.heap.size u (ints rs) ∧ OwnP 43 w' w.heap.size w'.heap.size x l ∧ Below w.heap.size w w' := by
  obtain ⟨i0, hinf, hz0, hz1, hz2⟩ := info_parts PRule.infoT
  have HN := Lib.hid (newCur v xs B (w.alloc (.cells #[.int .i64 0, .slice none 0 0] 26)) (hr.below ((Below.refl w.heap.size w).alloc (Nat.le_refl _) _) hB) (by simp; omega) hx hn)
  obtain ⟨_, aa, ca, rfl, hca⟩ := hr
  have e0 : (u8s xs).length = xs.length := by simp [u8s]
  rw [e0] at HN ⊢
  clear hca hx e0
  go_enter Try.func60, Try.ntmps60
  go_wp2_with fail
  refine HN.out.mono ?_
  rintro e w1 ⟨p, rfl, hp, c1, hz, b1⟩
  have hp' : w.heap.size + 1 ≤ p := by simpa using hp
  have hz1w : w.heap.size + 2 ≤ w1.heap.size := by simpa using hz
  have hpl := c1.lt
  have R1 := Lib.hid ((BoxAt.new w 26 #[.int .i64 0, .slice none 0 0]).below b1 (by simp))
  have B1 := Lib.hid (((Below.refl w.heap.size w).alloc (Nat.le_refl _) (.cells #[.int .i64 0, .slice none 0 0] 26)).trans (b1.mono (by simp)))
  clear b1 hp hz HN
  go_wp2_with fail
  refine (l3Bent B p _ c1).mono ?_
  rintro e w2 ⟨a, u, rs, rfl, ha1, ha7, hl9, o, c2, a2⟩
  obtain ⟨av, cv, rfl⟩ := own_form o
  have hz2w := a2.size
  have X2 := Lib.hid ((boxA R1.out a2 (.inl (by omega))).alloc (.cells #[.int .i64 a, .slice av rs.length cv] 26))
  have B2 := Lib.hid ((B1.out.trans (a2.below (B := w.heap.size) (by omega) (by omega))).alloc (by omega : w.heap.size ≤ w2.heap.size) (.cells #[.int .i64 a, .slice av rs.length cv] 26))
  have G2 := Lib.hid (BoxAt.new w2 26 #[.int .i64 a, .slice av rs.length cv])
  have O2 := Lib.hid (o.below ((Below.refl w2.heap.size w2).alloc (Nat.le_refl _) (.cells #[.int .i64 a, .slice av rs.length cv] 26)) (Nat.le_refl _))
  have C2 := Lib.hid (c2.alloc (.cells #[.int .i64 a, .slice av rs.length cv] 26))
  have hg0 : w2.heap.size < (w2.alloc (.cells #[.int .i64 a, .slice av rs.length cv] 26)).heap.size := by simp
  have HL9 := Lib.hid hl9
  clear o c2 a2 c1 hl9 R1 B1
  go_upto_region 3 with fail
  generalize w2.alloc (.cells #[.int .i64 a, .slice av rs.length cv] 26) = V at X2 B2 G2 O2 C2 hg0 ⊢
  have HS := Lib.hid (Stem.spec_stem a (.slice av rs.length cv) rs V.heap.size V (O2.out.reads.mono (by omega)) (Nat.le_refl _))
  have hsl := Stem.stemBase_len a rs
  generalize Stem.stemBase a rs = l at HS hsl
  have HE : Hid (∀ (w' : World) (x : Value) (l : List PInt), Rw V w' B p x l → _) := Lib.hid fun w' x l R => case_end B2.out X2.out G2.out O2.out (by omega) (by omega) hz2w R
  have HG2 := Lib.hid fun (w' : World) (x : Value) (l : List PInt) (R : Rw V w' B p x l) => ((box_apart G2.out R.ap (by omega)).cell 0 : w'.cell? ⟨w2.heap.size, 0, none⟩ = some (.int .i64 a))
  have g0 : V.cell? ⟨w2.heap.size, 0, none⟩ = some (.int .i64 a) := G2.out.cell 0
  have g1 : V.cell? ⟨w2.heap.size, 1, none⟩ = some (.slice av rs.length cv) := G2.out.cell 1
  go_wp2_with fail
  refine HS.out.mono ?_
  rintro e w3 ⟨x, rfl, o3, b3⟩
  have HR3 : Hid (Rw V w3 B p x l) := Lib.hid ⟨o3.1, C2.out.below b3 C2.out.lt, Apart.of_below b3 (Nat.le_refl _), C2.out.lt⟩
  obtain ⟨m, hm⟩ : ∃ m, l.length = m := ⟨_, rfl⟩
  obtain ⟨x0, cx, rfl⟩ := o3.form
  rw [hm] at HR3 hsl ⊢
  have HM := Lib.hid hm
  have HCA : Hid (m ≤ cx) := Lib.hid (by rcases o3.1.2 with ⟨hv, _⟩ | ⟨g, cap, cur, hv, _, _, hn, _⟩ <;> (injection hv with e1 e2 e3; omega))
  clear hm o3 b3 HS g0 g1
  go_wp2_with fail
  refine (l1Below B p 5 _ HR3.out.cur (by omega) (by omega)).mono ?_
  rintro e w4 ⟨c, rfl, hc5, c4, a4⟩
  have HR4 := Lib.hid (HR3.out.turn c4 a4)
  clear c4 a4 HR3
  have hc : c = 0 ∨ c = 1 ∨ c = 2 ∨ c = 3 ∨ c = 4 := by omega
  clear hc5
  rcases hc with rfl | rfl | rfl | rfl | rfl
  · by_cases hm0 : m = 0
    · subst hm0
      obtain ⟨f0, f1, f2, f3, f4, f5, f6, f7, f8⟩ := HE.out _ _ _ HR4.out
      have H6 := Lib.hid f6
      have H7 := Lib.hid f7
      have H8 := Lib.hid f8
      clear f6 f7 f8
      go_wp2_with fail
      refine bodyPost_ret (v := .tuple #[ctx a (.slice av rs.length cv), _]) (by simp [results, Try.results60, go_sem, f2, f3]) rfl ⟨a, _, rs, _, _, rfl, HL9.out, ?_, H6.out, H7.out, H8.out⟩
      show l.length ≤ 33; have := HM.out; omega
    · have hm1 : 0 < m := by omega
      obtain ⟨gx, rfl⟩ : ∃ gx, x0 = some ⟨gx, 0, none⟩ := by
        rcases HR4.out.own.2 with ⟨hv, _⟩ | ⟨g, cap, cur, hv, _⟩
        · injection hv with e1 e2 e3; omega
        · injection hv with e1 e2 e3; exact ⟨g, e1⟩
      clear HG2
      go_wp2_with fail
      refine (l1Below B p m _ HR4.out.cur (by omega) (by omega)).mono ?_
      rintro e w5 ⟨k, rfl, hk, c5, a5⟩
      have HR5 := Lib.hid (HR4.out.turn c5 a5)
      clear c5 a5 HR4
      have hcs : ∀ j, j < l.length → w5.cell? ⟨gx, 0 + j * 2, none⟩ = some (.int .i64 (l.getD j (0, 0)).1) ∧ w5.cell? ⟨gx, 0 + j * 2 + 1, none⟩ = some (.int .i64 (l.getD j (0, 0)).2) := fun j hj => by
        have hp := prs_get l j hj
        have ho := HR5.out.own
        rw [HM.out] at ho hj
        rw [Nat.zero_add]
        exact ⟨(ho.cellAt (j * 2) (by omega)).trans hp.1, (ho.cellAt (j * 2 + 1) (by omega)).trans hp.2⟩
      have hgx : gx < w5.heap.size := (HR5.out.own.lt gx rfl).2
      have hml := HM.out
      have HN1 := Lib.hid (cut_news (w := (w5.alloc (.cells #[] 43))) (q := 0) (m := l.take k) (cells_alloc (f := fun j => l.getD j (0, 0)) hcs hgx) (take_at (by omega)))
      rw [Nat.zero_mul, Nat.add_zero] at HN1
      have HL0 := Lib.hid (World.ownsRow_lit (e := 43) (size := 2) w5 #[] 0 (Nat.le_refl _) (Nat.zero_le _) rfl)
      have HT1 : Hid ((prs (l.take k)).length = k * 2) := Lib.hid (by rw [prs_length, List.length_take]; omega)
      have HT2 : Hid ((prs (l.drop (k + 1))).length = (m - (k + 1)) * 2) := Lib.hid (by rw [prs_length, List.length_drop, hml])
      have M1 : Hid (0 + k ≤ maxLen) := Lib.hid (by unfold maxLen; omega)
      have M2 : Hid ((0 + k) * 16 ≤ 140737488355328) := Lib.hid (by omega)
      have M3 : Hid (k + (m - (k + 1)) ≤ maxLen) := Lib.hid (by unfold maxLen; omega)
      have M4 : Hid ((k + (m - (k + 1))) * 16 ≤ 140737488355328) := Lib.hid (by omega)
      have hz0p : w5.heap.size ≤ (w5.alloc (.cells #[] 43)).drew.heap.size := (Below.refl 0 w5 |>.alloc (Nat.zero_le _) (.cells #[] 43)).size
      have HK := Lib.hid hk
      have hmc := HCA.out
      have hkc : k ≤ cx := by omega
      have hkc1 : k + 1 ≤ cx := by omega
      have hkl1 : k + 1 ≤ m := hk
      have hwr : IntKind.i64.wrap ((k : Int) + 1) = (k : Int) + 1 := by rw [IntKind.wrap_i64]; omega
      have htn : ((k : Int) + 1).toNat = k + 1 := by omega
      have hi0 : (0 : Int) ≤ (k : Int) + 1 := by omega
      have hi1 : (k : Int) + 1 ≤ (m : Int) := by omega
      have hi2 : (k : Int) ≤ (k : Int) + 1 := by omega
      clear hml
      go_wp2_with fail
      as_aux_lemma =>
        by_cases hqk : cx = k + 1
        · have hdr : l.drop (k + 1) = [] := List.drop_of_length_le (by have := HM.out; omega)
          have hm2 : m - (k + 1) = 0 := by omega
          rw [hm2] at HT2 M3 M4
          go_wp2_with fail
          go_region_law (first | (refine step_append_at (w := (w5.alloc (.cells #[] 43)).drew) (by rfl) _ _ _ (by rfl) w5.heap.size 43 i0 (.agg #[.int .i64 0, .int .i64 0]) 2 16 Try.underlying28 hinf hz0 hz1 hz2 rfl (by decide) w5.heap.size 0 0 [] (by rfl) HL0.out ⟨gx, 0, none⟩ k _ (prs (l.take k)) (by rfl) HT1.out HN1.out (prs_one _) M1.out M2.out hz0p ?_; intro ga capa wa own3 grow3; rw [Nat.zero_add] at own3) | (refine step_append_at (w := wa) (by rfl) _ _ _ (by rfl) w5.heap.size 43 i0 (.agg #[.int .i64 0, .int .i64 0]) 2 16 Try.underlying28 hinf hz0 hz1 hz2 rfl (by decide) ga capa k ([] ++ prs (l.take k)) (by rfl) own3 ⟨gx, 0, none⟩ 0 _ (prs (l.drop (k + 1))) (by rfl) HT2.out (fun j u hj => by rw [hdr] at hj; simp [prs] at hj) (prs_one _) M3.out M4.out (Nat.le_trans hz0p grow3.size) ?_; intro gb capb wb own4 grow4; rw [Nat.add_zero] at own4) | fail)
          simp only [Act.put, List.getElem_toArray, List.getElem_cons_succ, List.getElem_cons_zero, List.setIfInBounds_toArray, List.set_cons_zero, List.set_cons_succ]
          have HR6 := Lib.hid (HR5.out.cut HM.out HK.out own3 (by rw [hm2, Nat.add_zero]; exact own4) grow3 grow4)
          rw [hm2, Nat.add_zero] at HR6
          clear own3 own4 grow3 grow4 HN1 HL0 HT1 HT2 M1 M2 M3 M4 hz0p hwr htn hi0 hi1 hi2 hkc hkc1 hkl1
          obtain ⟨f0, f1, f2, f3, f4, f5, f6, f7, f8⟩ := HE.out _ _ _ HR6.out
          have H6 := Lib.hid f6
          have H7 := Lib.hid f7
          have H8 := Lib.hid f8
          clear f6 f7 f8
          go_wp2_with fail
          refine bodyPost_ret (v := .tuple #[ctx a (.slice av rs.length cv), _]) (by simp [results, Try.results60, go_sem, f2, f3]) rfl ⟨a, _, rs, _, _, rfl, HL9.out, ?_, H6.out, H7.out, H8.out⟩
          show (l.take k ++ l.drop (k + 1)).length ≤ 33; rw [cut_len (by have := HM.out; omega)]; have := HM.out; omega
        · have hqk2 : ¬ k + 1 = cx := fun h => hqk h.symm
          go_wp2_with fail
          go_region_law (first | (refine step_append_at (w := (w5.alloc (.cells #[] 43)).drew) (by rfl) _ _ _ (by rfl) w5.heap.size 43 i0 (.agg #[.int .i64 0, .int .i64 0]) 2 16 Try.underlying28 hinf hz0 hz1 hz2 rfl (by decide) w5.heap.size 0 0 [] (by rfl) HL0.out ⟨gx, 0, none⟩ k _ (prs (l.take k)) (by rfl) HT1.out HN1.out (prs_one _) M1.out M2.out hz0p ?_; intro ga capa wa own3 grow3; rw [Nat.zero_add] at own3) | (refine step_append_at (w := wa) (by rfl) _ _ _ (by rfl) w5.heap.size 43 i0 (.agg #[.int .i64 0, .int .i64 0]) 2 16 Try.underlying28 hinf hz0 hz1 hz2 rfl (by decide) ga capa k ([] ++ prs (l.take k)) (by rfl) own3 ⟨gx, (k + 1) * 2, none⟩ (m - (k + 1)) _ (prs (l.drop (k + 1))) (by rfl) HT2.out (cut_news0 (q := k + 1) (cells_grown (w := (w5.alloc (.cells #[] 43)).drew) (f := fun j => l.getD j (0, 0)) (cells_alloc (f := fun j => l.getD j (0, 0)) hcs hgx) grow3 (by show gx < (w5.alloc _).heap.size; simp; omega) (by intro he; injection he; omega)) drop_at) (prs_one _) M3.out M4.out (Nat.le_trans hz0p grow3.size) ?_; intro gb capb wb own4 grow4) | fail)
          simp only [Act.put, List.getElem_toArray, List.getElem_cons_succ, List.getElem_cons_zero, List.setIfInBounds_toArray, List.set_cons_zero, List.set_cons_succ]
          have HR6 := Lib.hid (HR5.out.cut HM.out HK.out own3 own4 grow3 grow4)
          clear own3 own4 grow3 grow4 HN1 HL0 HT1 HT2 M1 M2 M3 M4 hz0p hwr htn hi0 hi1 hi2 hkc hkc1 hkl1
          obtain ⟨f0, f1, f2, f3, f4, f5, f6, f7, f8⟩ := HE.out _ _ _ HR6.out
          have H6 := Lib.hid f6
          have H7 := Lib.hid f7
          have H8 := Lib.hid f8
          clear f6 f7 f8
          go_wp2_with fail
          refine bodyPost_ret (v := .tuple #[ctx a (.slice av rs.length cv), _]) (by simp [results, Try.results60, go_sem, f2, f3]) rfl ⟨a, _, rs, _, _, rfl, HL9.out, ?_, H6.out, H7.out, H8.out⟩
          show (l.take k ++ l.drop (k + 1)).length ≤ 33; rw [cut_len (by have := HM.out; omega)]; have := HM.out; omega
  · have ga := HG2.out _ _ _ HR4.out
    obtain ⟨n, hn8, hcl⟩ := clamp ha7
    have HL1 := Lib.hid fun w => l1Min a 6 w
    have HL2 := Lib.hid fun w => l1Max 0 (if a < 6 then a else 6) w
    rw [hcl] at HL2
    clear hcl
    generalize (if a < 6 then a else 6) = b6 at HL1 HL2
    go_wp2_with fail
    refine (HL1.out _).mono ?_
    rintro e w' ⟨rfl, hw⟩
    subst w'
    go_wp2_with fail
    refine (HL2.out _).mono ?_
    rintro e w' ⟨rfl, hw⟩
    subst w'
    go_wp2_with fail
    refine (l9Make B p n _ HR4.out.cur hn8).mono ?_
    rintro e w5 ⟨x1, y1, rfl, -, -, c5, a5⟩
    have HR5 := Lib.hid (HR4.out.turn c5 a5)
    have hs5 := HR5.out.size
    clear c5 a5 HR4
    have hpl5 : Hid (w5.ownsRow V.heap.size 43 2 (.slice x0 m cx) m (prs l)) := Lib.hid (by have := HR5.out.own; rwa [HM.out] at this)
    go_wp2_with (at_builtin; refine wpList_append_lies _ rfl _ _ _ rfl V.heap.size 43 i0 (.agg #[.int .i64 0, .int .i64 0]) 2 16 Try.underlying28 hinf hz0 hz1 hz2 rfl (by decide) _ m _ rfl (hpl5.out.alloc _) ⟨w5.heap.size, 0, none⟩ 1 1 (prs [((x1 : Int), (y1 : Int))]) rfl rfl (newsR2 _ _ _ _) (oneR2 _) Nat.one_pos (by unfold maxLen; omega) (by omega) (by simp; omega) _ rfl ?_)
    intro g cap w6 hown6 hgrow hat hlt6
    have HR6 := Lib.hid ((HR5.out.alloc (.cells #[.int .i64 x1, .int .i64 y1] 43)).grown hgrow (by have := HM.out; omega : m + 1 = l.length + 1) hown6)
    clear hown6 hgrow hat hlt6
    obtain ⟨f0, f1, f2, f3, f4, f5, f6, f7, f8⟩ := HE.out _ _ _ HR6.out
    have H6 := Lib.hid f6
    have H7 := Lib.hid f7
    have H8 := Lib.hid f8
    clear f6 f7 f8
    go_wp2_with fail
    refine bodyPost_ret (v := .tuple #[ctx a (.slice av rs.length cv), _]) (by simp [results, Try.results60, go_sem, f2, f3]) rfl ⟨a, _, rs, _, _, rfl, HL9.out, ?_, H6.out, H7.out, H8.out⟩
    show (l ++ [((x1 : Int), (y1 : Int))]).length ≤ 33; have := HM.out; simp; omega
  · by_cases hm0 : m = 0
    · subst hm0
      obtain ⟨f0, f1, f2, f3, f4, f5, f6, f7, f8⟩ := HE.out _ _ _ HR4.out
      have H6 := Lib.hid f6
      have H7 := Lib.hid f7
      have H8 := Lib.hid f8
      clear f6 f7 f8
      go_wp2_with fail
      refine bodyPost_ret (v := .tuple #[ctx a (.slice av rs.length cv), _]) (by simp [results, Try.results60, go_sem, f2, f3]) rfl ⟨a, _, rs, _, _, rfl, HL9.out, ?_, H6.out, H7.out, H8.out⟩
      show l.length ≤ 33; have := HM.out; omega
    · have hm1 : 0 < m := by omega
      obtain ⟨⟨r0, r1⟩, t, rfl⟩ : ∃ r t, l = r :: t := by
        cases l with
        | nil => have := HM.out; simp at this; omega
        | cons r t => exact ⟨r, t, rfl⟩
      obtain ⟨gx, rfl⟩ : ∃ gx, x0 = some ⟨gx, 0, none⟩ := by
        rcases HR4.out.own.2 with ⟨hv, _⟩ | ⟨g, cap, cur, hv, _⟩
        · injection hv with e1 e2 e3; omega
        · injection hv with e1 e2 e3; exact ⟨g, e1⟩
      have ho4 := HR4.out.own
      rw [HM.out] at ho4
      have c0 : w4.cell? ⟨gx, 0, none⟩ = some (.int .i64 r0) := ho4.cellAt 0 (by omega)
      have c1 : w4.cell? ⟨gx, 1, none⟩ = some (.int .i64 r1) := ho4.cellAt 1 (by omega)
      have f1 : w4.frozen? ⟨gx, 1, none⟩ = false := ho4.frozenAt _
      clear ho4
      have hST := Lib.hid fun z => (HR4.out.store1 (z := z) HM.out).drew
      go_wp2_with fail
      go_region
      clear c0 c1 f1
      have HR5 := Lib.hid (hST.out (wrap64 (r1 - bits BinOp.and IntKind.i64 r0 r1)))
      clear hST
      generalize wrap64 (r1 - bits BinOp.and IntKind.i64 r0 r1) = z at HR5 ⊢
      generalize (w4.setCell ⟨gx, 1, none⟩ (.int .i64 z)).drew = w5 at HR5 ⊢
      obtain ⟨f0, f1, f2, f3, f4, f5, f6, f7, f8⟩ := HE.out _ _ _ HR5.out
      have H6 := Lib.hid f6
      have H7 := Lib.hid f7
      have H8 := Lib.hid f8
      clear f6 f7 f8
      go_wp2_with fail
      refine bodyPost_ret (v := .tuple #[ctx a (.slice av rs.length cv), _]) (by simp [results, Try.results60, go_sem, f2, f3]) rfl ⟨a, _, rs, _, _, rfl, HL9.out, ?_, H6.out, H7.out, H8.out⟩
      show List.length (_ :: t) ≤ 33; have := HM.out; simp at this ⊢; omega
  · clear HG2
    obtain ⟨f0, f1, f2, f3, f4, f5, f6, f7, f8⟩ := HE.out _ _ _ HR4.out
    have H6 := Lib.hid f6
    have H7 := Lib.hid f7
    have H8 := Lib.hid f8
    clear f6 f7 f8
    go_wp2_with fail
    refine bodyPost_ret (v := .tuple #[ctx a (.slice av rs.length cv), _]) (by simp [results, Try.results60, go_sem, f2, f3]) rfl ⟨a, _, rs, _, _, rfl, HL9.out, ?_, H6.out, H7.out, H8.out⟩
    show l.length ≤ 33; have := HM.out; omega
  · clear HG2
    obtain ⟨f0, f1, f2, f3, f4, f5, f6, f7, f8⟩ := HE.out _ _ _ HR4.out
    have H6 := Lib.hid f6
    have H7 := Lib.hid f7
    have H8 := Lib.hid f8
    clear f6 f7 f8
    go_wp2_with fail
    refine bodyPost_ret (v := .tuple #[ctx a (.slice av rs.length cv), _]) (by simp [results, Try.results60, go_sem, f2, f3]) rfl ⟨a, _, rs, _, _, rfl, HL9.out, ?_, H6.out, H7.out, H8.out⟩
    show l.length ≤ 33; have := HM.out; omega
set_option maxHeartbeats 1600000 in
theorem DrawIsBase (v : Value) (xs : List Int) (B : Nat) (w : World) (hr : Reads w B v (u8s xs)) (hB : B ≤ w.heap.size) (hx : ∀ j, j < xs.length → 0 ≤ xs.getD j 0 ∧ xs.getD j 0 ≤ 255) (hn : xs.length ≤ 1048576) :
    Calls Try.prog 14 #[v] w fun e w' => ∃ (a : Int) (u : Value) (rs : List Int) (x : Value) (l : List PInt), e = .returned (.tuple #[ctx a u, x]) ∧ rs.length ≤ 9 ∧ l.length ≤ 33 ∧ Own 3 w' w.heap.size w'.heap.size u (ints rs) ∧ OwnP 43 w' w.heap.size w'.heap.size x l ∧ Below w.heap.size w w' := by
  have HN := Lib.hid (l10Case v xs B (w.alloc (.cells #[.int .i64 0, .slice none 0 0] 26)) (hr.below ((Below.refl w.heap.size w).alloc (Nat.le_refl _) _) hB) (by simp; omega) hx hn)
  obtain ⟨_, aa, ca, rfl, hca⟩ := hr
  have e0 : (u8s xs).length = xs.length := by simp [u8s]
  rw [e0] at HN ⊢
  clear hca hx e0
  go_enter Try.func14, Try.ntmps14
  go_wp2_with fail
  refine HN.out.mono ?_
  rintro e w1 ⟨a, u, rs, x, l, rfl, h9, h33, o, op, b⟩
  obtain ⟨av, cv, rfl⟩ := own_form o
  have hz := b.size
  have hz1 : w.heap.size + 1 ≤ w1.heap.size := by simpa using hz
  have X1 := Lib.hid ((BoxAt.new w 26 #[.int .i64 0, .slice none 0 0]).below b (by simp))
  have BB := Lib.hid (((Below.refl w.heap.size w).alloc (Nat.le_refl _) (.cells #[.int .i64 0, .slice none 0 0] 26)).trans (b.mono (by simp)))
  have O1 := Lib.hid o
  have P1 := Lib.hid op
  have L9 := Lib.hid h9
  have L33 := Lib.hid h33
  have hx1 := X1.out.alloc (.cells #[.int .i64 a, .slice av rs.length cv] 26)
  have hg1 := BoxAt.new w1 26 #[.int .i64 a, .slice av rs.length cv]
  have o2 := O1.out.below ((Below.refl w1.heap.size w1).alloc (Nat.le_refl _) (.cells #[.int .i64 a, .slice av rs.length cv] 26)) (Nat.le_refl _)
  have p2 := P1.out.below ((Below.refl w1.heap.size w1).alloc (Nat.le_refl _) (.cells #[.int .i64 a, .slice av rs.length cv] 26)) (Nat.le_refl _)
  have b2 := BB.out.alloc (show w.heap.size ≤ w1.heap.size by omega) (.cells #[.int .i64 a, .slice av rs.length cv] 26)
  have hz2 : w1.heap.size ≤ (w1.alloc (.cells #[.int .i64 a, .slice av rs.length cv] 26)).heap.size := by simp
  clear o op b h9 h33 hz X1 O1 P1 BB
  go_upto_region 2 with fail
  generalize w1.alloc (.cells #[.int .i64 a, .slice av rs.length cv] 26) = w2 at hx1 hg1 o2 p2 b2 hz2 ⊢
  have e0 : w2.cell? ⟨w.heap.size, 0, none⟩ = some (.int .i64 0) := hx1.cell 0
  have e1 : w2.cell? ⟨w.heap.size, 1, none⟩ = some (.slice none 0 0) := hx1.cell 1
  have f0 := hx1.free 0
  have f1 := hx1.free 1
  have g0 : w2.cell? ⟨w1.heap.size, 0, none⟩ = some (.int .i64 a) := hg1.cell 0
  have g1 : w2.cell? ⟨w1.heap.size, 1, none⟩ = some (.slice av rs.length cv) := hg1.cell 1
  have O2 := Lib.hid o2
  have P2 := Lib.hid p2
  have B2 := Lib.hid b2
  clear hx1 hg1 o2 p2 b2
  go_wp2_with fail
  refine bodyPost_ret (v := .tuple #[ctx a (.slice av rs.length cv), x]) (by simp [results, Try.results14, go_sem, e0, e1]) rfl ⟨a, _, rs, _, l, rfl, L9.out, L33.out, ?_, ?_, ((B2.out.setCell (p := ⟨w.heap.size, 0, none⟩) (Nat.le_refl _) _).setCell (p := ⟨w.heap.size, 1, none⟩) (Nat.le_refl _) _)⟩
  · exact (own_setB (own_setB O2.out (q := ⟨w.heap.size, 0, none⟩) (.inl (by show w.heap.size < _; simp)) _) (q := ⟨w.heap.size, 1, none⟩) (.inl (by show w.heap.size < _; simp)) _).mono (by simp) (by simp; omega)
  · have hne : ∀ k, x.ownBlock = some k → k ≠ w.heap.size := fun k hk => by have := (P2.out.1.lt k hk).1; simp at this; omega
    exact (OwnP.made (rowP_same (rowP_same P2.out.1 fun k hk => Below.heap_setCell _ _ _ _ (hne k hk)) fun k hk => Below.heap_setCell _ _ _ _ (hne k hk))).mono (by simp) (Nat.le_refl _)
end Go.Proofs.Ythodmmckekgkdaa.Draw
