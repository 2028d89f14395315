/-
  SortLectic of the model: insertion into a row of its own.
-/
import Derived.Test.YthodmmckekgkdaaAllSets
import Derived.Test.YthodmmckekgkdaaMrg1
import Derived.Deep.RegionLaw
import Derived.Deep.DrawnRows
import Derived.Deep.QuietTactic
import Derived.BigQuiet
import Derived.Maps.AppendAt
namespace Go.Proofs.Ythodmmckekgkdaa.SortL
open Go Go.RowKit Mem Sets Sets2 Lectic
set_option maxRecDepth 100000
attribute [local go_sem ↓] Go.wp_at_zero Go.wp_at_succ

/-- append onto a row of one's own that is not nil, in a region that draws: the new value written out. -/
theorem step_append_some {P : Program} {ops : Array Oper} {o : Oper} {a : Act} {w : World} {K : Act → World → Prop} {Q : Exit → Act → World → Prop} {E : Prop} (hgd : o.guard = none) (s x : Operand) (t : TypeId)
    (ho : o.op = .call { callee := .builtin .append, args := #[s, x], argTypes := #[t, t] })
    (base : Nat) (e : TypeId) (i : TypeInfo) (z : Value) (bytes : Nat) (ht : P.underlying t = some (.slice e)) (hi : P.info? e = some i) (hz : i.zero = some z) (hsize : i.size = 1) (hby : i.bytes = bytes) (hzs : z.cells.size = 1)
    (g0 c0 n : Nat) (xs : List Value) (hs : a.eval s = .slice (some ⟨g0, 0, none⟩) n c0) (hown : w.ownsRow base e 1 (.slice (some ⟨g0, 0, none⟩) n c0) n xs)
    (ad : Addr) (m c : Nat) (news : List Value) (hx : a.eval x = .slice (some ad) m c) (hl : news.length = m) (hnews : ∀ j u, news[j]? = some u → w.cell? (ad.add j) = some u) (h1 : ∀ u ∈ news, u.oneCell' = true)
    (h63 : n + m ≤ maxLen) (hbytes : (n + m) * bytes ≤ 140737488355328) (hbase : base ≤ w.heap.size)
    (h : ∀ g cap w', w'.ownsRow base e 1 (.slice (some ⟨g, 0, none⟩) (n + m) cap) (n + m) (xs ++ news) → w.grownBy w' (some g0) → K (a.put o.dst (.slice (some ⟨g, 0, none⟩) (n + m) cap)) w') :
    if Region.wanted o (yielded ops a.tmps) = true then Oper.wp P o a w K Q else E := by
  have hw : Region.wanted o (yielded ops a.tmps) = true := by simp [Region.wanted, hgd]
  rw [if_pos hw]
  obtain ⟨v', w', hr, h2, h3, h4, h5⟩ := run_append_own_at (P := P) w base t o.type e i z 1 bytes ht hi hz hsize hby hzs Nat.one_pos _ n xs hown ad m c news (by simpa using hl) hnews h1 h63 hbytes hbase
  have hne : v' ≠ .slice none 0 0 := fun hv => by have := (h4.1 hv).1; cases this
  rcases h2.2 with ⟨rfl, _⟩ | ⟨g, cap, cur, rfl, _⟩
  · exact absurd rfl hne
  · unfold Oper.wp execOp
    simp only [ho, resolve, invoke, builtin, Sem.run_bind, Sem.run_pure, Result.andThen_ok, List.map_toArray, List.map_cons, List.map_nil, hs, hx, hr]
    exact h g cap w' h2 h3

theorem owns_prefix {w : World} {base g n cap m : Nat} {e : TypeId} {xs : List Value} (h : w.ownsRow base e 1 (.slice (some ⟨g, 0, none⟩) n cap) n xs) (hm : m ≤ n) : w.ownsRow base e 1 (.slice (some ⟨g, 0, none⟩) m cap) m (xs.take m) := by
  obtain ⟨h1, h2⟩ := h
  rcases h2 with ⟨h2, _⟩ | ⟨g', cap', cur, hv, hb, hk, hn, hc, hs, ht⟩
  · cases h2
  · cases hv
    refine ⟨by rw [List.length_take]; omega, .inr ⟨_, _, cur, rfl, hb, hk, by omega, hc, hs, ?_⟩⟩
    rw [← ht, List.take_take]
    congr 1
    omega
theorem owns_cap {w : World} {base g n cap : Nat} {e : TypeId} {xs : List Value} (h : w.ownsRow base e 1 (.slice (some ⟨g, 0, none⟩) n cap) n xs) : n ≤ cap ∧ cap ≤ 9223372036854775807 := by
  rcases h.2 with ⟨h2, _⟩ | ⟨g', cap', cur, hv, hb, hk, hn, hc, hs, ht⟩
  · cases h2
  · cases hv
    unfold maxLen at hc
    exact ⟨hn, hc⟩
theorem owns_drew {w : World} {base n : Nat} {e : TypeId} {v : Value} {xs : List Value} (h : w.ownsRow base e 1 v n xs) : w.drew.ownsRow base e 1 v n xs := h
theorem news1 (w : World) (x : Value) (t : TypeId) : ∀ (j : Nat) (u : Value), [x][j]? = some u → (w.alloc (.cells #[x] t)).cell? ((⟨w.heap.size, 0, none⟩ : Addr).add j) = some u := by
  intro j u hj
  match j, hj with
  | 0, hj => simp at hj; subst hj; simp [Addr.add]
theorem one1 (k : IntKind) (x : Int) : ∀ u ∈ [Value.int k x], u.oneCell' = true := by intro u hu; simp at hu; subst hu; rfl
theorem place_eq {l : List Int} {x : Int} {k : Nat} (hk : k ≤ l.length) (h : ∀ j, j < k → before (l.getD j 0) x = true) (he : k = l.length ∨ before (l.getD k 0) x = false) : place l x = k := by
  unfold place
  induction l generalizing k with
  | nil => simp at hk; subst hk; rfl
  | cons y l ih =>
    cases k with
    | zero =>
      rcases he with he | he
      · simp at he
      · have : before y x = false := by simpa using he
        simp [this]
    | succ k =>
      have hy : before y x = true := by simpa using h 0 (by omega)
      simp only [List.takeWhile_cons, hy, if_true, List.length_cons]
      rw [ih (k := k) (by simpa using hk) (fun j hj => by simpa using h (j + 1) (by omega)) (by
        rcases he with he | he
        · exact .inl (by simpa using he)
        · exact .inr (by simpa using he))]
theorem allSets_at {xs : List Int} (h : allSets xs = true) (k : Nat) : 0 ≤ xs.getD k 0 ∧ xs.getD k 0 ≤ 255 := by
  by_cases hk : k < xs.length
  · have := List.all_eq_true.1 h (xs.getD k 0) (mem_at hk)
    rw [isSet8] at this
    simpa using this
  · simp [List.getElem?_eq_none (by omega : xs.length ≤ k)]

set_option maxHeartbeats 2000000 in
theorem spec_sort (v : Value) (rs : List Int) (B : Nat) (w : World) (hr : Reads w B v (ints rs)) (hB : B ≤ w.heap.size) (hn : rs.length ≤ 1048576) :
    Calls Try.prog 84 #[v] w fun e w' => ∃ u, e = .returned u ∧ Own 3 w' w.heap.size w'.heap.size u (ints (sortLectic rs)) ∧ Below w.heap.size w w' := by
  obtain ⟨i0, hi, hz0, hz1, hz2⟩ := info_parts Ints.info
  have HA := Lib.hid (fun w' h => l2Sets v rs B w' h)
  have HR := Lib.hid hr
  obtain ⟨hl, aa, ca, rfl, hca⟩ := hr
  simp only [ints, List.length_map] at hl hca HA HR ⊢
  have HC := Lib.hid hca
  clear hl hca
  cases hs : allSets rs with
  | false =>
    have HX := Lib.hid (show sortLectic rs = [] by rw [allSets] at hs; simp [sortLectic, hs])
    go_enter Try.func84, Try.ntmps84
    go_wp2_with fail
    refine (HA.out _ (HR.out.below ((Below.refl w.heap.size w).alloc (Nat.le_refl _) _) hB)).mono ?_
    rintro e w' ⟨rfl, rfl⟩
    rw [hs]
    go_wp2_with fail
    go_ret
    exact ⟨_, rfl, by rw [HX.out]; exact Own.made (World.ownsRow_lit w #[] 0 (Nat.le_refl _) (Nat.zero_le _) rfl), (Below.refl _ _).alloc (Nat.le_refl _) _⟩
  | true =>
    have HX := Lib.hid (show sortLectic rs = sortTo rs rs.length by rw [allSets] at hs; simp [sortLectic, hs])
    have HS := Lib.hid (allSets_at hs)
    have HSS := Lib.hid hs
    clear hs
    go_enter Try.func84, Try.ntmps84
    go_wp2_with fail
    refine (HA.out _ (HR.out.below ((Below.refl w.heap.size w).alloc (Nat.le_refl _) _) hB)).mono ?_
    rintro e w' ⟨rfl, rfl⟩
    rw [HSS.out]
    go_wp2_with fail
    go_loopw [3, 4] (fun v i wr => ∃ (k m g cap : Nat), k ≤ rs.length ∧ i = .int .i64 k ∧ v = .slice (some ⟨g, 0, none⟩) m cap ∧ m ≤ k ∧ Hid (m = (sortTo rs k).length) ∧ Hid (wr.ownsRow w.heap.size 3 1 (.slice (some ⟨g, 0, none⟩) m cap) m (ints (sortTo rs k))) ∧ Hid (Below w.heap.size w wr)) (fun _ i _ => rs.length - (intOf i).toNat)
    case atStart => exact ⟨0, 0, w.heap.size, 0, Nat.zero_le _, rfl, rfl, Nat.le_refl _, Lib.hid (by simp [sortTo]), Lib.hid (World.ownsRow_lit w #[] 0 (Nat.le_refl _) (Nat.zero_le _) rfl), Lib.hid ((Below.refl _ _).alloc (Nat.le_refl _) _)⟩
    case round =>
      obtain ⟨k, m, g, cap, hk, rfl, rfl, hmk, HM, hown, hbel⟩ := hrel
      have hzr : w.heap.size ≤ wr.heap.size := hbel.out.size
      by_cases hlt : k < rs.length
      · obtain ⟨b, o, rfl, hb, gca⟩ := HC.out (by intro h; simp at h; subst h; simp at hlt)
        have ce : wr.cell? ⟨b, o + k, none⟩ = some (.int .i64 (rs.getD k 0)) := by
          rw [hbel.out.cell (p := ⟨b, o + k, none⟩) (by show b < _; omega), gca k hlt, ints_get rs k hlt]
        have HST := Lib.hid (sortTo_step rs k hlt)
        have hx := HS.out k
        clear gca
        generalize rs.getD k 0 = x at ce HST hx
        generalize hgo : sortTo rs k = out at HM hown HST
        have RO := Lib.hid (Own.made hown.out).reads
        go_wp2_with fail
        refine (l2In _ out x wr.heap.size wr (by have := RO.out; rwa [ints] at this)).mono ?_
        rintro e wo ⟨rfl, rfl⟩
        by_cases hin : x ∈ out
        · rw [decide_eq_true hin]
          have HI := Lib.hid (show ins out x = out by simp [ins, hin])
          clear hin
          go_wp2_with fail
          go_roundw
          case rel => exact ⟨k + 1, m, g, cap, by omega, by simp, rfl, by omega, Lib.hid (by rw [HST.out, HI.out]; exact HM.out), Lib.hid (by rw [HST.out, HI.out]; exact hown.out), hbel⟩
          case measure => simp [intOf]; omega
        · rw [decide_eq_false hin]
          have HI := Lib.hid (show ins out x = out.take (place out x) ++ x :: out.drop (place out x) by simp [ins, hin])
          clear hin
          go_wp2_with fail
          go_loopw [5] (fun i wx => ∃ q : Nat, q ≤ m ∧ i = .int .i64 q ∧ Hid (∀ j, j < q → before (out.getD j 0) x = true) ∧ Hid (∃ d, wx = wo.drewN d)) (fun i _ => m - (intOf i).toNat)
          case atStart => exact ⟨0, Nat.zero_le _, rfl, Lib.hid (fun j hj => by omega), Lib.hid ⟨0, rfl⟩⟩
          case round =>
            obtain ⟨q, hq, rfl, hall, hdr⟩ := hrel
            have cx : ∀ p, wr.cell? p = wo.cell? p := fun p => by obtain ⟨d, hd⟩ := hdr.out; rw [hd]; rfl
            have cek : wr.cell? ⟨b, o + k, none⟩ = some (.int .i64 x) := (cx _).trans ce
            by_cases hqm : q < m
            · have hlo : q < out.length := by rw [← HM.out]; exact hqm
              have co : wr.cell? ⟨g, q, none⟩ = some (.int .i64 (out.getD q 0)) := by rw [cx, hown.out.cellAt q (by omega), ints_get out q hlo]
              have d1 : decide (q < m) = true := by simpa using hqm
              clear cx ce
              cases hb : before (out.getD q 0) x with
              | true =>
                have HN := Lib.hid (show ∀ j, j < q + 1 → before (out.getD j 0) x = true from fun j hj => by
                  by_cases e : j = q
                  · rw [e]; exact hb
                  · exact hall.out j (by omega))
                generalize out.getD q 0 = y at co hb
                go_wp2_with fail
                go_quiet ((go_at_call 117; exact Calls.quiet_of_same (spec_before _ _ _)))
                go_wp2_with fail
                go_roundw
                case rel => exact ⟨q + 1, by omega, by simp, HN, Lib.hid (by obtain ⟨d, hd⟩ := hdr.out; exact ⟨d + nq, by rw [hd]; simp [World.drewN, Nat.add_assoc]⟩)⟩
                case measure => simp [intOf]; omega
              | false =>
                have HP := Lib.hid (place_eq (x := x) (Nat.le_of_lt hlo) hall.out (.inr hb))
                generalize out.getD q 0 = y at co hb
                go_wp2_with fail
                go_quiet ((go_at_call 117; exact Calls.quiet_of_same (spec_before _ _ _)))
                generalize hW : wr.drewN nq = W
                have HW : Hid (∃ d, W = wo.drewN d) := Lib.hid (by obtain ⟨d, hd⟩ := hdr.out; exact ⟨d + nq, by rw [← hW, hd]; simp [World.drewN, Nat.add_assoc]⟩)
                have ownW : Hid (W.ownsRow w.heap.size 3 1 (.slice (some ⟨g, 0, none⟩) m cap) m (ints out)) := Lib.hid (by obtain ⟨d, hd⟩ := HW.out; rw [hd]; exact hown.out)
                have belW : Hid (Below w.heap.size w W) := Lib.hid (by obtain ⟨d, hd⟩ := HW.out; rw [hd]; exact ⟨hbel.out.os, hbel.out.tape, hbel.out.output, hbel.out.size, hbel.out.block⟩)
                have ceW : W.cell? ⟨b, o + k, none⟩ = some (.int .i64 x) := by rw [← hW]; exact cek
                have hgl := ownW.out.lt g rfl
                obtain ⟨hg0, hgW⟩ := hgl
                obtain ⟨hmc, hcm⟩ := owns_cap ownW.out
                have hzW := belW.out.size
                have hlen : out.length = m := HM.out.symm
                have HL := Lib.hid hlen
                clear hW cek HW hdr hlen
                have hcap : ¬ cap = q := by omega

                have HN := Lib.hid (show ∀ (j : Nat) (u : Value), (ints (out.drop q))[j]? = some u → (W.alloc (.cells #[] 3)).cell? ((⟨g, q, none⟩ : Addr).add j) = some u from fun j u hj => by
                    have hj2 : (ints out)[q + j]? = some u := by rw [ints, List.map_drop, List.getElem?_drop] at hj; exact hj
                    have hjl : q + j < m := by have := (List.getElem?_eq_some_iff.1 hj2).1; simp [ints, HL.out] at this; exact this
                    have h1 : W.cell? ⟨g, q + j, none⟩ = (ints out)[q + j]? := ownW.out.cellAt (q + j) (by omega)
                    rw [Go.WideShapes.add_plain, World.cell?_alloc_lt _ _ _ (by show g < _; omega), h1, hj2])
                go_wp2_with (at_builtin; refine wpList_append_own_at _ rfl _ _ 24 rfl W.heap.size 3 i0 (.int .i64 0) 1 8 Try.underlying24 hi hz0 hz1 hz2 rfl (by decide) _ 0 [] rfl (World.ownsRow_lit W #[] 0 (Nat.le_refl _) (Nat.zero_le _) rfl) ⟨g, q, none⟩ (m - q) _ (ints (out.drop q)) rfl ?c1 HN.out ?c3 ?c4 ?c5 ?c6 ?_)
                case c1 => simp [ints, HL.out]
                case c3 => intro u hu; simp only [ints, List.mem_map] at hu; obtain ⟨y, _, rfl⟩ := hu; rfl
                case c4 => unfold maxLen; omega
                case c5 => omega
                case c6 => simp
                intro v' w2 own2 grow2 nil2 _
                have hne : v' ≠ .slice none 0 0 := nil2
                have hform : ∃ gr cr, v' = .slice (some ⟨gr, 0, none⟩) (m - q) cr := by
                  rcases own2.2 with ⟨hv, _⟩ | ⟨gr, cr, cur, hv, _⟩
                  · exact absurd hv hne
                  · exact ⟨gr, cr, hv⟩
                obtain ⟨gr, cr, rfl⟩ := hform
                have hgr := (own2.lt gr rfl).1
                have hgr2 := (own2.lt gr rfl).2
                have O2 := Lib.hid (ownsRow_same (ownW.out.alloc (.cells #[] 3)) (w' := w2) fun j hj => grow2.block j ((ownW.out.alloc (.cells #[] 3)).lt j hj).2 (by cases hj; simp [Value.ownBlock]; omega))
                have B2 := Lib.hid ((belW.out.alloc hzW (.cells #[] 3)).grown grow2 (by simp; omega) (fun j hj => by simp [Value.ownBlock] at hj; omega))
                have OR : Hid (w2.ownsRow W.heap.size 3 1 (.slice (some ⟨gr, 0, none⟩) (m - q) cr) (m - q) (ints (out.drop q))) := Lib.hid (by rw [ints, List.map_drop]; exact own2)
                have hz2' := B2.out.size
                have ceW2 : w2.cell? ⟨b, o + k, none⟩ = some (.int .i64 x) := by
                  have h1 : W.cell? ⟨b, o + k, none⟩ = w.cell? ⟨b, o + k, none⟩ := belW.out.cell (p := ⟨b, o + k, none⟩) (by show b < _; omega)
                  rw [B2.out.cell (p := ⟨b, o + k, none⟩) (by show b < _; omega), ← h1]; exact ceW
                have hqc : q ≤ cap := by omega
                have HONE : Hid (∀ u ∈ ints (out.drop q), u.oneCell' = true) := Lib.hid (fun u hu => by simp only [ints, List.mem_map] at hu; obtain ⟨y, _, rfl⟩ := hu; rfl)
                have K1 : Hid (q + 1 ≤ maxLen) := Lib.hid (by unfold maxLen; omega)
                have K2 : Hid ((q + 1) * 8 ≤ 140737488355328) := Lib.hid (by omega)
                have K3 : Hid (q + 1 + (m - q) ≤ maxLen) := Lib.hid (by unfold maxLen; omega)
                have K4 : Hid ((q + 1 + (m - q)) * 8 ≤ 140737488355328) := Lib.hid (by omega)
                clear own2 grow2 nil2 hne ceW
                go_wp2_with fail
                go_region_law (first | (refine step_append_some (w := (w2.alloc (.cells #[.int .i64 x] 3)).drew) (by rfl) _ _ _ (by rfl) w.heap.size 3 i0 (.int .i64 0) 8 Try.underlying24 hi hz0 hz1 hz2 rfl g cap q (ints (out.take q)) (by rfl) (by have := owns_prefix O2.out hq; rw [ints, ← List.map_take] at this; exact owns_drew (this.alloc _)) ⟨w2.heap.size, 0, none⟩ 1 1 [.int .i64 x] (by rfl) (by rfl) (news1 w2 _ _) (one1 _ _) K1.out K2.out (Nat.le_trans hz2' (Below.refl 0 w2 |>.alloc (Nat.zero_le _) (.cells #[.int .i64 x] 3)).size) ?_; intro g1 cap1 w3 own3 grow3; have C3 := (ownsRow_same (OR.out.alloc (.cells #[.int .i64 x] 3)) (w' := w3) fun j hj => grow3.block j (((OR.out.alloc (.cells #[.int .i64 x] 3)).lt j hj).2) (by cases hj; simp; omega)).cells (g := gr) rfl) | (refine step_append_some (w := w3) (by rfl) _ _ _ (by rfl) w.heap.size 3 i0 (.int .i64 0) 8 Try.underlying24 hi hz0 hz1 hz2 rfl g1 cap1 (q + 1) (ints (out.take q) ++ [.int .i64 x]) (by rfl) own3 ⟨gr, 0, none⟩ (m - q) cr (ints (out.drop q)) (by rfl) (by simp [ints, HL.out]) C3 HONE.out K3.out K4.out (Nat.le_trans hz2' (Nat.le_trans (Below.refl 0 w2 |>.alloc (Nat.zero_le _) (.cells #[.int .i64 x] 3)).size grow3.size)) ?_; intro g2 cap2 w4 own4 grow4) | fail)
                have B4 := Lib.hid ((((B2.out.alloc hz2' (.cells #[.int .i64 x] 3)).drew.grown grow3 (Nat.le_trans hz2' (Below.refl 0 w2 |>.alloc (Nat.zero_le _) (.cells #[.int .i64 x] 3)).size) (fun j hj => by cases hj; exact hg0))).grown grow4 (Nat.le_trans hz2' (Nat.le_trans (Below.refl 0 w2 |>.alloc (Nat.zero_le _) (.cells #[.int .i64 x] 3)).size grow3.size)) (fun j hj => by cases hj; exact (own3.lt g1 rfl).1))
                clear C3 own3 grow3 grow4
                have hq1 : q + 1 + (m - q) = m + 1 := by omega
                rw [hq1] at own4 ⊢
                have O4 := Lib.hid own4
                clear own4 hq1
                have HF := Lib.hid (show sortTo rs (k + 1) = out.take q ++ x :: out.drop q by rw [HST.out, HI.out, HP.out])
                go_wp2_with fail
                go_roundw
                case rel => exact ⟨k + 1, m + 1, g2, cap2, by omega, by simp, rfl, by omega, Lib.hid (by rw [HF.out]; simp [HL.out] <;> omega), Lib.hid (by rw [HF.out]; have := O4.out; simpa [ints] using this), B4⟩
                case measure => simp [intOf]; omega
            · have d1 : decide (q < m) = false := by simpa using hqm
              have HP := Lib.hid (place_eq (l := out) (x := x) (k := q) (by rw [← HM.out]; exact hq) hall.out (.inl (by rw [← HM.out]; omega)))
              clear cx ce
              go_wp2_with fail
              go_quiet (fail)
              generalize hW : wr.drewN nq = W
              have HW : Hid (∃ d, W = wo.drewN d) := Lib.hid (by obtain ⟨d, hd⟩ := hdr.out; exact ⟨d + nq, by rw [← hW, hd]; simp [World.drewN, Nat.add_assoc]⟩)
              have ownW : Hid (W.ownsRow w.heap.size 3 1 (.slice (some ⟨g, 0, none⟩) m cap) m (ints out)) := Lib.hid (by obtain ⟨d, hd⟩ := HW.out; rw [hd]; exact hown.out)
              have belW : Hid (Below w.heap.size w W) := Lib.hid (by obtain ⟨d, hd⟩ := HW.out; rw [hd]; exact ⟨hbel.out.os, hbel.out.tape, hbel.out.output, hbel.out.size, hbel.out.block⟩)
              have ceW : W.cell? ⟨b, o + k, none⟩ = some (.int .i64 x) := by rw [← hW]; exact cek
              have hgl := ownW.out.lt g rfl
              obtain ⟨hg0, hgW⟩ := hgl
              obtain ⟨hmc, hcm⟩ := owns_cap ownW.out
              have hzW := belW.out.size
              have hlen : out.length = m := HM.out.symm
              have HL := Lib.hid hlen
              clear hW cek HW hdr hlen
              by_cases hcap : cap = q
              · have hcap2 := hcap.symm
                clear hcap
                subst hcap2
                obtain rfl : m = q := by omega
                clear hmc hq hqm d1
                have hq : m ≤ m := Nat.le_refl _
                have HN := Lib.hid (show ∀ (j : Nat) (u : Value), (ints (out.drop m))[j]? = some u → (W.alloc (.cells #[] 3)).cell? ((⟨g, 0, none⟩ : Addr).add j) = some u from fun j u hj => by
                    rw [List.drop_of_length_le (by rw [HL.out]; omega)] at hj
                    simp [ints] at hj)
                go_wp2_with (at_builtin; refine wpList_append_own_at _ rfl _ _ 24 rfl W.heap.size 3 i0 (.int .i64 0) 1 8 Try.underlying24 hi hz0 hz1 hz2 rfl (by decide) _ 0 [] rfl (World.ownsRow_lit W #[] 0 (Nat.le_refl _) (Nat.zero_le _) rfl) ⟨g, 0, none⟩ 0 _ (ints (out.drop m)) rfl ?c1 HN.out ?c3 ?c4 ?c5 ?c6 ?_)
                case c1 => simp [ints, HL.out]
                case c3 => intro u hu; simp only [ints, List.mem_map] at hu; obtain ⟨y, _, rfl⟩ := hu; rfl
                case c4 => unfold maxLen; omega
                case c5 => omega
                case c6 => simp
                intro v' w2 own2 grow2 nil2 _
                have hne : v' ≠ .slice none 0 0 := nil2
                have hform : ∃ gr cr, v' = .slice (some ⟨gr, 0, none⟩) 0 cr := by
                  rcases own2.2 with ⟨hv, _⟩ | ⟨gr, cr, cur, hv, _⟩
                  · exact absurd hv hne
                  · exact ⟨gr, cr, hv⟩
                obtain ⟨gr, cr, rfl⟩ := hform
                have hgr := (own2.lt gr rfl).1
                have hgr2 := (own2.lt gr rfl).2
                have O2 := Lib.hid (ownsRow_same (ownW.out.alloc (.cells #[] 3)) (w' := w2) fun j hj => grow2.block j ((ownW.out.alloc (.cells #[] 3)).lt j hj).2 (by cases hj; simp [Value.ownBlock]; omega))
                have B2 := Lib.hid ((belW.out.alloc hzW (.cells #[] 3)).grown grow2 (by simp; omega) (fun j hj => by simp [Value.ownBlock] at hj; omega))
                have OR : Hid (w2.ownsRow W.heap.size 3 1 (.slice (some ⟨gr, 0, none⟩) 0 cr) 0 (ints (out.drop m))) := Lib.hid (by rw [ints, List.map_drop]; exact own2)
                have hz2' := B2.out.size
                have ceW2 : w2.cell? ⟨b, o + k, none⟩ = some (.int .i64 x) := by
                  have h1 : W.cell? ⟨b, o + k, none⟩ = w.cell? ⟨b, o + k, none⟩ := belW.out.cell (p := ⟨b, o + k, none⟩) (by show b < _; omega)
                  rw [B2.out.cell (p := ⟨b, o + k, none⟩) (by show b < _; omega), ← h1]; exact ceW
                have hqc : m ≤ m := by omega
                have HONE : Hid (∀ u ∈ ints (out.drop m), u.oneCell' = true) := Lib.hid (fun u hu => by simp only [ints, List.mem_map] at hu; obtain ⟨y, _, rfl⟩ := hu; rfl)
                have K1 : Hid (m + 1 ≤ maxLen) := Lib.hid (by unfold maxLen; omega)
                have K2 : Hid ((m + 1) * 8 ≤ 140737488355328) := Lib.hid (by omega)
                have K3 : Hid (m + 1 + 0 ≤ maxLen) := Lib.hid (by unfold maxLen; omega)
                have K4 : Hid ((m + 1 + 0) * 8 ≤ 140737488355328) := Lib.hid (by omega)
                clear own2 grow2 nil2 hne ceW
                go_wp2_with fail
                go_region_law (first | (refine step_append_some (w := (w2.alloc (.cells #[.int .i64 x] 3)).drew) (by rfl) _ _ _ (by rfl) w.heap.size 3 i0 (.int .i64 0) 8 Try.underlying24 hi hz0 hz1 hz2 rfl g m m (ints (out.take m)) (by rfl) (by have := owns_prefix O2.out hq; rw [ints, ← List.map_take] at this; exact owns_drew (this.alloc _)) ⟨w2.heap.size, 0, none⟩ 1 1 [.int .i64 x] (by rfl) (by rfl) (news1 w2 _ _) (one1 _ _) K1.out K2.out (Nat.le_trans hz2' (Below.refl 0 w2 |>.alloc (Nat.zero_le _) (.cells #[.int .i64 x] 3)).size) ?_; intro g1 cap1 w3 own3 grow3; have C3 := (ownsRow_same (OR.out.alloc (.cells #[.int .i64 x] 3)) (w' := w3) fun j hj => grow3.block j (((OR.out.alloc (.cells #[.int .i64 x] 3)).lt j hj).2) (by cases hj; simp; omega)).cells (g := gr) rfl) | (refine step_append_some (w := w3) (by rfl) _ _ _ (by rfl) w.heap.size 3 i0 (.int .i64 0) 8 Try.underlying24 hi hz0 hz1 hz2 rfl g1 cap1 (m + 1) (ints (out.take m) ++ [.int .i64 x]) (by rfl) own3 ⟨gr, 0, none⟩ 0 cr (ints (out.drop m)) (by rfl) (by simp [ints, HL.out]) C3 HONE.out K3.out K4.out (Nat.le_trans hz2' (Nat.le_trans (Below.refl 0 w2 |>.alloc (Nat.zero_le _) (.cells #[.int .i64 x] 3)).size grow3.size)) ?_; intro g2 cap2 w4 own4 grow4) | fail)
                have B4 := Lib.hid ((((B2.out.alloc hz2' (.cells #[.int .i64 x] 3)).drew.grown grow3 (Nat.le_trans hz2' (Below.refl 0 w2 |>.alloc (Nat.zero_le _) (.cells #[.int .i64 x] 3)).size) (fun j hj => by cases hj; exact hg0))).grown grow4 (Nat.le_trans hz2' (Nat.le_trans (Below.refl 0 w2 |>.alloc (Nat.zero_le _) (.cells #[.int .i64 x] 3)).size grow3.size)) (fun j hj => by cases hj; exact (own3.lt g1 rfl).1))
                clear C3 own3 grow3 grow4
                have hq1 : m + 1 + 0 = m + 1 := by omega
                rw [hq1] at own4 ⊢
                have O4 := Lib.hid own4
                clear own4 hq1
                have HF := Lib.hid (show sortTo rs (k + 1) = out.take m ++ x :: out.drop m by rw [HST.out, HI.out, HP.out])
                go_wp2_with fail
                go_roundw
                case rel => exact ⟨k + 1, m + 1, g2, cap2, by omega, by simp, rfl, by omega, Lib.hid (by rw [HF.out]; simp [HL.out] <;> omega), Lib.hid (by rw [HF.out]; have := O4.out; simpa [ints] using this), B4⟩
                case measure => simp [intOf]; omega
              · have HN := Lib.hid (show ∀ (j : Nat) (u : Value), (ints (out.drop q))[j]? = some u → (W.alloc (.cells #[] 3)).cell? ((⟨g, q, none⟩ : Addr).add j) = some u from fun j u hj => by
                    have hj2 : (ints out)[q + j]? = some u := by rw [ints, List.map_drop, List.getElem?_drop] at hj; exact hj
                    have hjl : q + j < m := by have := (List.getElem?_eq_some_iff.1 hj2).1; simp [ints, HL.out] at this; exact this
                    have h1 : W.cell? ⟨g, q + j, none⟩ = (ints out)[q + j]? := ownW.out.cellAt (q + j) (by omega)
                    rw [Go.WideShapes.add_plain, World.cell?_alloc_lt _ _ _ (by show g < _; omega), h1, hj2])
                go_wp2_with (at_builtin; refine wpList_append_own_at _ rfl _ _ 24 rfl W.heap.size 3 i0 (.int .i64 0) 1 8 Try.underlying24 hi hz0 hz1 hz2 rfl (by decide) _ 0 [] rfl (World.ownsRow_lit W #[] 0 (Nat.le_refl _) (Nat.zero_le _) rfl) ⟨g, q, none⟩ (m - q) _ (ints (out.drop q)) rfl ?c1 HN.out ?c3 ?c4 ?c5 ?c6 ?_)
                case c1 => simp [ints, HL.out]
                case c3 => intro u hu; simp only [ints, List.mem_map] at hu; obtain ⟨y, _, rfl⟩ := hu; rfl
                case c4 => unfold maxLen; omega
                case c5 => omega
                case c6 => simp
                intro v' w2 own2 grow2 nil2 _
                have hne : v' ≠ .slice none 0 0 := nil2
                have hform : ∃ gr cr, v' = .slice (some ⟨gr, 0, none⟩) (m - q) cr := by
                  rcases own2.2 with ⟨hv, _⟩ | ⟨gr, cr, cur, hv, _⟩
                  · exact absurd hv hne
                  · exact ⟨gr, cr, hv⟩
                obtain ⟨gr, cr, rfl⟩ := hform
                have hgr := (own2.lt gr rfl).1
                have hgr2 := (own2.lt gr rfl).2
                have O2 := Lib.hid (ownsRow_same (ownW.out.alloc (.cells #[] 3)) (w' := w2) fun j hj => grow2.block j ((ownW.out.alloc (.cells #[] 3)).lt j hj).2 (by cases hj; simp [Value.ownBlock]; omega))
                have B2 := Lib.hid ((belW.out.alloc hzW (.cells #[] 3)).grown grow2 (by simp; omega) (fun j hj => by simp [Value.ownBlock] at hj; omega))
                have OR : Hid (w2.ownsRow W.heap.size 3 1 (.slice (some ⟨gr, 0, none⟩) (m - q) cr) (m - q) (ints (out.drop q))) := Lib.hid (by rw [ints, List.map_drop]; exact own2)
                have hz2' := B2.out.size
                have ceW2 : w2.cell? ⟨b, o + k, none⟩ = some (.int .i64 x) := by
                  have h1 : W.cell? ⟨b, o + k, none⟩ = w.cell? ⟨b, o + k, none⟩ := belW.out.cell (p := ⟨b, o + k, none⟩) (by show b < _; omega)
                  rw [B2.out.cell (p := ⟨b, o + k, none⟩) (by show b < _; omega), ← h1]; exact ceW
                have hqc : q ≤ cap := by omega
                have HONE : Hid (∀ u ∈ ints (out.drop q), u.oneCell' = true) := Lib.hid (fun u hu => by simp only [ints, List.mem_map] at hu; obtain ⟨y, _, rfl⟩ := hu; rfl)
                have K1 : Hid (q + 1 ≤ maxLen) := Lib.hid (by unfold maxLen; omega)
                have K2 : Hid ((q + 1) * 8 ≤ 140737488355328) := Lib.hid (by omega)
                have K3 : Hid (q + 1 + (m - q) ≤ maxLen) := Lib.hid (by unfold maxLen; omega)
                have K4 : Hid ((q + 1 + (m - q)) * 8 ≤ 140737488355328) := Lib.hid (by omega)
                clear own2 grow2 nil2 hne ceW
                go_wp2_with fail
                go_region_law (first | (refine step_append_some (w := (w2.alloc (.cells #[.int .i64 x] 3)).drew) (by rfl) _ _ _ (by rfl) w.heap.size 3 i0 (.int .i64 0) 8 Try.underlying24 hi hz0 hz1 hz2 rfl g cap q (ints (out.take q)) (by rfl) (by have := owns_prefix O2.out hq; rw [ints, ← List.map_take] at this; exact owns_drew (this.alloc _)) ⟨w2.heap.size, 0, none⟩ 1 1 [.int .i64 x] (by rfl) (by rfl) (news1 w2 _ _) (one1 _ _) K1.out K2.out (Nat.le_trans hz2' (Below.refl 0 w2 |>.alloc (Nat.zero_le _) (.cells #[.int .i64 x] 3)).size) ?_; intro g1 cap1 w3 own3 grow3; have C3 := (ownsRow_same (OR.out.alloc (.cells #[.int .i64 x] 3)) (w' := w3) fun j hj => grow3.block j (((OR.out.alloc (.cells #[.int .i64 x] 3)).lt j hj).2) (by cases hj; simp; omega)).cells (g := gr) rfl) | (refine step_append_some (w := w3) (by rfl) _ _ _ (by rfl) w.heap.size 3 i0 (.int .i64 0) 8 Try.underlying24 hi hz0 hz1 hz2 rfl g1 cap1 (q + 1) (ints (out.take q) ++ [.int .i64 x]) (by rfl) own3 ⟨gr, 0, none⟩ (m - q) cr (ints (out.drop q)) (by rfl) (by simp [ints, HL.out]) C3 HONE.out K3.out K4.out (Nat.le_trans hz2' (Nat.le_trans (Below.refl 0 w2 |>.alloc (Nat.zero_le _) (.cells #[.int .i64 x] 3)).size grow3.size)) ?_; intro g2 cap2 w4 own4 grow4) | fail)
                have B4 := Lib.hid ((((B2.out.alloc hz2' (.cells #[.int .i64 x] 3)).drew.grown grow3 (Nat.le_trans hz2' (Below.refl 0 w2 |>.alloc (Nat.zero_le _) (.cells #[.int .i64 x] 3)).size) (fun j hj => by cases hj; exact hg0))).grown grow4 (Nat.le_trans hz2' (Nat.le_trans (Below.refl 0 w2 |>.alloc (Nat.zero_le _) (.cells #[.int .i64 x] 3)).size grow3.size)) (fun j hj => by cases hj; exact (own3.lt g1 rfl).1))
                clear C3 own3 grow3 grow4
                have hq1 : q + 1 + (m - q) = m + 1 := by omega
                rw [hq1] at own4 ⊢
                have O4 := Lib.hid own4
                clear own4 hq1
                have HF := Lib.hid (show sortTo rs (k + 1) = out.take q ++ x :: out.drop q by rw [HST.out, HI.out, HP.out])
                go_wp2_with fail
                go_roundw
                case rel => exact ⟨k + 1, m + 1, g2, cap2, by omega, by simp, rfl, by omega, Lib.hid (by rw [HF.out]; simp [HL.out] <;> omega), Lib.hid (by rw [HF.out]; have := O4.out; simpa [ints] using this), B4⟩
                case measure => simp [intOf]; omega
      · have HK := Lib.hid (show k = rs.length by omega)
        go_wp2_with fail
        go_ret
        refine ⟨_, rfl, ?_, hbel.out⟩
        rw [HX.out, ← HK.out]
        exact Own.made hown.out
end Go.Proofs.Ythodmmckekgkdaa.SortL
