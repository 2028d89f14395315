/-
  Chapter 6 of the program: HeightOf.
-/
import Derived.Test.YtdkgmjbhkifcbaaLat5
namespace Go.Proofs.Ytdkgmjbhkifcbaa.Tab
open Go Go.RowKit Mem Sets Ctx
set_option maxRecDepth 100000

/-- The depth of concept k as far as the first m concepts above it tell, out of the depths of the earlier ones. -/
def stepD (l : List PInt) (ds : List Nat) (k : Nat) : Nat → Nat
  | 0 => 0
  | m + 1 => if und l k m = true then Nat.max (stepD l ds k m) (ds.getD m 0 + 1) else stepD l ds k m
def deps (l : List PInt) : Nat → List Nat
  | 0 => []
  | k + 1 => deps l k ++ [stepD l (deps l k) k k]
def hgt (l : List PInt) : Nat → Int
  | 0 => -1
  | k + 1 => max (hgt l k) ((stepD l (deps l k) k k : Nat) : Int)
theorem deps_len (l : List PInt) (k : Nat) : (deps l k).length = k := by
  induction k with
  | zero => rfl
  | succ k ih => simp [deps, ih]
theorem stepD_le {l : List PInt} {ds : List Nat} {k m : Nat} (h : ∀ j, j < m → ds.getD j 0 ≤ j) : stepD l ds k m ≤ m := by
  induction m with
  | zero => simp [stepD]
  | succ m ih =>
    have h1 := ih fun j hj => h j (by omega)
    have h2 := h m (by omega)
    unfold stepD
    split
    · exact Nat.max_le.2 ⟨by omega, by omega⟩
    · omega
theorem deps_le (l : List PInt) (k : Nat) : ∀ j, j < k → (deps l k).getD j 0 ≤ j := by
  induction k with
  | zero => intro j hj; omega
  | succ k ih =>
    intro j hj
    rw [deps]
    by_cases h : j < k
    · have := ih j h
      simp only [List.getD_eq_getElem?_getD, List.getElem?_append_left (show j < (deps l k).length by rw [deps_len]; exact h)] at this ⊢
      exact this
    · have hjk : j = k := by omega
      subst hjk
      rw [List.getD_eq_getElem?_getD, List.getElem?_append_right (by rw [deps_len]; omega), deps_len]
      simp only [Nat.sub_self, List.getElem?_cons_zero, Option.getD_some]
      exact stepD_le ih
theorem hgt_le (l : List PInt) (k : Nat) : -1 ≤ hgt l k ∧ hgt l k ≤ k := by
  induction k with
  | zero => simp [hgt]
  | succ k ih =>
    have := stepD_le (l := l) (k := k) (deps_le l k)
    rw [hgt]
    omega
/-- Numbers as cells. -/
abbrev nats (ds : List Nat) : List Int := ds.map fun d : Nat => (d : Int)
theorem fieldO (g1 g2 n : Nat) (w : World) : (Instr.field 81 (ordV g1 g2 n) 1).run Try.prog w = .ok (sl g2 n) w := by
  have h1 : (isAgg 79).run Try.prog w = .ok false w := by
    unfold isAgg
    rw [Sem.run_bind, run_underlying Try.underlying79 w]
    simp
  simp [Instr.field, run_underlying Try.underlying81, Sem.run_bind, part, h1, asAgg]
set_option maxHeartbeats 3200000 in
theorem impl_height (a : Int) (v : Value) (rs : List Int) (B : Nat) (w : World) (hr : Reads w B v (ints rs)) (hB : B ≤ w.heap.size) (hl64 : (concepts a rs).length ≤ 64) :
    Calls Try.prog 71 #[ctx a v] w fun e w' => e = .returned (.int .i64 (hgt (concepts a rs) (concepts a rs).length)) ∧ Below w.heap.size w w' := by
  obtain ⟨i0, hinf, hy0, hy1, hy2⟩ := info_parts Ints.info
  obtain ⟨aa, ca, rfl⟩ := reads_form hr
  obtain ⟨l, hl⟩ : ∃ l, concepts a rs = l := ⟨_, rfl⟩
  obtain ⟨n, hn⟩ : ∃ n, l.length = n := ⟨_, rfl⟩
  have hW := (Below.refl w.heap.size w).alloc (Nat.le_refl _) (.cells #[.int .i64 a, .slice aa rs.length ca] 26)
  have HO := Lib.hid (order_at a _ rs B _ (hr.below hW hB) (by simp; omega) hl64 l hl n hn)
  rw [hl] at hl64 ⊢
  rw [hn] at hl64 ⊢
  have HN := Lib.hid hn
  clear hl hn hr
  go_enter Try.func71, Try.ntmps71
  go_wp2_with fail
  refine HO.out.mono ?_
  clear HO
  rintro e V ⟨g1, g2, rfl, t1, t2, -, -, -, bb⟩
  have hW2 := hW.trans (bb.mono (by simp))
  have hz1 := bb.size
  simp only [World.size_alloc] at hz1
  clear hW bb
  have hg2 := t2.lt
  have T2 := Lib.hid t2
  clear t1 t2
  have hz := zeroT
  have hfd := fieldO g1 g2 n
  go_wp2_with fail
  clear hfd
  go_loopw [3, 4, 13] (fun h t j wr => ∃ k : Nat, j = .int .i64 k ∧ h = .int .i64 (hgt l k) ∧ k ≤ n ∧ Hid (wr.ownsRow V.heap.size 3 1 t k (ints (nats (deps l k)))) ∧ Hid (Below V.heap.size V wr)) (fun _ _ j _ => n - (intOf j).toNat)
  case atStart => exact ⟨0, rfl, rfl, by omega, Lib.hid (World.ownsRow_nil _ _ _ _), Lib.hid (Below.refl _ _)⟩
  case round =>
    obtain ⟨k, rfl, rfl, hk, ho, hb⟩ := hrel
    by_cases hkn : k < n
    · obtain ⟨av, cv, rfl⟩ := rowP_form ho.out
      have m0 := tab_row (T2.out.below hb.out hg2) hkn
      have hzr := hb.out.size
      have b0 := BoxAt.new wr 85 (rowA fun _ => false)
      have b1 : BoxAt ((wr.alloc (.cells (rowA fun _ => false) 85)).setRow wr.heap.size (rowA (above l k))) wr.heap.size 85 (rowA (above l k)) := boxR b0
      have b4 : Below wr.heap.size wr ((wr.alloc (.cells (rowA fun _ => false) 85)).setRow wr.heap.size (rowA (above l k))) := belowR ((Below.refl _ _).alloc (Nat.le_refl _) _) (Nat.le_refl _)
      have hz4 : wr.heap.size < ((wr.alloc (.cells (rowA fun _ => false) 85)).setRow wr.heap.size (rowA (above l k))).heap.size := by simp
      go_upto_region 6 with (first | (refine wpList_load_mid rfl 85 _ rfl g2 (k * 64) rfl (rowL (above l k)) _ m0 Try.underlying85 rfl (sizeL _) ?_) | (refine wpList_store_row rfl 85 _ _ rfl wr.heap.size (rowA (above l k)) rfl rfl 85 _ b0 (sizeT _) (by rw [rowA_size, rowA_size]) (rowA_cells _) ?_))
      simp only [Act.put]
      generalize ((wr.alloc (.cells (rowA fun _ => false) 85)).setRow wr.heap.size (rowA (above l k))) = V3 at b1 b4 hz4 ⊢
      clear m0 b0
      have ho3 := Lib.hid (rowP_same ho.out fun q hq => b4.block q (ho.out.lt q hq).2)
      have hb3 := hb.out.trans (b4.mono hzr)
      have HB3 := Lib.hid hb3
      have HRd := Lib.hid (Own.made (show V3.ownsRow V.heap.size 3 1 (.slice av (ints (nats (deps l k))).length cv) (ints (nats (deps l k))).length (ints (nats (deps l k))) by
        have e : (ints (nats (deps l k))).length = k := by simp [deps_len]
        rw [e]; exact ho3.out)).reads
      have hD := Lib.hid (deps_le l k)
      have EB := Lib.hid fun j (hj : j < 64) => (b1.cell j).trans (rowA_get (above l k) hj)
      clear b1
      have hgb := hgt_le l k
      obtain ⟨hh, hhe⟩ : ∃ hh, hgt l k = hh := ⟨_, rfl⟩
      rw [hhe] at hgb ⊢
      have HHH := Lib.hid hhe
      clear hhe
      go_wp2_with fail
      go_loopw [7, 19] (fun d j wi => ∃ m : Nat, j = .int .i64 m ∧ d = .int .i64 (stepD l (deps l k) k m : Nat) ∧ m ≤ k ∧ wi = V3) (fun _ j _ => k - (intOf j).toNat)
      case atStart => exact ⟨0, rfl, rfl, by omega, rfl⟩
      case round =>
        obtain ⟨m, rfl, rfl, hm, rfl⟩ := hrel
        have hst := stepD_le (l := l) (ds := deps l k) (k := k) (m := m) fun j hj => hD.out j (by omega)
        by_cases hmk : m < k
        · have hm64 : m < 64 := by omega
          have e0 := EB.out m hm64
          rw [show above l k m = und l k m from rfl] at e0
          rcases Bool.eq_false_or_eq_true (und l k m) with hc | hc
          · rw [hc] at e0
            have HS : Hid (stepD l (deps l k) k (m + 1) = Nat.max (stepD l (deps l k) k m) ((deps l k).getD m 0 + 1)) := Lib.hid (by rw [stepD, if_pos hc])
            obtain ⟨-, a', c', hform, hcells⟩ := HRd.out
            obtain ⟨e1, -, -⟩ := Value.slice.inj hform
            subst e1
            clear hform
            obtain ⟨bk, of, rfl, -, hcl⟩ := hcells (fun e => by have := congrArg List.length e; simp [deps_len] at this; omega)
            have hd := hcl m (by simp [deps_len]; omega)
            rw [show (ints (nats (deps l k)))[m]? = some (.int .i64 ((deps l k).getD m 0 : Nat)) by simp [List.getElem?_eq_getElem (show m < (deps l k).length by rw [deps_len]; omega)]] at hd
            have hdm := hD.out m hmk
            clear hcells hcl
            generalize (deps l k).getD m 0 = q at hd hdm HS
            generalize stepD l (deps l k) k m = z at hst HS ⊢
            clear hc
            go_wp2_with fail
            exact ⟨⟨m + 1, by simp, congrArg (Value.int .i64) (by rw [HS.out, show z.max (q + 1) = max z (q + 1) from rfl]; split <;> omega), by omega, trivial⟩, by simp only [intOf]; omega⟩
          · rw [hc] at e0
            have HS : Hid (stepD l (deps l k) k (m + 1) = stepD l (deps l k) k m) := Lib.hid (by rw [stepD, if_neg (by rw [hc]; simp)])
            generalize stepD l (deps l k) k m = z at hst HS ⊢
            clear hc
            go_wp2_with fail
            exact ⟨⟨m + 1, by simp, by rw [HS.out], by omega, trivial⟩, by simp only [intOf]; omega⟩
        · have hmk2 : m = k := by omega
          subst hmk2
          have HDS : Hid (deps l (m + 1) = deps l m ++ [stepD l (deps l m) m m]) := Lib.hid rfl
          have HHS : Hid (hgt l (m + 1) = max (hgt l m) ((stepD l (deps l m) m m : Nat) : Int)) := Lib.hid rfl
          rw [HHH.out] at HHS
          generalize stepD l (deps l m) m m = z at hst HDS HHS ⊢
          have O3 := Lib.hid (ho3.out.alloc (.cells #[.int .i64 z] 3))
          have D3 := Lib.hid (HB3.out.alloc HB3.out.size (.cells #[.int .i64 z] 3))
          have HK1 : Hid (m + 1 ≤ maxLen) := Lib.hid (by unfold maxLen; omega)
          have HK2 : Hid ((m + 1) * 8 ≤ 140737488355328) := Lib.hid (by omega)
          have hzV : V.heap.size ≤ wr.heap.size := HB3.out.size
          go_wp2_with (at_builtin; refine wpList_append_lies _ rfl _ _ _ rfl V.heap.size 3 i0 (.int .i64 0) 1 8 Try.underlying24 hinf hy0 hy1 hy2 rfl (by decide) _ m _ rfl O3.out ⟨wr.heap.size, 0, none⟩ 1 1 [.int .i64 (z : Int)] rfl rfl (news1 _ _ _) (one1 _ _) Nat.one_pos HK1.out HK2.out (by simp; omega) _ rfl ?_)
          intro g cap w4 hown hgrow hat hlt4
          have D4 := D3.out.grown hgrow (by simp; omega) (fun q hq => (O3.out.lt q hq).1)
          have O4 : Hid (w4.ownsRow V.heap.size 3 1 (.slice (some ⟨g, 0, none⟩) (m + 1) cap) (m + 1) (ints (nats (deps l (m + 1))))) := Lib.hid (by rw [HDS.out, ints, nats, List.map_append, List.map_append]; simpa using hown)
          have D5 := Lib.hid D4
          clear hown hgrow hat hlt4 D4 O3 D3
          go_wp2_with fail
          exact ⟨⟨m + 1, by simp, congrArg (Value.int .i64) (by rw [HHS.out]; split <;> omega), by omega, O4, D5⟩, by simp only [intOf]; omega⟩
    · have hkn2 : k = n := by omega
      subst hkn2
      go_wp2_with fail
      go_ret
      exact ⟨rfl, hW2.trans (hb.out.mono (by omega))⟩
end Go.Proofs.Ytdkgmjbhkifcbaa.Tab
