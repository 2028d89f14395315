/-
  SetsText of the program and of the model, for lists of at most 65536 sets (beyond 1048576 bytes the model's text is empty, the program's is not).
-/
import Derived.Test.YtkdnjebjbadloaaGreatDoorText
import Derived.Test.YtkdnjebjbadloaaGreatDoorJoin
import Derived.Test.YtkdnjebjbadloaaGreatDoorAllSets
namespace Go.Proofs.YtkdnjebjbadloaaGreatDoor.Sets2
open Go Go.RowKit Mem Sets Elems Text Joins Strs
set_option maxRecDepth 100000

def texts (xs : List Int) : List (List UInt8) := xs.map setText
def setsText (xs : List Int) : List UInt8 := if allSets xs = true then (if xs = [] then [110, 111, 110, 101] else Lib.join (texts xs) [44]) else []
theorem setText_le (s : Int) : (setText s).length ≤ 8 := by
  unfold setText chars
  split
  · split
    · simp
    · rw [List.length_map]; exact elemsTo_le s 8
  · simp
theorem texts_at (xs : List Int) (j : Nat) : ((texts xs).getD j []).length ≤ 8 := by
  by_cases hj : j < xs.length
  · simp only [texts, List.getD, List.getElem?_map, List.getElem?_eq_getElem hj, Option.map_some, Option.getD_some]
    exact setText_le _
  · rw [List.getD, List.getElem?_eq_none (by simp [texts]; omega)]; simp
theorem join_le (xs : List Int) : ∀ k, k ≤ xs.length → (Lib.join ((texts xs).take k) [44]).length ≤ 9 * k := by
  intro k
  induction k with
  | zero => intro _; simp [Lib.join_nil]
  | succ k ih =>
    intro hk
    have h8 := texts_at xs k
    have hl : (texts xs).length = xs.length := by simp [texts]
    by_cases h0 : k = 0
    · subst h0
      rw [Nat.zero_add, join_first (texts xs) [44] (by omega)]
      omega
    · rw [join_next (texts xs) [44] k (by omega) (by omega)]
      have := ih (by omega)
      simp only [List.length_append, List.length_singleton]
      omega
theorem join_all (xs : List Int) : (Lib.join (texts xs) [44]).length ≤ 9 * xs.length := by
  have := join_le xs xs.length (Nat.le_refl _)
  rwa [List.take_of_length_le (by simp [texts])] at this
theorem setsText_le (xs : List Int) (h : xs.length ≤ 65536) : (setsText xs).length ≤ 589824 := by
  unfold setsText
  have := join_all xs
  split
  · split
    · simp
    · omega
  · simp
theorem joined_texts (xs : List Int) (h : xs.length ≤ 65536) : joined (texts xs) [44] = Lib.join (texts xs) [44] := by
  unfold joined
  rw [if_neg (by have := join_all xs; omega)]
theorem strs_texts_step (xs : List Int) (k : Nat) (hk : k < xs.length) : strs (texts (xs.take (k + 1))) = strs (texts (xs.take k)) ++ [.string ⟨(setText (xs.getD k 0)).toArray⟩] := by
  simp only [strs, texts, List.take_add_one, List.getD, List.getElem?_eq_getElem hk, Option.toList_some, List.map_append, List.map_cons, List.map_nil, Option.getD_some]
theorem strs_texts_len (xs : List Int) (k : Nat) (hk : k ≤ xs.length) : (strs (texts (xs.take k))).length = k := by simp [strs, texts]; omega

theorem owns_below {e : TypeId} {w w' : World} {lo n : Nat} {v : Value} {cs : List Value} (h : w.ownsRow lo e 1 v n cs) (hb : Below w.heap.size w w') : w'.ownsRow lo e 1 v n cs :=
  ownsRow_same h fun k hk => hb.block k (h.lt k hk).2

set_option maxHeartbeats 800000 in
theorem spec_sets (v : Value) (rs : List Int) (B : Nat) (w : World) (hr : Reads w B v (ints rs)) (hB : B ≤ w.heap.size) (hn : rs.length ≤ 65536) :
    Calls Tryz.prog 53 #[v] w fun e w' => e = .returned (.string ⟨(setsText rs).toArray⟩) ∧ Below w.heap.size w w' := by
  obtain ⟨i0, hi, hz0, hz1, hz2⟩ := info_parts infoS
  have HA := Lib.hid (fun w' h => l2Sets v rs B w' h)
  have HR := Lib.hid hr
  obtain ⟨hl, aa, ca, rfl, hca⟩ := hr
  simp only [ints, List.length_map] at hl hca HA HR ⊢
  have HC := Lib.hid hca
  clear hl hca
  cases hs : allSets rs with
  | false =>
    have HX := Lib.hid (show setsText rs = [] by simp [setsText, hs])
    go_enter Tryz.func53, Tryz.ntmps53
    go_wp2_with fail
    refine (HA.out _ HR.out).mono ?_
    rintro e w' ⟨rfl, rfl⟩
    rw [hs]
    go_wp2_with fail
    go_ret
    exact ⟨by rw [HX.out]; rfl, Below.refl _ _⟩
  | true =>
    by_cases hne : rs = []
    · subst hne
      have HX := Lib.hid (show setsText [] = [110, 111, 110, 101] by simp [setsText, hs])
      go_enter Tryz.func53, Tryz.ntmps53
      go_wp2_with fail
      refine (HA.out _ HR.out).mono ?_
      rintro e w' ⟨rfl, rfl⟩
      rw [hs]
      go_wp2_with fail
      go_ret
      exact ⟨by rw [HX.out]; rfl, Below.refl _ _⟩
    · have HX := Lib.hid (show setsText rs = Lib.join (texts rs) [44] by simp [setsText, hs, hne])
      obtain ⟨b, o, rfl, hb, gca⟩ := HC.out (by simpa using hne)
      have HD := Lib.hid gca
      have hpos : ((rs.length : Int) == 0) = false := by
        have : rs.length ≠ 0 := fun h => hne (List.length_eq_zero_iff.1 h)
        simpa using this
      clear gca HC hne
      go_enter Tryz.func53, Tryz.ntmps53
      go_wp2_with fail
      refine (HA.out _ HR.out).mono ?_
      rintro e w' ⟨rfl, rfl⟩
      rw [hs]
      have HS := Lib.hid hs
      clear hs
      go_wp2_with fail
      go_loopw [3, 4] (fun v i wr => ∃ k : Nat, k ≤ rs.length ∧ i = .int .i64 k ∧ Hid (wr.ownsRow w'.heap.size 9 1 v k (strs (texts (rs.take k)))) ∧ Hid (Below w'.heap.size w' wr)) (fun _ i _ => rs.length - (intOf i).toNat)
      case atStart => exact ⟨0, Nat.zero_le _, rfl, Lib.hid (World.ownsRow_lit w' #[] 0 (Nat.le_refl _) (Nat.zero_le _) rfl), Lib.hid ((Below.refl _ _).alloc (Nat.le_refl _) _)⟩
      case round =>
        obtain ⟨k, hk, rfl, hown, hbel⟩ := hrel
        have hzr : w'.heap.size ≤ wr.heap.size := hbel.out.size
        by_cases hlt : k < rs.length
        · have ce : wr.cell? ⟨b, o + k, none⟩ = some (.int .i64 (rs.getD k 0)) := by
            rw [hbel.out.cell (p := ⟨b, o + k, none⟩) (by show b < _; omega), HD.out k hlt, ints_get rs k hlt]
          have HST := Lib.hid (strs_texts_step rs k hlt)
          generalize rs.getD k 0 = x at ce HST
          go_wp2_with fail
          refine (spec_text x _).mono ?_
          rintro e w2 ⟨rfl, b2⟩
          have O2 := Lib.hid (owns_below hown.out b2)
          have B2 := Lib.hid (hbel.out.trans (b2.mono hzr))
          have hz2' := B2.out.size
          clear b2
          generalize hgt : setText x = tx at HST
          go_wp2_with (at_builtin; refine wpList_append_own _ rfl _ _ 50 rfl w'.heap.size 9 i0 (.string ByteArray.empty) 1 16 Tryz.underlying50 hi hz0 hz1 hz2 rfl (by decide) _ _ _ rfl (O2.out.alloc _) ⟨w2.heap.size, 0, none⟩ 1 1 [.string ⟨tx.toArray⟩] rfl rfl ?c1 ?c2 ?c3 ?c4 ?c5 ?_)
          case c1 =>
            intro j u hj
            match j, hj with
            | 0, hj => simp at hj; subst hj; simp [Addr.add]
          case c2 => intro u hu; simp at hu; subst hu; rfl
          case c3 => unfold maxLen; omega
          case c4 => omega
          case c5 => simp; omega
          intro v' w1 hown' hgrow _
          have R := Lib.hid hown'
          have G := Lib.hid ((B2.out.alloc hz2' _).grown hgrow (by simp; omega) (fun q hq => (O2.out.lt q hq).1))
          clear hown' hgrow hgt
          go_wp2_with fail
          go_roundw
          case rel => exact ⟨k + 1, by omega, by simp, Lib.hid (by rw [HST.out]; exact R.out), G⟩
          case measure => simp [intOf]; omega
        · have HK := Lib.hid (show k = rs.length by omega)
          have HJ := Lib.hid (joined_texts rs hn)
          go_wp2_with fail
          have O := Lib.hid (Own.made hown.out)
          refine (spec_join _ (texts rs) [44] wr.heap.size wr (by have := O.out.reads; rwa [HK.out, List.take_length] at this) (Nat.le_refl _) (by simp [texts]; omega) (by simp) (fun j _ => Nat.le_trans (texts_at rs j) (by omega))).mono ?_
          rintro e w3 ⟨rfl, b3⟩
          rw [HJ.out]
          have B3 := Lib.hid (hbel.out.trans (b3.mono hzr))
          clear b3
          go_wp2_with fail
          go_ret
          exact ⟨by rw [HX.out]; rfl, B3.out⟩

/-- strings.Join of a row that is not empty. -/
theorem sl_join (v : Value) (xs : List (List UInt8)) (sep : List UInt8) (B : Nat) (w : World) (hr : Reads w B v (strs xs)) (hroom : CapOk v) (hB : B ≤ w.heap.size) (hne : xs ≠ []) (hn : xs.length ≤ 1048576) (hlen : (Lib.join xs sep).length ≤ 1048576) :
    Calls Tryz.prog 75 #[v, .string ⟨sep.toArray⟩] w fun e w' => e = .returned (.string ⟨(Lib.join xs sep).toArray⟩) ∧ Below w.heap.size w w' := by
  obtain ⟨hla, a, ca, rfl, hca⟩ := hr
  have hcap := hroom _ _ _ rfl
  obtain ⟨b, o, rfl, hb, gca⟩ := hca (by simpa using hne)
  simp only [strs, List.length_map] at gca hcap ⊢
  have hmm : (xs.map fun l => (⟨l.toArray⟩ : ByteArray)).map (·.data.toList) = xs := by
    rw [List.map_map]
    conv => rhs; rw [← List.map_id xs]
    apply List.map_congr_left
    intro l _
    simp
  have hJ := Tryz.strings_Join b o ca (xs.map fun l => ⟨l.toArray⟩) ⟨sep.toArray⟩ w (fun j x hj => by
    simp only [List.getElem?_map, Option.map_eq_some_iff] at hj
    obtain ⟨l, hl, rfl⟩ := hj
    have hjl : j < xs.length := by
      rcases Nat.lt_or_ge j xs.length with h | h
      · exact h
      · rw [List.getElem?_eq_none h] at hl; cases hl
    have := gca j hjl
    rw [this, List.getElem?_map, hl]
    rfl) (by omega) (by simp; omega) (by simpa using hcap) (by rw [hmm]; simpa using (by omega : (Lib.join xs sep).length ≤ 140737488355328))
  rw [hmm, List.length_map] at hJ
  exact hJ
theorem set_step (xs : List Int) (ys : List Value) (k : Nat) (hk : k < xs.length) (hy : k < ys.length) (x : Int) (hx : xs.getD k 0 = x) :
    (strs (texts (xs.take k)) ++ ys.drop k).set k (.string ⟨(setText x).toArray⟩) = strs (texts (xs.take (k + 1))) ++ ys.drop (k + 1) := by
  subst hx
  rw [strs_texts_step xs k hk, List.set_append_right _ _ (by rw [strs_texts_len xs k (by omega)]; exact Nat.le_refl _), List.drop_eq_getElem_cons hy, strs_texts_len xs k (by omega), Nat.sub_self, List.set_cons_zero, List.append_assoc, List.singleton_append]

set_option maxHeartbeats 800000 in
theorem impl_sets (v : Value) (rs : List Int) (B : Nat) (w : World) (hr : Reads w B v (ints rs)) (hB : B ≤ w.heap.size) (hn : rs.length ≤ 65536) :
    Calls Tryz.prog 51 #[v] w fun e w' => e = .returned (.string ⟨(setsText rs).toArray⟩) ∧ Below w.heap.size w w' := by
  obtain ⟨i0, hi, hz0, hz1, hz2⟩ := info_parts infoS
  have HA := Lib.hid (fun w' h => areAllSets v rs B w' h)
  have HR := Lib.hid hr
  obtain ⟨hl, aa, ca, rfl, hca⟩ := hr
  simp only [ints, List.length_map] at hl hca HA HR ⊢
  have HC := Lib.hid hca
  clear hl hca
  cases hs : allSets rs with
  | false =>
    have HX := Lib.hid (show setsText rs = [] by simp [setsText, hs])
    go_enter Tryz.func51, Tryz.ntmps51
    go_wp2_with fail
    refine (HA.out _ HR.out).mono ?_
    rintro e w' ⟨rfl, rfl⟩
    rw [hs]
    go_wp2_with fail
    go_ret
    exact ⟨by rw [HX.out]; rfl, Below.refl _ _⟩
  | true =>
    by_cases hne : rs = []
    · subst hne
      have HX := Lib.hid (show setsText [] = [110, 111, 110, 101] by simp [setsText, hs])
      go_enter Tryz.func51, Tryz.ntmps51
      go_wp2_with fail
      refine (HA.out _ HR.out).mono ?_
      rintro e w' ⟨rfl, rfl⟩
      rw [hs]
      go_wp2_with fail
      go_ret
      exact ⟨by rw [HX.out]; rfl, Below.refl _ _⟩
    · have HX := Lib.hid (show setsText rs = Lib.join (texts rs) [44] by simp [setsText, hs, hne])
      obtain ⟨b, o, rfl, hb, gca⟩ := HC.out (by simpa using hne)
      have HD := Lib.hid gca
      have HNE := Lib.hid hne
      have hpos : ((rs.length : Int) == 0) = false := by
        have : rs.length ≠ 0 := fun h => hne (List.length_eq_zero_iff.1 h)
        simpa using this
      clear gca HC hne
      go_enter Tryz.func51, Tryz.ntmps51
      go_wp2_with fail
      refine (HA.out _ HR.out).mono ?_
      rintro e w' ⟨rfl, rfl⟩
      rw [hs]
      have HS := Lib.hid hs
      clear hs
      go_wp2_with (at_make; refine wpList_make_full _ rfl _ _ 50 rfl w'.heap.size 9 i0 (.string ByteArray.empty) 1 Tryz.underlying50 hi hz0 hz1 .i64 .i64 _ _ rs.length rfl rfl rfl rfl (by rw [hz2]; omega) (by unfold maxLen; omega) (Nat.le_refl _) ?_; intro w0 hown0 hgrow0)
      have H0 := Lib.hid hown0
      have HG := Lib.hid hgrow0
      clear hown0 hgrow0
      have hsz : (madeCells (Value.string ByteArray.empty).cells (rs.length * 1)).toList.length = rs.length := by simp [size_madeCells]
      have HSZ := Lib.hid hsz
      clear hsz
      generalize (madeCells (Value.string ByteArray.empty).cells (rs.length * 1)).toList = ys at H0 HSZ
      go_loopw [17] (fun i wr => ∃ k : Nat, k ≤ rs.length ∧ i = .int .i64 k ∧ Hid (wr.ownsRow w'.heap.size 9 1 (.slice (some ⟨w'.heap.size, 0, none⟩) rs.length rs.length) rs.length (strs (texts (rs.take k)) ++ ys.drop k)) ∧ Hid (Below w'.heap.size w' wr)) (fun i _ => rs.length - (intOf i).toNat)
      case atStart => exact ⟨0, Nat.zero_le _, rfl, Lib.hid (by simpa [texts] using H0.out), Lib.hid ((Below.refl _ _).grown HG.out (Nat.le_refl _) (fun q hq => by cases hq))⟩
      case round =>
        obtain ⟨k, hk, rfl, hown, hbel⟩ := hrel
        have hzr : w'.heap.size ≤ wr.heap.size := hbel.out.size
        by_cases hlt : k < rs.length
        · have ce : wr.cell? ⟨b, o + k, none⟩ = some (.int .i64 (rs.getD k 0)) := by
            rw [hbel.out.cell (p := ⟨b, o + k, none⟩) (by show b < _; omega), HD.out k hlt, ints_get rs k hlt]
          have HST := Lib.hid (set_step rs ys k hlt (by rw [HSZ.out]; exact hlt))
          generalize rs.getD k 0 = x at ce HST
          go_wp2_with fail
          refine (impl_text x _).mono ?_
          rintro e w2 ⟨rfl, b2⟩
          have hown2 := owns_below hown.out b2
          have hlen : (strs (texts (rs.take k)) ++ ys.drop k).length = rs.length := by rw [List.length_append, strs_texts_len rs k hk, List.length_drop, HSZ.out]; omega
          have hsome : ∃ u, w2.cell? ⟨w'.heap.size, k, none⟩ = some u := by
            rw [hown2.cellAt k (by omega)]
            exact ⟨_, List.getElem?_eq_getElem (by omega)⟩
          obtain ⟨u, c2⟩ := hsome
          have hfz : w2.frozen? ⟨w'.heap.size, k, none⟩ = false := hown2.frozenAt k
          have st := Lib.hid (hown2.stored k (.string ⟨(setText x).toArray⟩))
          have B2 := Lib.hid (hbel.out.trans (b2.mono hzr))
          have hz2' := B2.out.size
          clear b2 hown2 hlen
          generalize hgt : setText x = tx at st
          have HGT := Lib.hid hgt
          clear hgt
          go_wp2_with fail
          go_roundw
          case rel =>
            refine ⟨k + 1, by omega, by simp, Lib.hid ?_, Lib.hid (B2.out.grown st.out.2 hz2' fun q hq => by cases hq; exact Nat.le_refl _)⟩
            have := st.out.1
            have e := HST.out x rfl
            rw [HGT.out] at e
            rwa [e] at this
          case measure => simp [intOf]; omega
        · have HK := Lib.hid (show k = rs.length by omega)
          go_wp2_with fail
          have O := Lib.hid (Own.made hown.out)
          have hfull : strs (texts (rs.take k)) ++ ys.drop k = strs (texts rs) := by rw [HK.out, List.take_length, List.drop_of_length_le (by rw [HSZ.out]; exact Nat.le_refl _), List.append_nil]
          rw [hfull] at O
          refine (sl_join _ (texts rs) [44] wr.heap.size wr (by have := O.out.reads; exact this) O.out.capOk (Nat.le_refl _) (by intro h; exact HNE.out (by simpa [texts] using h)) (by simp [texts]; omega) (by have := join_all rs; omega)).mono ?_
          rintro e w3 ⟨rfl, b3⟩
          have B3 := Lib.hid (hbel.out.trans (b3.mono hzr))
          clear b3 hfull
          go_wp2_with fail
          go_ret
          exact ⟨by rw [HX.out]; rfl, B3.out⟩
end Go.Proofs.YtkdnjebjbadloaaGreatDoor.Sets2
