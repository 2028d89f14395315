/-
  Chapter 6 of the model: the covers of a concept.
-/
import Derived.Test.YtdkgmjbhkifcbaaSLat1
namespace Go.Proofs.Ytdkgmjbhkifcbaa.Tab
open Go Go.RowKit Mem Sets Ctx
set_option maxRecDepth 100000

/-- Concept k is not strictly between i and b. -/
def apartB (l : List PInt) (up : Bool) (i b k : Nat) : Bool := decide (k = i) || (decide (k = b) || (!srt l up i k || !srt l up k b))
def fineN (l : List PInt) (up : Bool) (i b : Nat) (k : Nat) : Bool := (List.range k).all (apartB l up i b)
theorem fineN_succ (l : List PInt) (up : Bool) (i b k : Nat) : fineN l up i b (k + 1) = (fineN l up i b k && apartB l up i b k) := by
  simp [fineN, List.range_succ]
def covS (l : List PInt) (up : Bool) (i b : Nat) : Bool := decide (b ≠ i) && (srt l up i b && fineN l up i b l.length)
def covL (l : List PInt) (up : Bool) (x : Int) : List Int := if exi l x = true then covN (covS l up x.toNat) l.length else []
set_option maxHeartbeats 3200000 in
theorem covers_ (v : Value) (l : List PInt) (x : Int) (up : Bool) (B : Nat) (w : World) (hr : ReadsP w B v l) (hB : B ≤ w.heap.size) (hn : l.length ≤ 256) :
    Calls Try.prog 115 #[v, .int .i64 x, .bool up] w fun e w' => ∃ u, e = .returned u ∧ Mem.Own 3 w' w.heap.size w'.heap.size u (ints (covL l up x)) ∧ Below w.heap.size w w' := by
  obtain ⟨i0, hinf, hy0, hy1, hy2⟩ := info_parts Ints.info
  obtain ⟨aa, ca, rfl⟩ := hr.form
  have HR := Lib.hid hr
  clear hr
  obtain ⟨n, hl⟩ : ∃ n, l.length = n := ⟨_, rfl⟩
  have HN := Lib.hid hl
  rw [hl] at hn ⊢
  have HEX := Lib.hid fun w => exists_ aa n ca x w hn
  rw [show (decide (0 ≤ x) && decide (x < n)) = exi l x by rw [exi, hl]] at HEX
  have HSO := Lib.hid fun (i j : Nat) (w' : World) (hb : Below w.heap.size w w') (hi : i < n) (hj : j < n) => sorted_ (.slice aa l.length ca) l i j up B w' (HR.out.below hb hB) (Nat.le_trans hB hb.size) (by rw [hl]; exact hn) (by rw [hl]; exact hi) (by rw [hl]; exact hj)
  rw [hl] at HSO
  clear hl
  have hO0 : ((w.alloc (.cells #[] 3))).ownsRow w.heap.size 3 1 (.slice (some ⟨w.heap.size, 0, none⟩) 0 0) 0 [] := by
    have := World.ownsRow_lit w (e := 3) (size := 1) (base := w.heap.size) #[] 0 (by simp) (Nat.zero_le _) rfl
    simpa using this
  have hb0 := (Below.refl w.heap.size w).alloc (Nat.le_refl _) (.cells #[] 3)
  go_enter Try.func115, Try.ntmps115
  go_wp2_with fail
  generalize (w.alloc (.cells #[] 3)) = V at hO0 hb0 ⊢
  rcases Bool.eq_false_or_eq_true (exi l x) with hx | hx
  · rw [hx] at HEX
    have HV : Hid (covL l up x = covN (covS l up x.toNat) n) := Lib.hid (by rw [covL, if_pos hx, HN.out])
    obtain ⟨i, rfl, hi⟩ := exi_nat hx
    rw [HN.out] at hi
    rw [Int.toNat_natCast] at HV
    clear hx
    go_loopw [7, 8] (fun t j wr => ∃ k : Nat, j = .int .i64 k ∧ k ≤ n ∧ Hid (wr.ownsRow w.heap.size 3 1 t (covN (covS l up i) k).length (ints (covN (covS l up i) k))) ∧ Hid (Below w.heap.size w wr)) (fun _ j _ => n - (intOf j).toNat)
    case atStart => exact ⟨0, rfl, by omega, Lib.hid hO0, Lib.hid hb0⟩
    case round =>
      obtain ⟨k, rfl, hk, ho, hb⟩ := hrel
      clear hO0 hb0
      by_cases hkn : k < n
      · have HL := Lib.hid (covN_len (covS l up i) k)
        have hzr := hb.out.size
        by_cases hki : k = i
        · have HO' := Lib.hid ho.out
          rw [show covN (covS l up i) k = covN (covS l up i) (k + 1) from (covN_no (by simp [covS, hki])).symm] at HO'
          have he : ((k : Int) == (i : Int)) = true := by simp [hki]
          have HK := Lib.hid hki
          clear hki ho
          go_wp2_with fail
          refine (HEX.out _).mono ?_
          rintro e w' ⟨rfl, rfl⟩
          go_wp2_with fail
          exact ⟨⟨k + 1, by simp, by omega, HO', hb⟩, by simp only [intOf]; omega⟩
        · have he : ((k : Int) == (i : Int)) = false := by simp; omega
          have HKI : Hid (decide (k ≠ i) = true) := Lib.hid (by simp [hki])
          clear hki
          have HS0 := Lib.hid (HSO.out i k wr hb.out hi hkn)
          rcases Bool.eq_false_or_eq_true (srt l up i k) with hs | hs
          · rw [hs] at HS0
            have HS := Lib.hid hs
            clear hs
            obtain ⟨av, cv, rfl⟩ := rowP_form ho.out
            obtain ⟨z, hz⟩ : ∃ z, (covN (covS l up i) k).length = z := ⟨_, rfl⟩
            rw [hz] at ho HL ⊢
            have HZ := Lib.hid hz
            clear hz
            go_wp2_with fail
            refine (HEX.out _).mono ?_
            rintro e w' ⟨rfl, rfl⟩
            go_wp2_with fail
            refine HS0.out.mono ?_
            rintro e w3 ⟨rfl, b3⟩
            have b3' := Lib.hid (hb.out.trans (b3.mono hzr))
            have O3 := Lib.hid (rowP_same ho.out fun q hq => b3.block q (ho.out.lt q hq).2)
            clear b3 HS0 ho hb
            go_wp2_with fail
            go_loopw [9, 10] (fun f j wi => ∃ m : Nat, j = .int .i64 m ∧ m ≤ n ∧ f = .bool (fineN l up i k m) ∧ Hid (wi.ownsRow w.heap.size 3 1 (.slice av z cv) z (ints (covN (covS l up i) k))) ∧ Hid (Below w.heap.size w wi)) (fun _ j _ => n - (intOf j).toNat)
            case atStart => exact ⟨0, rfl, by omega, rfl, O3, b3'⟩
            case round =>
              obtain ⟨m, rfl, hm, rfl, ho, hb⟩ := hrel
              clear O3 b3' hzr
              have hzr := hb.out.size
              by_cases hmn : m < n
              · have HFS := Lib.hid (fineN_succ l up i k m)
                rcases Bool.eq_false_or_eq_true (fineN l up i k m) with hf | hf
                · rw [hf, Bool.true_and] at HFS
                  rw [hf]
                  by_cases hmi : m = i
                  · have ha : Hid (fineN l up i k (m + 1) = true) := Lib.hid (by rw [HFS.out]; simp [apartB, hmi])
                    have he1 : ((m : Int) == (i : Int)) = true := by simp [hmi]
                    clear hmi hf
                    go_wp2_with fail
                    exact ⟨⟨m + 1, by simp, by omega, by rw [ha.out], ho, hb⟩, by simp only [intOf]; omega⟩
                  · have he1 : ((m : Int) == (i : Int)) = false := by simp; omega
                    by_cases hmk : m = k
                    · have ha : Hid (fineN l up i k (m + 1) = true) := Lib.hid (by rw [HFS.out]; simp [apartB, hmk])
                      have he2 : ((m : Int) == (k : Int)) = true := by simp [hmk]
                      clear hmi hmk hf
                      go_wp2_with fail
                      exact ⟨⟨m + 1, by simp, by omega, by rw [ha.out], ho, hb⟩, by simp only [intOf]; omega⟩
                    · have he2 : ((m : Int) == (k : Int)) = false := by simp; omega
                      have hap : Hid (fineN l up i k (m + 1) = (!srt l up i m || !srt l up m k)) := Lib.hid (by rw [HFS.out]; simp [apartB, hmi, hmk])
                      clear hmi hmk hf
                      have HS1 := Lib.hid (HSO.out i m wr hb.out hi hmn)
                      rcases Bool.eq_false_or_eq_true (srt l up i m) with hs1 | hs1
                      · rw [hs1] at HS1 hap
                        have HS2 := Lib.hid fun w' hb' => HSO.out m k w' hb' hmn hkn
                        obtain ⟨r, hr⟩ : ∃ r, srt l up m k = r := ⟨_, rfl⟩
                        rw [hr] at HS2 hap
                        clear hr hs1
                        go_wp2_with fail
                        refine HS1.out.mono ?_
                        rintro e w4 ⟨rfl, b4⟩
                        have b4' := Lib.hid (hb.out.trans (b4.mono hzr))
                        have O4 := Lib.hid (rowP_same ho.out fun q hq => b4.block q (ho.out.lt q hq).2)
                        have hz4 := b4'.out.size
                        clear b4
                        go_wp2_with fail
                        refine (HS2.out w4 b4'.out).mono ?_
                        rintro e w5 ⟨rfl, b5⟩
                        have b5' := Lib.hid (b4'.out.trans (b5.mono hz4))
                        have O5 := Lib.hid (rowP_same O4.out fun q hq => b5.block q (O4.out.lt q hq).2)
                        clear b5
                        go_wp2_with fail
                        exact ⟨⟨m + 1, by simp, by omega, by rw [hap.out]; rfl, O5, b5'⟩, by simp only [intOf]; omega⟩
                      · rw [hs1] at HS1 hap
                        clear hs1
                        go_wp2_with fail
                        refine HS1.out.mono ?_
                        rintro e w4 ⟨rfl, b4⟩
                        have b4' := Lib.hid (hb.out.trans (b4.mono hzr))
                        have O4 := Lib.hid (rowP_same ho.out fun q hq => b4.block q (ho.out.lt q hq).2)
                        clear b4
                        go_wp2_with fail
                        exact ⟨⟨m + 1, by simp, by omega, by rw [hap.out]; rfl, O4, b4'⟩, by simp only [intOf]; omega⟩
                · rw [hf, Bool.false_and] at HFS
                  rw [hf]
                  clear hf
                  go_wp2_with fail
                  exact ⟨⟨m + 1, by simp, by omega, by rw [HFS.out], ho, hb⟩, by simp only [intOf]; omega⟩
              · have hmn2 : m = n := by omega
                subst hmn2
                rcases Bool.eq_false_or_eq_true (fineN l up i k m) with hf | hf
                · have HC : Hid (covS l up i k = true) := Lib.hid (by rw [covS, HN.out, hf, HS.out, HKI.out]; rfl)
                  rw [hf]
                  clear hf
                  have O6 := Lib.hid (ho.out.alloc (.cells #[.int .i64 k] 3))
                  have D6 := Lib.hid (hb.out.alloc hzr (.cells #[.int .i64 k] 3))
                  have HK1 : Hid (z + 1 ≤ maxLen) := Lib.hid (by have := HL.out; unfold maxLen; omega)
                  have HK2 : Hid ((z + 1) * 8 ≤ 140737488355328) := Lib.hid (by have := HL.out; omega)
                  go_wp2_with (at_builtin; refine wpList_append_lies _ rfl _ _ _ rfl w.heap.size 3 i0 (.int .i64 0) 1 8 Try.underlying24 hinf hy0 hy1 hy2 rfl (by decide) _ z _ rfl O6.out ⟨wr.heap.size, 0, none⟩ 1 1 [.int .i64 (k : Int)] rfl rfl (news1 _ _ _) (one1 _ _) Nat.one_pos HK1.out HK2.out (by simp; omega) _ rfl ?_)
                  intro g cap w4 hown hgrow hat hlt4
                  have D7 := D6.out.grown hgrow (by simp; omega) (fun q hq => (O6.out.lt q hq).1)
                  have O7 : Hid (w4.ownsRow w.heap.size 3 1 (.slice (some ⟨g, 0, none⟩) (z + 1) cap) (covN (covS l up i) (k + 1)).length (ints (covN (covS l up i) (k + 1)))) := Lib.hid (by rw [covN_yes HC.out, List.length_append, HZ.out, ints, List.map_append]; exact hown)
                  have D8 := Lib.hid D7
                  clear hown hgrow hat hlt4 D7 O6 D6
                  go_wp2_with fail
                  exact ⟨⟨k + 1, by simp, by omega, O7, D8⟩, by simp only [intOf]; omega⟩
                · have HO' : Hid (wr.ownsRow w.heap.size 3 1 (.slice av z cv) (covN (covS l up i) (k + 1)).length (ints (covN (covS l up i) (k + 1)))) := Lib.hid (by
                    rw [show covN (covS l up i) (k + 1) = covN (covS l up i) k from covN_no (by rw [covS, HN.out, hf]; simp), HZ.out]
                    exact ho.out)
                  rw [hf]
                  clear hf
                  go_wp2_with fail
                  exact ⟨⟨k + 1, by simp, by omega, HO', hb⟩, by simp only [intOf]; omega⟩
          · rw [hs] at HS0
            have HO' := Lib.hid ho.out
            rw [show covN (covS l up i) k = covN (covS l up i) (k + 1) from (covN_no (by simp [covS, hs])).symm] at HO'
            clear hs
            go_wp2_with fail
            refine (HEX.out _).mono ?_
            rintro e w' ⟨rfl, rfl⟩
            go_wp2_with fail
            refine HS0.out.mono ?_
            rintro e w3 ⟨rfl, b3⟩
            have b3' := Lib.hid (hb.out.trans (b3.mono hzr))
            have O3 := Lib.hid (rowP_same HO'.out fun q hq => b3.block q (HO'.out.lt q hq).2)
            clear b3
            go_wp2_with fail
            exact ⟨⟨k + 1, by simp, by omega, O3, b3'⟩, by simp only [intOf]; omega⟩
      · have hkn2 : k = n := by omega
        subst hkn2
        have HF := Lib.hid (Own.made ho.out)
        go_wp2_with fail
        go_ret
        exact ⟨_, rfl, by rw [HV.out]; exact HF.out, hb.out⟩
  · rw [hx] at HEX
    have HV : Hid (covL l up x = []) := Lib.hid (by rw [covL, if_neg (by rw [hx]; simp)])
    clear hx
    have HF := Lib.hid (Own.made hO0)
    have HB0 := Lib.hid hb0
    clear hO0 hb0
    go_loopw [7, 8] (fun t j wr => j = .int .i64 0 ∧ t = .slice (some ⟨w.heap.size, 0, none⟩) 0 0 ∧ wr = V) (fun _ _ _ => 0)
    case atStart => exact ⟨rfl, rfl, rfl⟩
    case round =>
      obtain ⟨rfl, rfl, rfl⟩ := hrel
      by_cases hn0 : 0 < n
      · go_wp2_with fail
        refine (HEX.out _).mono ?_
        rintro e w' ⟨rfl, rfl⟩
        go_wp2_with fail
        go_ret
        exact ⟨_, rfl, by rw [HV.out]; exact HF.out, HB0.out⟩
      · have hn1 : n = 0 := by omega
        subst hn1
        go_wp2_with fail
        go_ret
        exact ⟨_, rfl, by rw [HV.out]; exact HF.out, HB0.out⟩
end Go.Proofs.Ytdkgmjbhkifcbaa.Tab
