/-
  Chapter 10 of the program: the rules from the pseudo-closed sets of a closure operator to their closures.
-/
import Derived.Test.YthodmmckekgkdaaLec
import Derived.Test.YthodmmckekgkdaaMrg3
import Derived.Test.YthodmmckekgkdaaRuleI3
import Derived.Test.YthodmmckekgkdaaMrg2
namespace Go.Proofs.Ythodmmckekgkdaa.Stem
open Go Go.RowKit Mem Sets Ctx Tab Rule Lectic
set_option maxRecDepth 100000

theorem stemTo_mem {cl : Nat → Nat} {l : List Nat} {r : PInt} : ∀ {k : Nat}, k ≤ l.length → r ∈ stemTo cl l k → ∃ x ∈ l, r = ruleOf cl x
  | 0, _, h => by cases h
  | k + 1, hk, h => by
    rw [stemTo_succ] at h
    split at h
    · rcases List.mem_append.1 h with h | h
      · exact stemTo_mem (by omega) h
      · refine ⟨l.getD k 0, ?_, List.mem_singleton.1 h⟩
        rw [List.getD_eq_getElem?_getD, List.getElem?_eq_getElem (by omega)]
        exact List.getElem_mem (by omega)
    · exact stemTo_mem (by omega) h
theorem stemTo_8 {cl : Nat → Nat} {n k : Nat} (C : Clo n cl) (hn : n ≤ 6) (hk : k ≤ 2 ^ n) : allIn 8 (stemTo cl (lecN n) k) = true := by
  have h8 := pow_le8 (n := n) (by omega)
  refine List.all_eq_true.2 fun r hr => ?_
  obtain ⟨x, hx, rfl⟩ := stemTo_mem (by rw [lecN_len]; exact hk) hr
  have h1 := (lecN_mem (n := n) hn).1 hx
  have h2 := C.lt x
  show (isSet 8 ((x : Nat) : Int) && isSet 8 ((cl x : Nat) : Int)) = true
  rw [isSet8_true (by omega), isSet8_true (by omega)]; rfl
/-- A set is closed by rules exactly if it respects all of them. -/
theorem closed_all {l : List PInt} {x : Nat} (h8 : allIn 8 l = true) (hx : x < 256) : (closedBy l (x : Int) == (x : Int)) = allR l x := by
  have hs := cl_spec (fun k hk => allIn_lt h8 hk) (s := x) (by omega)
  have e : closedBy l (x : Int) = ((cl l x : Nat) : Int) := by rw [closedBy, if_pos ⟨h8, isSet8_true (by omega)⟩, Int.toNat_natCast]
  rw [e]
  cases h : allR l x with
  | true =>
    have : cl l x = x := hs.eq ⟨Le.refl x, h, fun u _ h => h⟩
    rw [this]; simp
  | false =>
    rw [beq_eq_false_iff_ne]
    intro he
    have h1 : cl l x = x := by omega
    have := hs.all
    rw [h1, h] at this; cases this
theorem stemTo_suc2 (cl : Nat → Nat) (l : List Nat) (k : Nat) : stemTo cl l (k + 1) = if cl (l.getD k 0) ≠ l.getD k 0 ∧ allR (stemTo cl l k) (l.getD k 0) = true then stemTo cl l k ++ [(((l.getD k 0 : Nat) : Int), ((cl (l.getD k 0) : Nat) : Int))] else stemTo cl l k := rfl
theorem ownP_nil (e : TypeId) (w : World) (lo : Nat) : OwnP e w lo w.heap.size (.slice none 0 0) [] := OwnP.made (n := 0) (World.ownsRow_nil _ _ _ _)
set_option maxHeartbeats 3200000 in
theorem impl_closureBase (n : Nat) (hn6 : n ≤ 6) (g : FuncId) (lb : Array Value) (cl : Nat → Nat) (C : Clo n cl) (w : World) (eg : ∀ args w, (callFunc g args).run Try.prog w = .ok (.enter g args) w)
    (HF : ∀ (p : Past w) (x : Nat), x < 2 ^ n → Calls Try.prog g (#[.int .i64 (x : Int)] ++ lb) p.w fun e w' => e = .returned (.int .i64 ((cl x : Nat) : Int)) ∧ Below p.w.heap.size p.w w') :
    Calls Try.prog 56 #[.int .i64 (n : Int), .func (.func g) #[] lb] w fun e w' => ∃ u, e = .returned u ∧ OwnP 43 w' w.heap.size w'.heap.size u (stemTo cl (lecN n) (2 ^ n)) ∧ Below w.heap.size w w' := by
  obtain ⟨i0, hinf, hz0, hz1, hz2⟩ := info_parts PRule.infoT
  have hN64 := pow6 hn6
  have HLX := Lib.hid (impl_lectic n w hn6)
  have HLT : Hid (∀ k, k < 2 ^ n → (lecN n).getD k 0 < 2 ^ n) := Lib.hid fun k hk => by rw [lecN_get hk]; exact layTo_lt (Nat.le_refl _)
  have HLE := Lib.hid fun k => stemTo_len cl (lecN n) k
  have HST := Lib.hid fun k => stemTo_suc2 cl (lecN n) k
  have H8 := Lib.hid fun k (hk : k ≤ 2 ^ n) => stemTo_8 C hn6 hk
  have HFH := Lib.hid HF
  clear hn6 HF C
  generalize 2 ^ n = N at hN64 HLX HLT H8 HFH ⊢
  go_enter Try.func56, Try.ntmps56
  go_wp2_with fail
  refine HLX.out.mono ?_
  rintro e V ⟨gl, ccl, rfl, hgl, hgl2, hcl, b2⟩
  clear HLX
  have hVz : w.heap.size ≤ V.heap.size := b2.size
  have HVW := Lib.hid b2
  have V2 := Lib.hid fun (q : Past V) (k : Nat) (hk : k < N) => Past.cell (hcl k hk) (by show gl < _; omega) q
  have HCV := Lib.hid fun (q : Past V) (x : Nat) (hx : x < N) => q.ofB (HFH.out ⟨q.w, HVW.out.trans (q.h.mono hVz)⟩ x hx)
  clear b2 hcl
  go_wp2_with fail
  go_loopw [5, 12] (fun ov i wr => ∃ (k : Nat) (u0 : Value) (q : Past V), k ≤ N ∧ i = .int .i64 k ∧ ov = u0 ∧ Hid (q.w.ownsRow V.heap.size 43 2 u0 (stemTo cl (lecN n) k).length (prs (stemTo cl (lecN n) k))) ∧ wr = q.w) (fun _ i _ => N - (intOf i).toNat)
  case atStart => exact ⟨0, _, Past.start V, Nat.zero_le _, rfl, rfl, Lib.hid (World.ownsRow_nil _ _ _ _), rfl⟩
  case round =>
    obtain ⟨k, u0, q, hk, rfl, rfl, hown, rfl⟩ := hrel
    have hqz := q.size
    by_cases hlt : k < N
    · have hx := HLT.out k hlt
      have cx := V2.out q k hlt
      have hstep := HST.out k
      have hlen := HLE.out k
      have h8 := H8.out k (by omega)
      obtain ⟨l, hl⟩ : ∃ l, stemTo cl (lecN n) k = l := ⟨_, rfl⟩
      rw [hl] at hstep hown hlen h8
      obtain ⟨m, hm⟩ : ∃ m, l.length = m := ⟨_, rfl⟩
      have HM := Lib.hid hm
      rw [hm] at hown hlen
      generalize (lecN n).getD k 0 = x at hx cx hstep
      have HCL := Lib.hid (HCV.out q x hx)
      obtain ⟨av, cv, hov⟩ := rowP_form hown.out
      subst hov
      have hca := closed_all h8 (show x < 256 by omega)
      have HSTP := Lib.hid hstep
      clear hl hstep hm
      generalize cl x = y at HCL HSTP
      go_wp2_with fail
      refine HCL.out.mono ?_
      rintro e _ ⟨rfl, q2, rfl, b2⟩
      have hown2 := Lib.hid (rowP_same hown.out fun g hg => b2.block g (hown.out.lt g hg).2)
      clear b2 HCL
      by_cases hyx : y = x
      · have hd : ((y : Int) != (x : Int)) = false := by simp [hyx]
        have HE : Hid (stemTo cl (lecN n) (k + 1) = l) := Lib.hid (by rw [HSTP.out, if_neg (fun h => h.1 hyx)])
        clear hyx hca
        go_wp2_with fail
        go_roundw
        case rel => exact ⟨k + 1, _, q2, by omega, by simp, rfl, Lib.hid (by rw [HE.out, HM.out]; exact hown2.out), rfl⟩
        case measure => simp [intOf]; omega
      · have hd : ((y : Int) != (x : Int)) = true := by simp; omega
        have HCB := Lib.hid (q2.ofB (impl_closedBy _ l (x : Int) q2.w.heap.size q2.w (OwnP.made hown2.out).reads (Nat.le_refl _)))
        generalize closedBy l (x : Int) = z at HCB hca
        go_wp2_with fail
        refine HCB.out.mono ?_
        rintro e _ ⟨rfl, q3, rfl, b3⟩
        have hown3 := Lib.hid (rowP_same hown2.out fun g hg => b3.block g (hown2.out.lt g hg).2)
        clear b3 HCB
        cases hall : allR l x with
        | false =>
          have HE : Hid (stemTo cl (lecN n) (k + 1) = l) := Lib.hid (by rw [HSTP.out, if_neg (fun h => by rw [hall] at h; cases h.2)])
          rw [hall] at hca
          clear hall hyx
          go_wp2_with fail
          go_roundw
          case rel => exact ⟨k + 1, _, q3, by omega, by simp, rfl, Lib.hid (by rw [HE.out, HM.out]; exact hown3.out), rfl⟩
          case measure => simp [intOf]; omega
        | true =>
          have HE : Hid (stemTo cl (lecN n) (k + 1) = l ++ [((x : Int), (y : Int))]) := Lib.hid (by rw [HSTP.out, if_pos ⟨hyx, hall⟩])
          rw [hall] at hca
          clear hall hyx
          have hq3 := q3.size
          have HK1 : Hid (m + 1 ≤ maxLen) := Lib.hid (by unfold maxLen; omega)
          have HK2 : Hid ((m + 1) * 16 ≤ 140737488355328) := Lib.hid (by omega)
          go_wp2_with (at_builtin; refine wpList_append_lies _ rfl _ _ _ rfl V.heap.size 43 i0 (.agg #[.int .i64 0, .int .i64 0]) 2 16 Try.underlying28 hinf hz0 hz1 hz2 rfl (by decide) _ m _ rfl (hown3.out.alloc _) ⟨q3.w.heap.size, 0, none⟩ 1 1 (prs [((x : Int), (y : Int))]) rfl rfl (newsQ _ _ _ _) (oneQ _) Nat.one_pos HK1.out HK2.out (by simp; omega) _ rfl ?_)
          intro g2 cap w4 hown4 hgrow hat hlt4
          have HP4 : Hid (∃ q4 : Past V, q4.w = w4) := Lib.hid ⟨⟨w4, (q3.h.alloc q3.size _).grown hgrow (q3.alloc _).size (fun j hj => (hown3.out.lt j hj).1)⟩, rfl⟩
          obtain ⟨q4, rfl⟩ := HP4.out
          have HO4 := Lib.hid hown4
          clear hown4 hgrow hat HP4
          go_wp2_with fail
          go_roundw
          case rel => exact ⟨k + 1, _, q4, by omega, by simp, rfl, Lib.hid (by rw [HE.out, prs_app, List.length_append, HM.out]; exact HO4.out), rfl⟩
          case measure => simp [intOf]; omega
    · have HK := Lib.hid (show k = N by omega)
      have hrow := hown.out
      rw [HK.out] at hrow
      have HO := Lib.hid (OwnP.made hrow)
      have hbb := HVW.out.trans (q.h.mono (by omega))
      obtain ⟨av, cv, hov⟩ := rowP_form hown.out
      subst hov
      clear hrow
      go_wp2_with fail
      go_ret
      exact ⟨_, rfl, HO.out.mono (by omega) (Nat.le_refl _), hbb⟩
end Go.Proofs.Ythodmmckekgkdaa.Stem
