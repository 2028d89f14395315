/-
  SplitByte of the program and of the model: the parts of a string at one byte, in a new row.
-/
import Derived.Test.YtmdpiikffnfnbaaGreatDoorStrs
import Derived.Test.YtmdpiikffnfnbaaGreatDoorCuts
import Derived.Test.YtmdpiikffnfnbaaGreatDoorMark
import Derived.ChangeAgain
namespace Go.Proofs.YtmdpiikffnfnbaaGreatDoor.Split
open Go Go.RowKit Mem Go.Proofs.YtmdpiikffnfnbaaGreatDoor.Mark Strs Cuts
set_option maxRecDepth 100000

/-- Where the model's loop stands: at place i, with the part begun at f. -/
def St (c : UInt8) (l : List UInt8) (i f : Nat) (xs : List (List UInt8)) : Prop :=
  xs.length ≤ i ∧ ((i ≤ l.length ∧ f ≤ i ∧ c ∉ (l.drop f).take (i - f) ∧ xs ++ cuts c (l.drop f) = cuts c l) ∨ (i = l.length + 1 ∧ f = l.length + 1 ∧ xs = cuts c l))
theorem take_cut (l : List UInt8) (f i : Nat) (h1 : f ≤ i) (h2 : i < l.length) : l.drop f = (l.drop f).take (i - f) ++ l[i] :: l.drop (i + 1) := by
  have h := (List.take_append_drop (i - f) (l.drop f)).symm
  rw [List.drop_drop, show f + (i - f) = i by omega, List.drop_eq_getElem_cons h2] at h
  exact h
theorem St.start (c : UInt8) (l : List UInt8) : St c l 0 0 [] := ⟨by simp, .inl ⟨by simp, by simp, by simp, by simp⟩⟩
theorem St.skip {c : UInt8} {l : List UInt8} {i f : Nat} {xs : List (List UInt8)} (h : St c l i f xs) (hi : i < l.length) (hc : ¬ l[i] = c) : St c l (i + 1) f xs := by
  obtain ⟨h0, ⟨h1, h2, h3, h4⟩ | h1⟩ := h
  · refine ⟨by omega, .inl ⟨by omega, by omega, ?_, h4⟩⟩
    have e : (l.drop f).take (i + 1 - f) = (l.drop f).take (i - f) ++ [l[i]] := by
      rw [show i + 1 - f = (i - f) + 1 by omega, List.take_add_one, List.getElem?_drop, show f + (i - f) = i by omega, List.getElem?_eq_getElem hi]
      rfl
    rw [e, List.mem_append]
    rintro (h | h)
    · exact h3 h
    · simp only [List.mem_singleton] at h; exact hc h.symm
  · omega
theorem St.cut {c : UInt8} {l : List UInt8} {i f : Nat} {xs : List (List UInt8)} (h : St c l i f xs) (hi : i < l.length) (hc : l[i] = c) : St c l (i + 1) (i + 1) (xs ++ [(l.drop f).take (i - f)]) := by
  obtain ⟨h0, ⟨h1, h2, h3, h4⟩ | h1⟩ := h
  · refine ⟨by simp; omega, .inl ⟨by omega, by omega, by simp, ?_⟩⟩
    rw [take_cut l f i h2 hi, hc, cuts_hit c _ _ h3] at h4
    simpa using h4
  · omega
theorem St.last {c : UInt8} {l : List UInt8} {i f : Nat} {xs : List (List UInt8)} (h : St c l i f xs) (hi : i = l.length) : St c l (i + 1) (i + 1) (xs ++ [(l.drop f).take (i - f)]) := by
  obtain ⟨h0, ⟨h1, h2, h3, h4⟩ | h1⟩ := h
  · refine ⟨by simp; omega, .inr ⟨by omega, by omega, ?_⟩⟩
    have e : (l.drop f).take (i - f) = l.drop f := List.take_of_length_le (by rw [List.length_drop]; omega)
    rw [e] at h3 ⊢
    rw [← h4, cuts_none c _ h3]
  · omega
theorem extract_cut (l : List UInt8) (f i : Nat) : (⟨l.toArray⟩ : ByteArray).extract f i = ⟨((l.drop f).take (i - f)).toArray⟩ := by
  apply ByteArray.ext
  apply Array.toList_inj.1
  simp [ByteArray.data_extract]

set_option maxRecDepth 100000 in
set_option maxHeartbeats 800000 in
theorem spec_split (l : List UInt8) (c : UInt8) (hl : l.length ≤ 1048576) (w : World) :
    Calls Tryz.prog 52 #[.string ⟨l.toArray⟩, .int .u8 c.toNat] w fun e w' => ∃ v, e = .returned v ∧ Own 9 w' w.heap.size w'.heap.size v (strs (cuts c l)) ∧ Below w.heap.size w w' := by
  obtain ⟨i0, hi, hz0, hz1, hz2⟩ := info_parts infoS
  have hcut : (⟨l.toArray⟩ : ByteArray).size = l.length := by simp [ByteArray.size]
  go_enter Tryz.func52, Tryz.ntmps52
  go_wp2_with fail
  go_loopw [5, 6, 7] (fun v f i wr => ∃ (i' f' : Nat) (xs : List (List UInt8)), i = .int .i64 i' ∧ f = .int .i64 f' ∧ wr.ownsRow w.heap.size 9 1 v xs.length (strs xs) ∧ Below w.heap.size w wr ∧ St c l i' f' xs) (fun _ _ i _ => l.length + 1 - (intOf i).toNat)
  case atStart => exact ⟨0, 0, [], rfl, rfl, World.ownsRow_lit w #[] 0 (Nat.le_refl _) (Nat.zero_le _) rfl, (Below.refl _ _).alloc (Nat.le_refl _) _, St.start c l⟩
  case round =>
    obtain ⟨i, f, xs, rfl, rfl, hown, hbel, hst⟩ := hrel
    have HO := Lib.hid hown
    have HB := Lib.hid hbel
    have HS := Lib.hid hst
    have hx : xs.length ≤ i := hst.1
    have hsz := hbel.size
    clear hown hbel
    rcases hst.2 with ⟨h1, h2, _, _⟩ | ⟨h1, h2, h3⟩
    · clear hst
      by_cases hlt : i < l.length
      · have hk' : i < (⟨l.toArray⟩ : ByteArray).size := by rw [hcut]; exact hlt
        have hget : (⟨l.toArray⟩ : ByteArray)[i] = l[i] := rfl
        have hq0 : ((i : Int) == (l.length : Int)) = false := by simp; omega
        by_cases hc : l[i] = c
        · have hq : (((l[i].toNat : Nat) : Int) == (c.toNat : Int)) = true := by rw [hc]; simp
          have HC := Lib.hid hc
          clear hc
          go_wp2_with (at_builtin; refine wpList_append_own _ rfl _ _ 69 rfl w.heap.size 9 i0 (.string ByteArray.empty) 1 16 Tryz.underlying69 hi hz0 hz1 hz2 rfl (by decide) _ _ _ rfl (HO.out.alloc _) ⟨wr.heap.size, 0, none⟩ 1 1 [.string ⟨((l.drop f).take (i - f)).toArray⟩] rfl rfl ?c1 ?c2 ?c3 ?c4 ?c5 ?_)
          case c1 =>
            intro j u hj
            match j, hj with
            | 0, hj => simp at hj; subst hj; rw [← extract_cut]; simp [Addr.add]
          case c2 => intro u hu; simp at hu; subst hu; rfl
          case c3 => unfold maxLen; omega
          case c4 => omega
          case c5 => simp; omega
          intro v' w2 hown' hgrow _
          have hown2 := Lib.hid hown'
          have hgrow2 := Lib.hid hgrow
          clear hown' hgrow
          go_wp2
          go_roundw
          case rel =>
            refine ⟨i + 1, i + 1, xs ++ [(l.drop f).take (i - f)], by simp, by simp, ?_, (HB.out.alloc HB.out.size _).grown hgrow2.out (by simp; omega) (fun j hj => (HO.out.lt j hj).1), HS.out.cut hlt HC.out⟩
            simpa using hown2.out
          case measure => simp [intOf]; omega
        · have hq : (((l[i].toNat : Nat) : Int) == (c.toNat : Int)) = false := by
            rw [beq_eq_false_iff_ne]
            intro h
            exact hc (UInt8.toNat_inj.1 (by omega))
          have HC := Lib.hid hc
          clear hc
          go_wp2
          refine ⟨⟨i + 1, f, xs, by simp, rfl, HO.out, HB.out, HS.out.skip hlt HC.out⟩, by simp [intOf]; omega⟩
      · have hil : i = l.length := by omega
        have HI := Lib.hid hil
        have hq0 : ((i : Int) == (l.length : Int)) = true := by simp; omega
        clear hil
        have hle : ((i : Int) ≤ (l.length : Int)) := by omega
        go_wp2_with (at_builtin; refine wpList_append_own _ rfl _ _ 69 rfl w.heap.size 9 i0 (.string ByteArray.empty) 1 16 Tryz.underlying69 hi hz0 hz1 hz2 rfl (by decide) _ _ _ rfl (HO.out.alloc _) ⟨wr.heap.size, 0, none⟩ 1 1 [.string ⟨((l.drop f).take (i - f)).toArray⟩] rfl rfl ?c1 ?c2 ?c3 ?c4 ?c5 ?_)
        case c1 =>
          intro j u hj
          match j, hj with
          | 0, hj => simp at hj; subst hj; rw [← extract_cut]; simp [Addr.add]
        case c2 => intro u hu; simp at hu; subst hu; rfl
        case c3 => unfold maxLen; omega
        case c4 => omega
        case c5 => simp; omega
        intro v' w2 hown' hgrow _
        have hown2 := Lib.hid hown'
        have hgrow2 := Lib.hid hgrow
        clear hown' hgrow
        go_wp2
        go_roundw
        case rel =>
          refine ⟨i + 1, i + 1, xs ++ [(l.drop f).take (i - f)], by simp, by simp, ?_, (HB.out.alloc HB.out.size _).grown hgrow2.out (by simp; omega) (fun j hj => (HO.out.lt j hj).1), HS.out.last HI.out⟩
          simpa using hown2.out
        case measure => simp [intOf]; omega
    · have H3 := Lib.hid h3
      clear hst h3
      go_wp2
      go_ret
      rw [← H3.out]
      refine ⟨_, rfl, Own.made HO.out, HB.out⟩
end Go.Proofs.YtmdpiikffnfnbaaGreatDoor.Split
