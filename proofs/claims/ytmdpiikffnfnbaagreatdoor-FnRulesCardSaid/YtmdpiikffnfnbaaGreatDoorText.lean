/-
  SetText of the program and of the model: the letters of a set's elements.
-/
import Derived.Test.YtmdpiikffnfnbaaGreatDoorElems
import Derived.Laws.BytesArg
import Derived.WalkSpells
import Derived.BigRegion
namespace Go.Proofs.YtmdpiikffnfnbaaGreatDoor.Text
open Go Go.RowKit Mem Sets Elems
set_option maxRecDepth 100000

def chars (xs : List Int) : List UInt8 := xs.map fun x => UInt8.ofNat (97 + x.toNat)
def setText (s : Int) : List UInt8 := if isSet 8 s then (if s = 0 then [45] else chars (elems s)) else []
theorem elems_bound (s : Int) (j : Nat) (hj : j < (elems s).length) : 0 ≤ (elems s).getD j 0 ∧ (elems s).getD j 0 ≤ 7 := by
  have hm : (elems s).getD j 0 ∈ elems s := by
    rw [List.getD, List.getElem?_eq_getElem hj]; exact List.getElem_mem hj
  simp only [elems, elemsTo, List.mem_map, List.mem_filter, List.mem_range] at hm
  obtain ⟨e, ⟨he, _⟩, hx⟩ := hm
  simp only [elems, elemsTo] at hx ⊢
  omega
theorem elems_ne (s : Int) (hs : 0 ≤ s ∧ s ≤ 255) (h0 : s ≠ 0) : elems s ≠ [] := by
  obtain ⟨m, rfl⟩ := Int.eq_ofNat_of_zero_le hs.1
  have key : ∀ m : Nat, m < 256 → m ≠ 0 → (elems (m : Int)).isEmpty = false := by decide +kernel
  have := key m (by omega) (by omega)
  intro hc
  rw [hc] at this
  cases this
theorem chars_step (xs : List Int) (k : Nat) (hk : k < xs.length) : chars (xs.take (k + 1)) = chars (xs.take k) ++ [UInt8.ofNat (97 + (xs.getD k 0).toNat)] := by
  simp only [chars, List.take_add_one, List.getD, List.getElem?_eq_getElem hk, Option.toList_some, List.map_append, List.map_cons, List.map_nil, Option.getD_some]
theorem cases8 {n : Int} (h : 0 ≤ n ∧ n ≤ 7) : n = 0 ∨ n = 1 ∨ n = 2 ∨ n = 3 ∨ n = 4 ∨ n = 5 ∨ n = 6 ∨ n = 7 := by omega

theorem push_letter (l : List UInt8) (B : ByteArray) (c : UInt8) (h : B = ⟨#[c]⟩) : Value.string (⟨l.toArray⟩ ++ B) = Value.string ⟨(l ++ [c]).toArray⟩ := by
  subst h
  have : (⟨l.toArray⟩ : ByteArray) ++ ⟨#[c]⟩ = ⟨(l ++ [c]).toArray⟩ := by apply ByteArray.ext; simp [ByteArray.data_append]
  rw [this]

set_option maxHeartbeats 800000 in
theorem spec_text (s : Int) (w : World) :
    Calls Tryz.prog 62 #[.int .i64 s] w fun e w' => e = .returned (.string ⟨(setText s).toArray⟩) ∧ Below w.heap.size w w' := by
  by_cases hs : 0 ≤ s ∧ s ≤ 255
  · have h1 := isSet8_true hs
    by_cases h0 : s = 0
    · have hz : ((s : Int) == 0) = true := by simp [h0]
      go_enter Tryz.func62, Tryz.ntmps62
      go_wp2_with fail
      refine (spec_isSet _ _ _).mono ?_
      rintro e w' ⟨rfl, rfl⟩
      go_wp2_with fail
      go_ret
      exact ⟨by simp [setText, h0]; rfl, Below.refl _ _⟩
    · have hz : ((s : Int) == 0) = false := by simp [h0]
      have hne := elems_ne s hs h0
      have hb := elems_bound s
      have hl : (elems s).length ≤ 8 := elemsTo_le s 8
      have ht : setText s = chars (elems s) := by simp [setText, h1, h0]
      rw [ht]
      have HE := Lib.hid (spec_elems s)
      generalize elems s = xs at *
      have HB := Lib.hid hb
      have Hne := Lib.hid hne
      clear hb hne ht
      go_enter Tryz.func62, Tryz.ntmps62
      go_wp2_with fail
      refine (spec_isSet _ _ _).mono ?_
      rintro e w' ⟨rfl, rfl⟩
      go_wp2_with fail
      refine (HE.out _).mono ?_
      rintro e w1 ⟨v, rfl, o, b1⟩
      obtain ⟨_, a, ca, rfl, hca⟩ := o.reads
      obtain ⟨b, off, rfl, hb, gca⟩ := hca (by simpa [ints] using Hne.out)
      simp only [ints, List.length_map] at gca ⊢
      have HC := Lib.hid gca
      have B1 := Lib.hid b1
      clear gca hca o b1
      go_wp2_with fail
      go_loopw [3, 5] (fun t i wr => ∃ k : Nat, k ≤ xs.length ∧ i = .int .i64 k ∧ (∃ l : List UInt8, l = chars (xs.take k) ∧ t = .string ⟨l.toArray⟩) ∧ Below w1.heap.size w1 wr) (fun _ i _ => xs.length - (intOf i).toNat)
      case atStart => exact ⟨0, Nat.zero_le _, rfl, ⟨[], rfl, rfl⟩, Below.refl _ _⟩
      case round =>
        obtain ⟨k, hk, rfl, ⟨l, hL, rfl⟩, hbel⟩ := hrel
        have HL := Lib.hid hL
        have hll : l.length ≤ 8 := by rw [hL]; simp [chars]; omega
        have HP := Lib.hid hbel
        by_cases hlt : k < xs.length
        · have c1 : wr.cell? ⟨b, off + k, none⟩ = some (.int .i64 (xs.getD k 0)) := (hbel.cell (p := ⟨b, off + k, none⟩) (by show b < _; omega)).trans ((HC.out k hlt).trans (ints_get xs k hlt))
          have hx := HB.out k hlt
          clear hL hbel
          generalize hgx : xs.getD k 0 = x at c1 hx
          have Hgx := Lib.hid hgx
          clear hgx
          rcases cases8 hx with rfl | rfl | rfl | rfl | rfl | rfl | rfl | rfl
          all_goals
            go_wp2
            go_region
            all_goals go_wp2
            all_goals go_roundw
            case rel => exact ⟨k + 1, by omega, by simp, ⟨_, by rw [HL.out, chars_step xs k hlt, Hgx.out], push_letter l _ _ (by rfl)⟩, HP.out.drew⟩
            case measure => simp [intOf]; omega
        · have hkn : k = xs.length := by omega
          have HK := Lib.hid hkn
          clear hkn hL hbel
          go_wp2
          go_ret
          refine ⟨?_, B1.out.trans (HP.out.mono B1.out.size)⟩
          have : l = chars xs := by rw [HL.out, HK.out, List.take_length]
          rw [← this]
          rfl
  · have h1 := isSet8_false hs
    go_enter Tryz.func62, Tryz.ntmps62
    go_wp2_with fail
    refine (spec_isSet _ _ _).mono ?_
    rintro e w' ⟨rfl, rfl⟩
    go_wp2_with fail
    go_ret
    exact ⟨by simp [setText, h1], Below.refl _ _⟩

abbrev bytes (xs : List Int) : List Value := (xs.map fun x => 97 + x).map (Value.int .u8)
theorem bytes_step (xs : List Int) (k : Nat) (hk : k < xs.length) : bytes (xs.take (k + 1)) = bytes (xs.take k) ++ [.int .u8 (97 + xs.getD k 0)] := by
  simp only [bytes, List.take_add_one, List.getD, List.getElem?_eq_getElem hk, Option.toList_some, List.map_append, List.map_cons, List.map_nil, Option.getD_some]
theorem infoB : (Tryz.prog.info? 5).map (fun i => (i.zero, i.size, i.bytes)) = some (some (.int .u8 0), 1, 1) := by kernel_rfl
theorem str_chars (xs : List Int) (h : ∀ j, j < xs.length → 0 ≤ xs.getD j 0 ∧ xs.getD j 0 ≤ 7) : strOfNums (xs.map fun x => 97 + x) = ⟨(chars xs).toArray⟩ := by
  apply ByteArray.ext
  apply Array.toList_inj.1
  rw [strOfNums_data]
  simp only [chars, List.map_map]
  apply List.map_congr_left
  intro x hx
  obtain ⟨j, hj, rfl⟩ := List.getElem_of_mem hx
  have := h j hj
  simp only [List.getD, List.getElem?_eq_getElem hj, Option.getD_some] at this
  simp only [Function.comp]
  congr 1
  omega

set_option maxHeartbeats 800000 in
theorem impl_text (s : Int) (w : World) :
    Calls Tryz.prog 61 #[.int .i64 s] w fun e w' => e = .returned (.string ⟨(setText s).toArray⟩) ∧ Below w.heap.size w w' := by
  obtain ⟨i0, hi, hz0, hz1, hz2⟩ := info_parts infoB
  by_cases hs : 0 ≤ s ∧ s ≤ 255
  · have h1 := isSet8_true hs
    by_cases h0 : s = 0
    · have hz : ((s : Int) == 0) = true := by simp [h0]
      go_enter Tryz.func61, Tryz.ntmps61
      go_wp2_with fail
      refine (impl_any _ _).mono ?_
      rintro e w' ⟨rfl, rfl⟩
      go_wp2_with fail
      go_ret
      exact ⟨by simp [setText, h0]; rfl, Below.refl _ _⟩
    · have hz : ((s : Int) == 0) = false := by simp [h0]
      have hne := elems_ne s hs h0
      have hb := elems_bound s
      have hl : (elems s).length ≤ 8 := elemsTo_le s 8
      have ht : setText s = chars (elems s) := by simp [setText, h1, h0]
      rw [ht]
      have HE := Lib.hid (impl_elems s)
      generalize elems s = xs at *
      have HB := Lib.hid hb
      have Hne := Lib.hid hne
      clear hb hne ht
      go_enter Tryz.func61, Tryz.ntmps61
      go_wp2_with fail
      refine (impl_any _ _).mono ?_
      rintro e w' ⟨rfl, rfl⟩
      go_wp2_with fail
      refine (HE.out _).mono ?_
      rintro e w1 ⟨v, rfl, o, b1⟩
      obtain ⟨_, a, ca, rfl, hca⟩ := o.reads
      obtain ⟨b, off, rfl, hb, gca⟩ := hca (by simpa [ints] using Hne.out)
      simp only [ints, List.length_map] at gca ⊢
      have HC := Lib.hid gca
      have B1 := Lib.hid b1
      clear gca hca o b1
      go_wp2_with fail
      go_loopw [3, 14] (fun t i wr => ∃ k : Nat, k ≤ xs.length ∧ i = .int .i64 k ∧ wr.ownsRow w1.heap.size 5 1 t k (bytes (xs.take k)) ∧ Below w1.heap.size w1 wr) (fun _ i _ => xs.length - (intOf i).toNat)
      case atStart => exact ⟨0, Nat.zero_le _, rfl, World.ownsRow_nil _ _ _ _, Below.refl _ _⟩
      case round =>
        obtain ⟨k, hk, rfl, hown, hbel⟩ := hrel
        have HO := Lib.hid hown
        have HP := Lib.hid hbel
        by_cases hlt : k < xs.length
        · have c1 : wr.cell? ⟨b, off + k, none⟩ = some (.int .i64 (xs.getD k 0)) := (hbel.cell (p := ⟨b, off + k, none⟩) (by show b < _; omega)).trans ((HC.out k hlt).trans (ints_get xs k hlt))
          have hx := HB.out k hlt
          have HS := Lib.hid (bytes_step xs k hlt)
          clear hown hbel
          generalize hgx : xs.getD k 0 = x at c1 hx HS
          have Hgx := Lib.hid hgx
          clear hgx
          obtain ⟨y, hy⟩ : ∃ y : Int, y = 97 + x := ⟨_, rfl⟩
          have Hy := Lib.hid hy
          rw [← hy] at HS
          clear hy
          generalize bytes (xs.take k) = cs at HO HS
          rcases cases8 hx with rfl | rfl | rfl | rfl | rfl | rfl | rfl | rfl
          all_goals
            go_wp2_with (at_builtin; refine wpList_append_own _ rfl _ _ 22 rfl w1.heap.size 5 i0 (.int .u8 0) 1 1 Tryz.underlying22 hi hz0 hz1 hz2 rfl (by decide) _ _ _ rfl (HO.out.alloc _) ⟨wr.heap.size, 0, none⟩ 1 1 [.int .u8 y] rfl rfl ?c1 ?c2 ?c3 ?c4 ?c5 ?_)
            case c1 =>
              intro j u hj
              match j, hj with
              | 0, hj => simp at hj; subst hj; rw [Hy.out]; simp [Addr.add]; rfl
            case c2 => intro u hu; simp at hu; subst hu; rfl
            case c3 => unfold maxLen; omega
            case c4 => omega
            case c5 => have := HP.out.size; simp; omega
            intro v' w2 hown' hgrow _
            have hown2 := Lib.hid hown'
            have hgrow2 := Lib.hid hgrow
            clear hown' hgrow
            go_wp2
            go_roundw
            case rel =>
              refine ⟨k + 1, by omega, by simp, ?_, (HP.out.alloc HP.out.size _).grown hgrow2.out (by have := HP.out.size; simp; omega) fun j hj => (HO.out.lt j hj).1⟩
              rw [HS.out]
              exact hown2.out
            case measure => simp [intOf]; omega
        · have hkn : k = xs.length := by omega
          have HK := Lib.hid hkn
          rw [hkn, List.take_length] at hown
          rcases hown.2 with ⟨_, h2⟩ | ⟨g, cap, cur, rfl, _⟩
          · exact absurd (List.length_eq_zero_iff.1 (hkn ▸ h2)) Hne.out
          · have kc : (convert 22 9 (.slice (some ⟨g, 0, none⟩) xs.length cap)).run Tryz.prog wr = .ok (.string (strOfNums (xs.map fun x => 97 + x))) wr :=
              run_convert_bytes_arg (P := Tryz.prog) wr 22 5 Tryz.underlying22 Tryz.underlying5 g 0 xs.length cap (xs.map fun x => 97 + x) (by simp) (fun i hi => by
                rw [Nat.zero_add, hown.cellAt i (by omega)]
                simp [bytes, List.getD, List.getElem?_eq_getElem (by omega : i < xs.length)]) 9 Tryz.underlying9
            clear hown hbel hkn
            go_wp2
            go_ret
            refine ⟨?_, B1.out.trans (HP.out.mono B1.out.size)⟩
            rw [← str_chars xs HB.out]
            rfl
  · have h1 := isSet8_false hs
    go_enter Tryz.func61, Tryz.ntmps61
    go_wp2_with fail
    refine (impl_any _ _).mono ?_
    rintro e w' ⟨rfl, rfl⟩
    go_wp2_with fail
    go_ret
    exact ⟨by simp [setText, h1], Below.refl _ _⟩
end Go.Proofs.YtmdpiikffnfnbaaGreatDoor.Text
