/-
  parseRows: for every text the rows that it spells, or an error of the program's own type.
-/
import Derived.Test.YtkdnjebjbadloaaGreatDoorSplit
import Derived.Test.YtkdnjebjbadloaaGreatDoorParse
import Derived.Test.YtkdnjebjbadloaaGreatDoorSets
namespace Go.Proofs.YtkdnjebjbadloaaGreatDoor.Rowsp
open Go Go.RowKit Mem Sets Elems Text Joins Strs Go.Proofs.YtkdnjebjbadloaaGreatDoor.Mark Sets2 Cuts Parse Split
set_option maxRecDepth 100000

/-- Are all of them texts of sets? -/
def good (ps : List (List UInt8)) : Bool := ps.all fun p => (parse p).isSome
def vals (ps : List (List UInt8)) : List Int := ps.map fun p => (parse p).getD 0
theorem parse_text {p : List UInt8} {s : Int} (h : parse p = some s) : setText s = p := by
  unfold parse at h
  split at h
  · cases h; assumption
  · cases h
theorem texts_vals {ps : List (List UInt8)} (h : good ps = true) : texts (vals ps) = ps := by
  unfold texts vals
  rw [List.map_map]
  conv => rhs; rw [← List.map_id ps]
  apply List.map_congr_left
  intro p hp
  have := List.all_eq_true.1 h p hp
  obtain ⟨s, hs⟩ := Option.isSome_iff_exists.1 this
  simp [hs, parse_text hs]
theorem good_mem {ps : List (List UInt8)} {x : UInt8} (h : good ps = true) (hx : ∃ p ∈ ps, x ∈ p) : x = 45 ∨ (97 ≤ x.toNat ∧ x.toNat ≤ 104) := by
  obtain ⟨p, hp, hx⟩ := hx
  have := List.all_eq_true.1 h p hp
  obtain ⟨s, hs⟩ := Option.isSome_iff_exists.1 this
  exact text_letters s x (by rw [parse_text hs]; exact hx)
def none4 : List UInt8 := [110, 111, 110, 101]
def rowsOf (r : List UInt8) : Option (List Int) := if r = none4 then some [] else if good (cuts 44 r) = true then some (vals (cuts 44 r)) else none

theorem good_take {ps : List (List UInt8)} {k : Nat} (hk : k < ps.length) (h : good (ps.take k) = true) {s : Int} (hs : parse (ps.getD k []) = some s) : good (ps.take (k + 1)) = true := by
  unfold good at *
  rw [List.take_add_one, List.getElem?_eq_getElem hk, List.all_append, h]
  simp only [List.getD, List.getElem?_eq_getElem hk, Option.getD_some] at hs
  simp [hs]
theorem vals_take {ps : List (List UInt8)} {k : Nat} (hk : k < ps.length) {s : Int} (hs : parse (ps.getD k []) = some s) : vals (ps.take (k + 1)) = vals (ps.take k) ++ [s] := by
  unfold vals
  rw [List.take_add_one, List.getElem?_eq_getElem hk, List.map_append]
  simp only [List.getD, List.getElem?_eq_getElem hk, Option.getD_some] at hs
  simp [hs]
theorem bad_at {ps : List (List UInt8)} {k : Nat} (hk : k < ps.length) (hs : parse (ps.getD k []) = none) : good ps = false := by
  unfold good
  simp only [List.getD, List.getElem?_eq_getElem hk, Option.getD_some] at hs
  rw [List.all_eq_false]
  exact ⟨ps[k], List.getElem_mem hk, by simp [hs]⟩
theorem part_le {c : UInt8} {l : List UInt8} {k : Nat} (h : l.length ≤ 1048576) : ((cuts c l).getD k []).length ≤ 1048576 := by
  have hm : ∀ (l : List UInt8), ∀ p ∈ cuts c l, p.length ≤ l.length := by
    intro l
    induction l with
    | nil => intro p hp; simp [cuts] at hp; subst hp; simp
    | cons b l ih =>
      intro p hp
      unfold cuts at hp
      split at hp
      · rcases List.mem_cons.1 hp with rfl | hp
        · simp
        · have := ih p hp; simp; omega
      · cases hc : cuts c l with
        | nil => exact absurd hc (cuts_ne c l)
        | cons q r =>
          rw [hc] at hp ih
          rcases List.mem_cons.1 hp with rfl | hp
          · have := ih q (by simp); simp; omega
          · have := ih p (by simp [hp]); simp; omega
  by_cases hk : k < (cuts c l).length
  · rw [List.getD, List.getElem?_eq_getElem hk, Option.getD_some]
    have := hm l _ (List.getElem_mem hk)
    omega
  · rw [List.getD, List.getElem?_eq_none (by omega)]; simp

/-- What parseRows leaves. -/
def RowsPost (r : List UInt8) (w : World) (e : Ending) (w' : World) : Prop :=
  Below w.heap.size w w' ∧ ((∃ xs v, rowsOf r = some xs ∧ e = .returned (.tuple #[v, .nilIface]) ∧ Own 3 w' w.heap.size w'.heap.size v (ints xs)) ∨
    (∃ s, rowsOf r = none ∧ e = .returned (.tuple #[.slice none 0 0, .iface 60 (.agg #[.string s])])))

set_option maxHeartbeats 800000 in
theorem impl_rows (r : List UInt8) (hl : r.length ≤ 1048576) (w : World) (hS : w.ShapedOpen Tryz.prog) :
    Calls Tryz.prog 38 #[.string ⟨r.toArray⟩] w (RowsPost r w) := by
  obtain ⟨i0, hi, hz0, hz1, hz2⟩ := info_parts Ints.info
  by_cases h4 : r = none4
  · have h41 : (r == [110, 111, 110, 101]) = true := by rw [h4]; rfl
    have HX := Lib.hid (show rowsOf r = some [] by rw [rowsOf, if_pos h4])
    clear h4
    go_enter Tryz.func38, Tryz.ntmps38
    go_wp2_with fail
    go_ret2
    exact ⟨Below.refl _ _, .inl ⟨[], _, HX.out, rfl, Own.made (World.ownsRow_nil _ _ _ _)⟩⟩
  · have h41 : (r == [110, 111, 110, 101]) = false := by simpa [none4] using h4
    have HR := Lib.hid (show rowsOf r = if good (cuts 44 r) = true then some (vals (cuts 44 r)) else none by rw [rowsOf, if_neg h4])
    have hcl := cuts_length 44 r
    have hpl := fun k => part_le (c := 44) (k := k) hl
    have HSP := Lib.hid (impl_split r 44 hl w hS)
    clear h4
    generalize cuts 44 r = ps at HR hcl hpl HSP
    have hpn : ps.length ≤ 1048577 := by omega
    clear hcl hl hS
    go_enter Tryz.func38, Tryz.ntmps38
    go_wp2_with fail
    refine HSP.out.mono ?_
    rintro e w1 ⟨v, rfl, o1, b1⟩
    obtain ⟨hla, a, ca, rfl, hca⟩ := o1.reads
    simp only [strs, List.length_map] at hla hca ⊢
    have hz1' := b1.size
    have B1 := Lib.hid b1
    have HC := Lib.hid hca
    clear b1 hca o1
    go_wp2_with fail
    go_loopw [4, 14] (fun t i wr => ∃ k : Nat, k ≤ ps.length ∧ i = .int .i64 k ∧ Hid (good (ps.take k) = true) ∧ Hid (wr.ownsRow w1.heap.size 3 1 t k (ints (vals (ps.take k)))) ∧ Hid (Below w1.heap.size w1 wr)) (fun _ i _ => ps.length - (intOf i).toNat)
    case atStart => exact ⟨0, Nat.zero_le _, rfl, Lib.hid rfl, Lib.hid (World.ownsRow_nil _ _ _ _), Lib.hid (Below.refl _ _)⟩
    case round =>
      obtain ⟨k, hk, rfl, hgd, hown, hbel⟩ := hrel
      by_cases hlt : k < ps.length
      · obtain ⟨b, o, rfl, hb, gca⟩ := HC.out (by intro h; simp at h; subst h; simp at hlt)
        have hc : wr.cell? ⟨b, o + k, none⟩ = some (.string ⟨(ps.getD k []).toArray⟩) := by
          rw [hbel.out.cell (p := ⟨b, o + k, none⟩) (by show b < _; omega), gca k hlt]
          exact strs_get ps k hlt
        have hps := hpl k
        clear gca
        cases hp : parse (ps.getD k []) with
        | none =>
          have HX := Lib.hid (show rowsOf r = none by rw [HR.out, bad_at hlt hp]; rfl)
          have HP := Lib.hid (impl_parse _ (hpl k) wr)
          clear hpl
          have hpv : (parse (ps.getD k [])).getD 0 = 0 ∧ (parse (ps.getD k [])).isSome = false := by rw [hp]; exact ⟨rfl, rfl⟩
          unfold Post at HP
          rw [hpv.1, hpv.2] at HP
          clear hp hpv
          generalize ps.getD k [] = q at hc HP hps
          go_wp2_with fail
          refine HP.out.mono ?_
          rintro e w2 ⟨rfl, b2⟩
          have B2 := Lib.hid b2
          clear b2
          go_wp2_with fail
          go_ret2
          exact ⟨B1.out.trans ((hbel.out.mono hz1').trans (B2.out.mono (by have := hbel.out.size; omega))), .inr ⟨_, HX.out, rfl⟩⟩
        | some s =>
          have HG := Lib.hid (good_take hlt hgd.out hp)
          have HV := Lib.hid (vals_take hlt hp)
          have HP := Lib.hid (impl_parse _ (hpl k) wr)
          clear hpl
          have hpv : (parse (ps.getD k [])).getD 0 = s ∧ (parse (ps.getD k [])).isSome = true := by rw [hp]; exact ⟨rfl, rfl⟩
          unfold Post at HP
          rw [hpv.1, hpv.2] at HP
          clear hp hpv
          generalize ps.getD k [] = q at hc HP hps
          go_wp2_with fail
          refine HP.out.mono ?_
          rintro e w2 ⟨rfl, b2⟩
          have HO := Lib.hid (owns_below hown.out b2)
          have HB := Lib.hid (hbel.out.trans (b2.mono hbel.out.size))
          have hz2' := b2.size
          have hz3' := hbel.out.size
          clear b2
          go_wp2_with (at_builtin; refine wpList_append_own _ rfl _ _ 24 rfl w1.heap.size 3 i0 (.int .i64 0) 1 8 Tryz.underlying24 hi hz0 hz1 hz2 rfl (by decide) _ _ _ rfl (HO.out.alloc _) ⟨w2.heap.size, 0, none⟩ 1 1 [.int .i64 s] rfl rfl ?c1 ?c2 ?c3 ?c4 ?c5 ?_)
          case c1 =>
            intro j u hj
            match j, hj with
            | 0, hj => simp at hj; subst hj; simp [Addr.add]
          case c2 => intro u hu; simp at hu; subst hu; rfl
          case c3 => unfold maxLen; omega
          case c4 => omega
          case c5 => simp; omega
          intro v' w3 hown' hgrow _
          have R1 := Lib.hid hown'
          have R2 := Lib.hid ((HB.out.alloc HB.out.size _).grown hgrow (by simp; omega) (fun q hq => (HO.out.lt q hq).1))
          clear hown' hgrow
          go_wp2
          go_roundw
          case rel => exact ⟨k + 1, by omega, by simp, HG, Lib.hid (by rw [HV.out]; simpa [ints] using R1.out), R2⟩
          case measure => simp [intOf]; omega
      · have hkn : k = ps.length := by omega
        have HX := Lib.hid (show rowsOf r = some (vals ps) by have := hgd.out; rw [hkn, List.take_length] at this; rw [HR.out, if_pos this])
        have HO := Lib.hid hown.out
        rw [hkn, List.take_length] at HO
        clear hpl
        go_wp2_with fail
        go_ret2
        exact ⟨B1.out.trans (hbel.out.mono hz1'), .inl ⟨_, _, HX.out, rfl, (Own.made HO.out).mono hz1' (Nat.le_refl _)⟩⟩
end Go.Proofs.YtkdnjebjbadloaaGreatDoor.Rowsp
