/-
  Join of the program and of the model: a row of strings put together with a separator, and nothing if that is longer than the limit.
-/
import Derived.Test.YtmdpiikffnfnbaaGreatDoorStrs
import Derived.Lib.AppendStr
import Derived.Lib.Join
import Derived.Laws.BytesArg
namespace Go.Proofs.YtmdpiikffnfnbaaGreatDoor.Joins
open Go Go.RowKit Mem Strs
set_option maxRecDepth 100000

abbrev bs (l : List UInt8) : List Value := l.map fun b => Value.int .u8 b.toNat
theorem strCells_eq (l : List UInt8) : Lib.strCells ⟨l.toArray⟩ = bs l := by simp [Lib.strCells, bs]
theorem infoB : (Tryz.prog.info? 5).map (fun i => (i.zero, i.size, i.bytes)) = some (some (.int .u8 0), 1, 1) := by kernel_rfl
/-- What is returned. -/
def joined (xs : List (List UInt8)) (sep : List UInt8) : List UInt8 := if (Lib.join xs sep).length > 1048576 then [] else Lib.join xs sep
theorem join_first (xs : List (List UInt8)) (sep : List UInt8) (h : 0 < xs.length) : Lib.join (xs.take 1) sep = xs.getD 0 [] := by
  cases xs with
  | nil => cases h
  | cons x r => simp [Lib.join_one]
theorem join_next (xs : List (List UInt8)) (sep : List UInt8) (k : Nat) (h0 : 0 < k) (h : k < xs.length) : Lib.join (xs.take (k + 1)) sep = Lib.join (xs.take k) sep ++ sep ++ xs.getD k [] := by
  cases xs with
  | nil => cases h
  | cons x r =>
    obtain ⟨j, rfl⟩ : ∃ j, k = j + 1 := ⟨k - 1, by omega⟩
    simp only [List.length_cons] at h
    rw [List.take_succ_cons, List.take_succ_cons, Lib.join_cons, Lib.join_cons, Lib.joinTail_take_succ sep r j (r.getD j []) (by simp [List.getD, List.getElem?_eq_getElem (by omega : j < r.length)])]
    simp [List.append_assoc]
theorem join_mono (xs : List (List UInt8)) (sep : List UInt8) (k : Nat) : (Lib.join (xs.take k) sep).length ≤ (Lib.join xs sep).length := by
  cases xs with
  | nil => simp
  | cons x r =>
    cases k with
    | zero => simp [Lib.join_nil]
    | succ j =>
      rw [List.take_succ_cons, Lib.join_cons, Lib.join_cons, List.length_append, List.length_append]
      have := Lib.joinTail_take_le sep r j
      omega
theorem joined_long (xs : List (List UInt8)) (sep : List UInt8) (k : Nat) (h : 1048576 < (Lib.join (xs.take k) sep).length) : joined xs sep = [] := by
  unfold joined
  rw [if_pos (Nat.lt_of_lt_of_le h (join_mono xs sep k))]
theorem str_bs (l : List UInt8) : strOfNums (l.map fun b => (b.toNat : Int)) = ⟨l.toArray⟩ := by
  apply ByteArray.ext
  apply Array.toList_inj.1
  rw [strOfNums_data, List.map_map]
  show _ = l
  conv => rhs; rw [← List.map_id l]
  apply List.map_congr_left
  intro b _
  simp

/-- The string of an owned row of bytes. -/
theorem conv_own {w : World} {base n : Nat} {v : Value} {l : List UInt8} (h : w.ownsRow base 5 1 v n (bs l)) :
    (convert 22 9 v).run Tryz.prog w = .ok (.string ⟨l.toArray⟩) w := by
  have hl : n = l.length := by have := h.1; simp [bs] at this; omega
  rcases h.2 with ⟨rfl, h0⟩ | ⟨g, cap, cur, rfl, _⟩
  · have : l = [] := List.length_eq_zero_iff.1 (by omega)
    subst this
    exact run_convert_bytes_nil (P := Tryz.prog) w 22 5 Tryz.underlying22 Tryz.underlying5 0 0 9 Tryz.underlying9
  · have := run_convert_bytes_arg (P := Tryz.prog) w 22 5 Tryz.underlying22 Tryz.underlying5 g 0 n cap (l.map fun b => (b.toNat : Int)) (by simp [hl]) (fun i hi => by
      rw [Nat.zero_add, h.cellAt i (by omega)]
      simp [bs, List.getD, List.getElem?_eq_getElem (by omega : i < l.length)]) 9 Tryz.underlying9
    rw [this, str_bs]

theorem own_form {w : World} {base n : Nat} {e : TypeId} {v : Value} {cs : List Value} (h : w.ownsRow base e 1 v n cs) : ∃ a c, v = .slice a n c := by
  rcases h.2 with ⟨rfl, h0⟩ | ⟨g, cap, cur, rfl, _⟩
  · exact ⟨none, 0, by rw [h0]⟩
  · exact ⟨_, _, rfl⟩

set_option maxRecDepth 100000 in
set_option maxHeartbeats 800000 in
theorem spec_join (v : Value) (xs : List (List UInt8)) (sep : List UInt8) (B : Nat) (w : World) (hr : Reads w B v (strs xs)) (hB : B ≤ w.heap.size) (hn : xs.length ≤ 1048576) (hs : sep.length ≤ 1048576)
    (hx : ∀ j, j < xs.length → (xs.getD j []).length ≤ 1048576) :
    Calls Tryz.prog 60 #[v, .string ⟨sep.toArray⟩] w fun e w' => e = .returned (.string ⟨(joined xs sep).toArray⟩) ∧ Below w.heap.size w w' := by
  obtain ⟨i0, hi, hz0, hz1, hz2⟩ := info_parts infoB
  obtain ⟨hla, a, ca, rfl, hca⟩ := hr
  simp only [strs, List.length_map] at hla hca ⊢
  have HC : Hid (∀ j, j < xs.length → ∃ b o, a = some ⟨b, o, none⟩ ∧ b < B ∧ w.cell? ⟨b, o + j, none⟩ = some (.string ⟨(xs.getD j []).toArray⟩)) := Lib.hid fun j hj => by
    obtain ⟨b, o, ha, hb, hc⟩ := hca (by simp; rintro rfl; simp at hj)
    exact ⟨b, o, ha, hb, (hc j hj).trans (strs_get xs j hj)⟩
  have HX := Lib.hid hx
  clear hca hla hx
  go_enter Tryz.func60, Tryz.ntmps60
  go_wp2_with fail
  go_loopw [5, 6] (fun v i wr => ∃ (k : Nat) (l : List UInt8), k ≤ xs.length ∧ i = .int .i64 k ∧ l = Lib.join (xs.take k) sep ∧ l.length ≤ 1048576 ∧ wr.ownsRow w.heap.size 5 1 v l.length (bs l) ∧ Below w.heap.size w wr) (fun _ i _ => xs.length - (intOf i).toNat)
  case atStart => exact ⟨0, [], Nat.zero_le _, rfl, by simp [Lib.join_nil], by simp, World.ownsRow_lit w #[] 0 (Nat.le_refl _) (Nat.zero_le _) rfl, (Below.refl _ _).alloc (Nat.le_refl _) _⟩
  case round =>
    obtain ⟨k, l, hk, rfl, hl, hlen, hown, hbel⟩ := hrel
    have HL := Lib.hid hl
    have HO := Lib.hid hown
    have HB := Lib.hid hbel
    have hsz := hbel.size
    clear hown hbel
    by_cases hlt : k < xs.length
    · obtain ⟨b, o, rfl, hb, hc0⟩ := HC.out k hlt
      have hc : wr.cell? ⟨b, o + k, none⟩ = some (.string ⟨(xs.getD k []).toArray⟩) := (HB.out.cell (p := ⟨b, o + k, none⟩) (by show b < _; omega)).trans hc0
      have hxk := HX.out k hlt
      by_cases hk0 : k = 0
      · have hj : Lib.join (xs.take (k + 1)) sep = l ++ xs.getD k [] := by subst hk0; rw [join_first xs sep hlt, hl]; simp [Lib.join_nil]
        subst hk0
        simp only [Nat.add_zero] at hc
        have HJ := Lib.hid hj
        clear hl hc0 hj
        generalize xs.getD 0 [] = x at hc hxk HJ
        have hxsz : (⟨x.toArray⟩ : ByteArray).size = x.length := by simp [ByteArray.size]
        go_wp2_with (at_builtin; refine Lib.wpList_append_own_string _ rfl _ _ 22 9 rfl w.heap.size 5 i0 Tryz.underlying22 Tryz.underlying9 hi hz0 hz1 hz2 _ _ _ rfl HO.out ⟨x.toArray⟩ rfl ?c3 ?c4 ?c5 ?_)
        case c3 => rw [hxsz]; unfold maxLen; omega
        case c4 => rw [hxsz]; omega
        case c5 => omega
        intro v' w2 hown' hgrow _
        have hbf := HB.out.grown hgrow hsz (fun j hj => (HO.out.lt j hj).1)
        have BF := Lib.hid hbf
        have H2 : Hid (w2.ownsRow w.heap.size 5 1 v' (l ++ x).length (bs (l ++ x))) := Lib.hid (by
          have := hown'
          rw [strCells_eq] at this
          simpa [bs] using this)
        clear hown' hgrow hbf
        have hl2 : (l ++ x).length = l.length + x.length := List.length_append
        generalize hgl : l ++ x = l2 at HJ H2 hl2
        obtain ⟨a2, c2, rfl⟩ := own_form H2.out
        by_cases hbig : 1048576 < l2.length
        · have hd : decide ((1048576 : Int) < (l2.length : Int)) = true := by simp; omega
          have HR := Lib.hid (joined_long xs sep (0 + 1) (by rw [HJ.out]; exact hbig))
          clear hgl
          go_wp2_with fail
          go_ret
          exact ⟨by rw [HR.out]; rfl, BF.out⟩
        · have hd : decide ((1048576 : Int) < (l2.length : Int)) = false := by simp; omega
          clear hgl
          go_wp2_with fail
          go_roundw
          case rel => exact ⟨0 + 1, l2, by omega, by simp, HJ.out.symm, by omega, H2.out, BF.out⟩
          case measure => simp [intOf]; omega
      · have hj : Lib.join (xs.take (k + 1)) sep = (l ++ sep) ++ xs.getD k [] := by rw [join_next xs sep k (by omega) hlt, hl]
        have HJ := Lib.hid hj
        have hk1 : 0 < k := by omega
        clear hl hc0 hj hk0
        generalize xs.getD k [] = x at hc hxk HJ
        have hxsz : (⟨x.toArray⟩ : ByteArray).size = x.length := by simp [ByteArray.size]
        have hssz : (⟨sep.toArray⟩ : ByteArray).size = sep.length := by simp [ByteArray.size]
        go_wp2_with (at_builtin; refine Lib.wpList_append_own_string _ rfl _ _ 22 9 rfl w.heap.size 5 i0 Tryz.underlying22 Tryz.underlying9 hi hz0 hz1 hz2 _ _ _ rfl HO.out ⟨sep.toArray⟩ rfl ?d3 ?d4 ?d5 ?_)
        case d3 => rw [hssz]; unfold maxLen; omega
        case d4 => rw [hssz]; omega
        case d5 => omega
        intro v1 w1 hown1 hgrow1 _
        have hbf1 := HB.out.grown hgrow1 hsz (fun j hj => (HO.out.lt j hj).1)
        have BF1 := Lib.hid hbf1
        have hsz1 := hbf1.size
        have hc1 : w1.cell? ⟨b, o + k, none⟩ = some (.string ⟨x.toArray⟩) := hgrow1.cell hc (fun h => by have := (HO.out.lt b h.symm).1; omega)
        have H1 : Hid (w1.ownsRow w.heap.size 5 1 v1 (l ++ sep).length (bs (l ++ sep))) := Lib.hid (by
          have := hown1
          rw [strCells_eq] at this
          simpa [bs] using this)
        have hl1 : (l ++ sep).length = l.length + sep.length := List.length_append
        clear hown1 hgrow1 hbf1 hc
        generalize hgl1 : l ++ sep = l1 at HJ H1 hl1
        clear hgl1
        go_wp2_with (at_builtin; refine Lib.wpList_append_own_string _ rfl _ _ 22 9 rfl w.heap.size 5 i0 Tryz.underlying22 Tryz.underlying9 hi hz0 hz1 hz2 _ _ _ rfl H1.out ⟨x.toArray⟩ rfl ?c3 ?c4 ?c5 ?_)
        case c3 => rw [hxsz]; unfold maxLen; omega
        case c4 => rw [hxsz]; omega
        case c5 => omega
        intro v' w2 hown' hgrow _
        have hbf := BF1.out.grown hgrow hsz1 (fun j hj => (H1.out.lt j hj).1)
        have BF := Lib.hid hbf
        have H2 : Hid (w2.ownsRow w.heap.size 5 1 v' (l1 ++ x).length (bs (l1 ++ x))) := Lib.hid (by
          have := hown'
          rw [strCells_eq, ← hl1] at this
          simpa [bs] using this)
        clear hown' hgrow hbf
        have hl2 : (l1 ++ x).length = l1.length + x.length := List.length_append
        generalize hgl : l1 ++ x = l2 at HJ H2 hl2
        obtain ⟨a2, c2, rfl⟩ := own_form H2.out
        by_cases hbig : 1048576 < l2.length
        · have hd : decide ((1048576 : Int) < (l2.length : Int)) = true := by simp; omega
          have HR := Lib.hid (joined_long xs sep (k + 1) (by rw [HJ.out]; exact hbig))
          clear hgl
          go_wp2_with fail
          go_ret
          exact ⟨by rw [HR.out]; rfl, BF.out⟩
        · have hd : decide ((1048576 : Int) < (l2.length : Int)) = false := by simp; omega
          clear hgl
          go_wp2_with fail
          go_roundw
          case rel => exact ⟨k + 1, l2, by omega, by simp, HJ.out.symm, by omega, H2.out, BF.out⟩
          case measure => simp [intOf]; omega
    · have hkn : k = xs.length := by omega
      have hfin : joined xs sep = l := by
        have : Lib.join xs sep = l := by rw [hl, hkn, List.take_length]
        unfold joined
        rw [this, if_neg (by omega)]
      have HF := Lib.hid hfin
      have kc := conv_own HO.out
      clear hl hkn hfin
      go_wp2_with fail
      go_ret
      exact ⟨by rw [HF.out]; rfl, HB.out⟩
end Go.Proofs.YtmdpiikffnfnbaaGreatDoor.Joins
