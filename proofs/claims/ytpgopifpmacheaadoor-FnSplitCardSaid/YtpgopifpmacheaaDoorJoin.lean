/-
  Join of the program and of the model: a row of strings put together with a separator, and nothing if that is longer than the limit.
-/
import Derived.Test.YtpgopifpmacheaaDoorStrs
import Derived.Test.YtpgopifpmacheaaDoorShelfJoin
import Derived.Lib.AppendStr
import Derived.Lib.Join
import Derived.Laws.BytesArg
namespace Go.Proofs.YtpgopifpmacheaaDoor.Joins
open Go Go.RowKit Mem Strs

abbrev bs (l : List UInt8) : List Value := l.map fun b => Value.int .u8 b.toNat
theorem strCells_eq (l : List UInt8) : Lib.strCells ⟨l.toArray⟩ = bs l := by simp [Lib.strCells, bs]
theorem infoB : (Tryd.prog.info? 5).map (fun i => (i.zero, i.size, i.bytes)) = some (some (.int .u8 0), 1, 1) := by kernel_rfl
/-- What is returned. -/
def joined (xs : List (List UInt8)) (sep : List UInt8) : List UInt8 := if (Lib.join xs sep).length > 1048576 then [] else Lib.join xs sep
theorem join_first (xs : List (List UInt8)) (sep : List UInt8) (h : 0 < xs.length) : Lib.join (xs.take 1) sep = xs.getD 0 [] := by
  cases xs with
  | nil => cases h
  | cons x r => simp [Lib.join_one]
theorem join_next (xs : List (List UInt8)) (sep : List UInt8) (k : Nat) (h0 : 0 < k) (h : k < xs.length) : Lib.join (xs.take (k + 1)) sep = Lib.join (xs.take k) sep ++ sep ++ xs.getD k [] := by
  cases xs with
  | nil => cases h
  | cons x r =>
    obtain ⟨j, rfl⟩ : ∃ j, k = j + 1 := ⟨k - 1, by omega⟩
    simp only [List.length_cons] at h
    rw [List.take_succ_cons, List.take_succ_cons, Lib.join_cons, Lib.join_cons, Lib.joinTail_take_succ sep r j (r.getD j []) (by simp [List.getD, List.getElem?_eq_getElem (by omega : j < r.length)])]
    simp [List.append_assoc]
theorem join_mono (xs : List (List UInt8)) (sep : List UInt8) (k : Nat) : (Lib.join (xs.take k) sep).length ≤ (Lib.join xs sep).length := by
  cases xs with
  | nil => simp
  | cons x r =>
    cases k with
    | zero => simp [Lib.join_nil]
    | succ j =>
      rw [List.take_succ_cons, Lib.join_cons, Lib.join_cons, List.length_append, List.length_append]
      have := Lib.joinTail_take_le sep r j
      omega
theorem joined_long (xs : List (List UInt8)) (sep : List UInt8) (k : Nat) (h : 1048576 < (Lib.join (xs.take k) sep).length) : joined xs sep = [] := by
  unfold joined
  rw [if_pos (Nat.lt_of_lt_of_le h (join_mono xs sep k))]
theorem str_bs (l : List UInt8) : strOfNums (l.map fun b => (b.toNat : Int)) = ⟨l.toArray⟩ := by
  apply ByteArray.ext
  apply Array.toList_inj.1
  rw [strOfNums_data, List.map_map]
  show _ = l
  conv => rhs; rw [← List.map_id l]
  apply List.map_congr_left
  intro b _
  simp

/-- The string of an owned row of bytes. -/
theorem conv_own {w : World} {base n : Nat} {v : Value} {l : List UInt8} (h : w.ownsRow base 5 1 v n (bs l)) :
    (convert 22 9 v).run Tryd.prog w = .ok (.string ⟨l.toArray⟩) w := by
  have hl : n = l.length := by have := h.1; simp [bs] at this; omega
  rcases h.2 with ⟨rfl, h0⟩ | ⟨g, cap, cur, rfl, _⟩
  · have : l = [] := List.length_eq_zero_iff.1 (by omega)
    subst this
    exact run_convert_bytes_nil (P := Tryd.prog) w 22 5 Tryd.underlying22 Tryd.underlying5 0 0 9 Tryd.underlying9
  · have := run_convert_bytes_arg (P := Tryd.prog) w 22 5 Tryd.underlying22 Tryd.underlying5 g 0 n cap (l.map fun b => (b.toNat : Int)) (by simp [hl]) (fun i hi => by
      rw [Nat.zero_add, h.cellAt i (by omega)]
      simp [bs, List.getD, List.getElem?_eq_getElem (by omega : i < l.length)]) 9 Tryd.underlying9
    rw [this, str_bs]

theorem own_form {w : World} {base n : Nat} {e : TypeId} {v : Value} {cs : List Value} (h : w.ownsRow base e 1 v n cs) : ∃ a c, v = .slice a n c := by
  rcases h.2 with ⟨rfl, h0⟩ | ⟨g, cap, cur, rfl, _⟩
  · exact ⟨none, 0, by rw [h0]⟩
  · exact ⟨_, _, rfl⟩

set_option maxRecDepth 100000 in
set_option maxHeartbeats 800000 in
theorem impl_join (v : Value) (xs : List (List UInt8)) (sep : List UInt8) (B : Nat) (w : World) (hr : Reads w B v (strs xs)) (hroom : CapOk v) (hB : B ≤ w.heap.size) (hn : xs.length ≤ 1048576) (hs : sep.length ≤ 1048576)
    (hx : ∀ j, j < xs.length → (xs.getD j []).length ≤ 1048576) :
    Calls Tryd.prog 15 #[v, .string ⟨sep.toArray⟩] w fun e w' => e = .returned (.string ⟨(joined xs sep).toArray⟩) ∧ Below w.heap.size w w' := by
  obtain ⟨hla, a, ca, rfl, hca⟩ := hr
  have hcap := hroom _ _ _ rfl
  simp only [strs, List.length_map] at hla hca hcap ⊢
  by_cases hne : xs = []
  · subst hne
    clear hca hx hroom
    have hj : joined [] sep = [] := by simp [joined, Lib.join_nil]
    rw [hj]
    go_enter Tryd.func15, Tryd.ntmps15
    go_wp2_with fail
    refine wp_loop_rounds 1 ?_
    rw [rounds_succ]
    go_wp2_with fail
    refine (Tryd.strings_Join_none _ _ _ _).mono ?_
    rintro e w' ⟨rfl, rfl⟩
    go_wp2_with fail
    go_ret
    exact ⟨rfl, Below.refl _ _⟩
  · obtain ⟨b, o, rfl, hb, gca⟩ := hca (by simpa using hne)
    have HC := Lib.hid gca
    have HX := Lib.hid hx
    have HN := Lib.hid hne
    clear hca gca hx hroom hne hla
    go_enter Tryd.func15, Tryd.ntmps15
    go_wp2_with fail
    go_loopw [5, 10] (fun t i wr => ∃ (k m : Nat), k ≤ xs.length ∧ i = .int .i64 k ∧ t = .int .i64 m ∧ m = (Lib.join (xs.take k) sep).length ∧ m ≤ 1048576 ∧ wr = w) (fun _ i _ => xs.length - (intOf i).toNat)
    case atStart => exact ⟨0, 0, Nat.zero_le _, rfl, rfl, by simp [Lib.join_nil], by omega, rfl⟩
    case round =>
      obtain ⟨k, m, hk, rfl, rfl, hm, hm1, rfl⟩ := hrel
      by_cases hlt : k < xs.length
      · have hc : wr.cell? ⟨b, o + k, none⟩ = some (.string ⟨(xs.getD k []).toArray⟩) := (HC.out k hlt).trans (strs_get xs k hlt)
        have hxk := HX.out k hlt
        by_cases hk0 : k = 0
        · have hj : (Lib.join (xs.take (k + 1)) sep).length = m + (xs.getD k []).length := by subst hk0; rw [join_first xs sep hlt, hm]; simp [Lib.join_nil]
          subst hk0
          simp only [Nat.add_zero] at hc
          have HJ := Lib.hid hj
          clear hm hj
          generalize xs.getD 0 [] = x at hc hxk HJ
          have hxsz : (⟨x.toArray⟩ : ByteArray).size = x.length := by simp [ByteArray.size]
          by_cases hbig : 1048576 < m + x.length
          · have HR := Lib.hid (joined_long xs sep (0 + 1) (by rw [HJ.out]; exact hbig))
            go_wp2_with fail
            go_ret
            exact ⟨by rw [HR.out]; rfl, Below.refl _ _⟩
          · go_wp2_with fail
            go_roundw
            case rel => exact ⟨0 + 1, m + x.length, by omega, by simp, by simp, HJ.out.symm, by omega, trivial⟩
            case measure => simp [intOf]; omega
        · have hj : (Lib.join (xs.take (k + 1)) sep).length = m + sep.length + (xs.getD k []).length := by rw [join_next xs sep k (by omega) hlt, hm]; simp; omega
          have hk1 : 0 < k := by omega
          have HJ := Lib.hid hj
          clear hm hj hk0
          generalize xs.getD k [] = x at hc hxk HJ
          have hxsz : (⟨x.toArray⟩ : ByteArray).size = x.length := by simp [ByteArray.size]
          have hssz : (⟨sep.toArray⟩ : ByteArray).size = sep.length := by simp [ByteArray.size]
          by_cases hbig : 1048576 < m + sep.length + x.length
          · have HR := Lib.hid (joined_long xs sep (k + 1) (by rw [HJ.out]; exact hbig))
            go_wp2_with fail
            go_ret
            exact ⟨by rw [HR.out]; rfl, Below.refl _ _⟩
          · go_wp2_with fail
            go_roundw
            case rel => exact ⟨k + 1, m + sep.length + x.length, by omega, by simp, by simp, HJ.out.symm, by omega, trivial⟩
            case measure => simp [intOf]; omega
      · have hkn : k = xs.length := by omega
        have hfin : joined xs sep = Lib.join xs sep := by
          rw [hkn, List.take_length] at hm
          unfold joined
          rw [if_neg (by omega)]
        have hlen : (Lib.join xs sep).length ≤ 1048576 := by rw [hkn, List.take_length] at hm; omega
        have hmm : (xs.map fun l => (⟨l.toArray⟩ : ByteArray)).map (·.data.toList) = xs := by
          rw [List.map_map]
          conv => rhs; rw [← List.map_id xs]
          apply List.map_congr_left
          intro l _
          simp
        have hJ := Tryd.strings_Join b o ca (xs.map fun l => ⟨l.toArray⟩) ⟨sep.toArray⟩ wr (fun j x hj => by
          simp only [List.getElem?_map, Option.map_eq_some_iff] at hj
          obtain ⟨l, hl, rfl⟩ := hj
          have hjl : j < xs.length := by
            rcases Nat.lt_or_ge j xs.length with h | h
            · exact h
            · rw [List.getElem?_eq_none h] at hl; cases hl
          have := HC.out j hjl
          rw [this, List.getElem?_map, hl]
          rfl) (by omega) (by simp; omega) (by simpa using hcap) (by rw [hmm]; simpa using (by omega : (Lib.join xs sep).length ≤ 140737488355328))
        rw [hmm, List.length_map] at hJ
        have HJ := Lib.hid hJ
        have HF := Lib.hid hfin
        clear hm hkn hfin hJ hmm
        go_wp2_with fail
        refine HJ.out.mono ?_
        rintro e w' ⟨rfl, hb'⟩
        rw [← HF.out]
        have hl' : (joined xs sep).length ≤ 1048576 := by rw [HF.out]; exact hlen
        have BF := Lib.hid hb'
        clear hb'
        generalize hgr : joined xs sep = r at hl'
        have HR := Lib.hid hgr
        clear hgr
        go_wp2_with fail
        go_ret
        exact ⟨by rw [HR.out]; rfl, BF.out⟩
end Go.Proofs.YtpgopifpmacheaaDoor.Joins
