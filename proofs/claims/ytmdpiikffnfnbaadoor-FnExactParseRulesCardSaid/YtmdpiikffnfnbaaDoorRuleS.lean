/-
  Chapter 9 of the model: rules, what respects them, what is closed by them.
-/
import Derived.Test.YtmdpiikffnfnbaaDoorRuleP
import Derived.Test.YtmdpiikffnfnbaaDoorPRule
import Derived.Test.YtmdpiikffnfnbaaDoorPastI
import Derived.Test.YtmdpiikffnfnbaaDoorDerive
import Derived.Deep.RegionHeld3
import Derived.Deep.DeepCutAuto
namespace Go.Proofs.YtmdpiikffnfnbaaDoor.Rule
open Go Go.RowKit Mem Sets Ctx Tab
set_option maxRecDepth 100000

abbrev mk (p : PInt) : Value := .agg #[.int .i64 p.1, .int .i64 p.2]
theorem readsP_at {w : World} {B : Nat} {a : Option Addr} {n c : Nat} {l : List PInt} (h : ReadsP w B (.slice a n c) l) {k : Nat} (hk : k < l.length) :
    ∃ b o, a = some ⟨b, o, none⟩ ∧ b < B ∧ w.cell? ⟨b, o + k * 2, none⟩ = some (.int .i64 (rl l k).1) ∧ w.cell? ⟨b, o + k * 2 + 1, none⟩ = some (.int .i64 (rl l k).2) := by
  obtain ⟨_, a', c', hv, hc⟩ := h
  injection hv with e1 e2 e3
  subst e1
  obtain ⟨b, o, h1, h2, h3⟩ := hc (by rintro rfl; simp at hk)
  exact ⟨b, o, h1, h2, h3 k hk⟩
theorem allIn_step {n : Int} {l : List PInt} {k : Nat} (hk : k < l.length) (h : (l.take k).all (isR n) = true) (hs : isR n (rl l k) = true) : (l.take (k + 1)).all (isR n) = true := by
  rw [List.take_add_one, List.getElem?_eq_getElem hk, List.all_append, h]
  rw [rl, List.getD_eq_getElem?_getD, List.getElem?_eq_getElem hk] at hs
  simpa using hs
theorem allIn_bad {n : Int} {l : List PInt} {k : Nat} (hk : k < l.length) (hs : isR n (rl l k) = false) : allIn n l = false := by
  unfold allIn
  rw [List.all_eq_false]
  exact ⟨_, rl_mem hk, by rw [hs]; decide⟩
theorem andL (x s : Int) (hx : 0 ≤ x ∧ x ≤ 255) (hs : 0 ≤ s ∧ s ≤ 255) : (bits .and .i64 x s == x) = decide (x.toNat &&& s.toNat = x.toNat) := by
  obtain ⟨m, rfl⟩ := Int.eq_ofNat_of_zero_le hx.1
  obtain ⟨k, rfl⟩ := Int.eq_ofNat_of_zero_le hs.1
  rw [and_nat m k (by omega) (by omega), Bool.eq_iff_iff]
  simp only [beq_iff_eq, decide_eq_true_eq, Int.toNat_natCast]
  omega
theorem andN (x s : Int) (hx : 0 ≤ x ∧ x ≤ 255) (hs : 0 ≤ s ∧ s ≤ 255) : (bits .and .i64 x s != x) = decide (x.toNat &&& s.toNat ≠ x.toNat) := by
  have := andL x s hx hs
  rw [bne, this]
  by_cases h : x.toNat &&& s.toNat = x.toNat <;> simp [h]
theorem set8 {x : Int} (h : isSet 8 x = true) : 0 ≤ x ∧ x ≤ 255 := by
  have h8 := isSet8 x
  rw [h] at h8
  simpa using h8.symm
theorem or_nat' (m k : Nat) (hm : m < 256) (hk : k < 256) : bits .or .i64 (m : Int) (k : Int) = ((m ||| k : Nat) : Int) :=
  (bits_nat .i64 8 (by decide) (fun n h0 h1 => by rw [IntKind.wrap_i64]; omega) m k hm hk).2
theorem Cl_of {l : List PInt} {s t : Nat} (h1 : Le s t) (h2 : ∀ u, allR l u = true → Le s u → Le t u) (h3 : allR l t = true) : Cl l s t := ⟨h1, h3, h2⟩
theorem fires_bits {x y : Int} {t : Nat} (hx : 0 ≤ x ∧ x ≤ 255) (hy : 0 ≤ y ∧ y ≤ 255) (ht : t < 256) : fires (x, y) t = ((bits .and .i64 x (t : Int) == x) && (bits .and .i64 y (t : Int) != y)) := by
  rw [andL x t hx (by omega), andN y t hy (by omega), fires, Int.toNat_natCast]
theorem and_comm_eq (x y : Nat) : decide (x &&& y = x) = decide (y &&& x = x) := by rw [Nat.and_comm]
end Go.Proofs.YtmdpiikffnfnbaaDoor.Rule
