/-
  Deriving turns larger sets into smaller ones, and three times is once: pure.
-/
import Derived.Test.YthodmmckekgkdaaDerPure
namespace Go.Proofs.Ythodmmckekgkdaa.Ctx
open Go Go.RowKit Mem Sets
set_option maxRecDepth 100000

theorem memI (a : Int) (rs : List Int) (s j : Nat) : (intTo a rs (s : Int) rs.length).testBit j = true ↔ j < a.toNat ∧ ∀ g, g < rs.length → s.testBit g = true → bit (rs.getD g 0) j = true := by
  rw [intTo_bit, Bool.and_eq_true, decide_eq_true_eq, decide_eq_true_eq]; exact Iff.rfl
theorem memE (a : Int) (rs : List Int) (t g : Nat) : (exTo rs (t : Int) a.toNat).testBit g = true ↔ g < rs.length ∧ ∀ j, j < a.toNat → t.testBit j = true → bit (rs.getD g 0) j = true := by
  rw [exTo_bit, Bool.and_eq_true, decide_eq_true_eq, decide_eq_true_eq]; exact Iff.rfl
theorem le_EI (a : Int) (rs : List Int) (s : Nat) (hs : s < 2 ^ rs.length) (g : Nat) (hg : s.testBit g = true) : (exTo rs ((intTo a rs (s : Int) rs.length : Nat) : Int) a.toNat).testBit g = true :=
  (memE a rs _ g).2 ⟨bit_lt hs hg, fun j _ h => ((memI a rs s j).1 h).2 g (bit_lt hs hg) hg⟩
theorem le_IE (a : Int) (rs : List Int) (t : Nat) (ht : t < 2 ^ a.toNat) (j : Nat) (hj : t.testBit j = true) : (intTo a rs ((exTo rs (t : Int) a.toNat : Nat) : Int) rs.length).testBit j = true :=
  (memI a rs _ j).2 ⟨bit_lt ht hj, fun g _ h => ((memE a rs t g).1 h).2 j (bit_lt ht hj) hj⟩
theorem I_anti (a : Int) (rs : List Int) (s t : Nat) (h : ∀ g, s.testBit g = true → t.testBit g = true) (j : Nat) (hj : (intTo a rs (t : Int) rs.length).testBit j = true) : (intTo a rs (s : Int) rs.length).testBit j = true := by
  obtain ⟨h1, h2⟩ := (memI a rs t j).1 hj
  exact (memI a rs s j).2 ⟨h1, fun g hg hs => h2 g hg (h g hs)⟩
theorem E_anti (a : Int) (rs : List Int) (s t : Nat) (h : ∀ g, s.testBit g = true → t.testBit g = true) (j : Nat) (hj : (exTo rs (t : Int) a.toNat).testBit j = true) : (exTo rs (s : Int) a.toNat).testBit j = true := by
  obtain ⟨h1, h2⟩ := (memE a rs t j).1 hj
  exact (memE a rs s j).2 ⟨h1, fun g hg hs => h2 g hg (h g hs)⟩
theorem IEI (a : Int) (rs : List Int) (s : Nat) (hs : s < 2 ^ rs.length) : intTo a rs ((exTo rs ((intTo a rs (s : Int) rs.length : Nat) : Int) a.toNat : Nat) : Int) rs.length = intTo a rs (s : Int) rs.length :=
  nat_bits fun j => ⟨fun h => I_anti a rs s _ (fun g hg => le_EI a rs s hs g hg) j h, fun h => le_IE a rs _ (intTo_lt a rs _ _) j h⟩
theorem EIE (a : Int) (rs : List Int) (t : Nat) (ht : t < 2 ^ a.toNat) : exTo rs ((intTo a rs ((exTo rs (t : Int) a.toNat : Nat) : Int) rs.length : Nat) : Int) a.toNat = exTo rs (t : Int) a.toNat :=
  nat_bits fun g => ⟨fun h => E_anti a rs t _ (fun j hj => le_IE a rs t ht j hj) g h, fun h => le_EI a rs _ (exTo_lt rs _ _) g h⟩

theorem sub_nat {s t : Nat} (hs : s < 256) (ht : t < 256) : sub (s : Int) (t : Int) = true ↔ ∀ j, s.testBit j = true → t.testBit j = true := by
  rw [sub, isSet8_true ⟨by omega, by omega⟩, isSet8_true ⟨by omega, by omega⟩, subB, and_nat s t hs ht]
  simp only [Bool.true_and, beq_iff_eq]
  constructor
  · intro h j hj
    have h' : s &&& t = s := by omega
    rw [← h', Nat.testBit_and] at hj
    simp at hj
    exact hj.2
  · intro h
    have : s &&& t = s := by
      rw [Nat.and_comm]
      exact (and_all (a := 8) hs).2 fun j _ hj => h j hj
    rw [this]

theorem intent_objcl {a : Int} {rs : List Int} {s : Int} (hc : isCtx a rs = true) (hs : isSet rs.length s = true) : intent a rs (objClosure a rs s) = intent a rs s := by
  obtain ⟨n, rfl, hn, -, -⟩ := isSet_to_nat hs
  rw [Int.toNat_natCast] at hn
  rw [objClosure, if_pos ⟨hc, hs⟩, intent, if_pos ⟨hc, extTo_isSet hc _⟩, intent, if_pos ⟨hc, hs⟩, ← exTo_ext rs (intTo_isSet hc _ _), IEI a rs n hn]
theorem sub_objcl {a : Int} {rs : List Int} {s : Int} (hc : isCtx a rs = true) (hs : isSet rs.length s = true) : sub s (objClosure a rs s) = true := by
  have h8 := (isCtx_parts hc).2.2.1
  obtain ⟨n, rfl, hn, -, -⟩ := isSet_to_nat hs
  rw [Int.toNat_natCast] at hn
  rw [objClosure, if_pos ⟨hc, hs⟩, sub_nat (Nat.lt_of_lt_of_le hn (pow_le8 h8)) (extTo_256 hc _), ← exTo_ext rs (intTo_isSet hc _ _)]
  exact fun g hg => le_EI a rs n hn g hg
theorem closure_nat {a : Int} {rs : List Int} {s : Int} (hc : isCtx a rs = true) (hs : isSet a s = true) : ∃ n : Nat, s = n ∧ n < 2 ^ a.toNat ∧ extent a rs s = (exTo rs (n : Int) a.toNat : Nat) ∧ closure a rs s = (intTo a rs ((exTo rs (n : Int) a.toNat : Nat) : Int) rs.length : Nat) := by
  obtain ⟨n, rfl, hn, -, -⟩ := isSet_to_nat hs
  exact ⟨n, rfl, hn, by rw [extent, if_pos ⟨hc, hs⟩, exTo_ext rs hs], by rw [closure, if_pos ⟨hc, hs⟩, exTo_ext rs hs]⟩
theorem closure_isSet {a : Int} {rs : List Int} {s : Int} (hc : isCtx a rs = true) (hs : isSet a s = true) : isSet a (closure a rs s) = true := by
  rw [closure, if_pos ⟨hc, hs⟩]; exact intTo_isSet hc _ _
theorem extent_closure {a : Int} {rs : List Int} {s : Int} (hc : isCtx a rs = true) (hs : isSet a s = true) : extent a rs (closure a rs s) = extent a rs s := by
  have hcs := closure_isSet hc hs
  obtain ⟨n, rfl, hn, he, hk⟩ := closure_nat hc hs
  rw [hk] at hcs ⊢
  rw [he, extent, if_pos ⟨hc, hcs⟩, ← exTo_ext rs hcs, EIE a rs n hn]
theorem closure_closure {a : Int} {rs : List Int} {s : Int} (hc : isCtx a rs = true) (hs : isSet a s = true) : closure a rs (closure a rs s) = closure a rs s := by
  have hcs := closure_isSet hc hs
  rw [← intent_extent hc hcs, extent_closure hc hs, intent_extent hc hs]
theorem sub_closure {a : Int} {rs : List Int} {s : Int} (hc : isCtx a rs = true) (hs : isSet a s = true) : sub s (closure a rs s) = true := by
  obtain ⟨n, rfl, hn, he, hk⟩ := closure_nat hc hs
  rw [hk, sub_nat (Nat.lt_of_lt_of_le hn (pow_le8 (by have := isCtx_parts hc; omega))) (intTo_256 hc _ _)]
  exact fun j hj => le_IE a rs n hn j hj
theorem closed_eq {a : Int} {rs : List Int} {s : Int} (hc : isCtx a rs = true) (hs : isSet a s = true) : closed a rs s = (closure a rs s == s) := by
  rw [closed, closure, if_pos ⟨hc, hs⟩, hc, hs]; rfl
theorem sub_extent {a : Int} {rs : List Int} {s t : Int} (hc : isCtx a rs = true) (hs : isSet a s = true) (ht : isSet a t = true) (h : sub s t = true) : sub (extent a rs t) (extent a rs s) = true := by
  have h8 := (isCtx_parts hc).2.2.1
  obtain ⟨n, rfl, hn, he, -⟩ := closure_nat hc hs
  obtain ⟨m, rfl, hm, hem, -⟩ := closure_nat hc ht
  have h6 : a.toNat ≤ 8 := by have := isCtx_parts hc; omega
  rw [sub_nat (Nat.lt_of_lt_of_le hn (pow_le8 h6)) (Nat.lt_of_lt_of_le hm (pow_le8 h6))] at h
  rw [he, hem, sub_nat (Nat.lt_of_lt_of_le (exTo_lt rs _ _) (pow_le8 h8)) (Nat.lt_of_lt_of_le (exTo_lt rs _ _) (pow_le8 h8))]
  exact fun g hg => E_anti a rs n m h g hg
end Go.Proofs.Ythodmmckekgkdaa.Ctx
