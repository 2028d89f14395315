/-
  Join of the program and of the model: a row of strings put together with a separator, and nothing if that is longer than the limit.
-/
import Derived.Test.YtmdpiikffnfnbaaGreatDoorJoinS
import Derived.Test.YtmdpiikffnfnbaaGreatDoorShelfJoin
import Derived.Lib.AppendStr
import Derived.Lib.Join
import Derived.Laws.BytesArg
namespace Go.Proofs.YtmdpiikffnfnbaaGreatDoor.Joins
open Go Go.RowKit Mem Strs
set_option maxRecDepth 100000
/-- strings.Join of a row that is not empty. -/
theorem sl_join (v : Value) (xs : List (List UInt8)) (sep : List UInt8) (B : Nat) (w : World) (hr : Reads w B v (strs xs)) (hroom : CapOk v) (hB : B ≤ w.heap.size) (hne : xs ≠ []) (hn : xs.length ≤ 1048576) (hlen : (Lib.join xs sep).length ≤ 1048576) :
    Calls Tryz.prog 54 #[v, .string ⟨sep.toArray⟩] w fun e w' => e = .returned (.string ⟨(Lib.join xs sep).toArray⟩) ∧ Below w.heap.size w w' := by
  obtain ⟨hla, a, ca, rfl, hca⟩ := hr
  have hcap := hroom _ _ _ rfl
  obtain ⟨b, o, rfl, hb, gca⟩ := hca (by simpa using hne)
  simp only [strs, List.length_map] at gca hcap ⊢
  have hmm : (xs.map fun l => (⟨l.toArray⟩ : ByteArray)).map (·.data.toList) = xs := by
    rw [List.map_map]
    conv => rhs; rw [← List.map_id xs]
    apply List.map_congr_left
    intro l _
    simp
  have hJ := Tryz.strings_Join b o ca (xs.map fun l => ⟨l.toArray⟩) ⟨sep.toArray⟩ w (fun j x hj => by
    simp only [List.getElem?_map, Option.map_eq_some_iff] at hj
    obtain ⟨l, hl, rfl⟩ := hj
    have hjl : j < xs.length := by
      rcases Nat.lt_or_ge j xs.length with h | h
      · exact h
      · rw [List.getElem?_eq_none h] at hl; cases hl
    have := gca j hjl
    rw [this, List.getElem?_map, hl]
    rfl) (by omega) (by simp; omega) (by simpa using hcap) (by rw [hmm]; simpa using (by omega : (Lib.join xs sep).length ≤ 140737488355328))
  rw [hmm, List.length_map] at hJ
  exact hJ
end Go.Proofs.YtmdpiikffnfnbaaGreatDoor.Joins
