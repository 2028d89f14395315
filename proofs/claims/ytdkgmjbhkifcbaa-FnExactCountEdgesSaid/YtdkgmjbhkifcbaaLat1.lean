/-
  Chapter 6 of the program: rows of bools and tables: what two rows have in common, the place of a row in a table, whether a concept exists.
-/
import Derived.Test.YtdkgmjbhkifcbaaTab
namespace Go.Proofs.Ytdkgmjbhkifcbaa.Tab
open Go Go.RowKit Mem Sets Ctx
set_option maxRecDepth 100000

theorem infoT : (Try.prog.info? 85).map (fun i => (i.zero, i.size, i.bytes)) = some (some (.agg (rowA fun _ => false)), 64, 64) := by kernel_rfl
theorem sizeT (f : Nat → Bool) : (Try.prog.info? 85).map (·.size) = some (rowA f).size := by rw [rowA_size]; kernel_rfl
theorem zeroT (w : World) : (zeroValue 85).run Try.prog w = .ok (.agg (rowA fun _ => false)) w := by
  obtain ⟨i, h1, h2, -, -⟩ := info_parts infoT
  simp [zeroValue, typeInfo, h1, h2]
theorem sizeL (f : Nat → Bool) : (Try.prog.info? 85).map (·.size) = some (rowL f).length := by rw [rowL_len]; kernel_rfl
theorem eqT (f g : Nat → Bool) (w : World) : (Op.equalIn 10000 85 (.agg (rowA f)) (.agg (rowA g))).run Try.prog w = .ok (eqRow f g) w := by
  cases h : Try.prog.info? 4 with
  | none =>
    have h2 : (Try.prog.info? 4).isSome = true := by kernel_rfl
    rw [h] at h2
    cases h2
  | some i =>
    have h1 : (Try.prog.info? 4).map (·.size) = some 1 := by kernel_rfl
    rw [h] at h1
    exact run_eql_row 85 4 f g w Try.underlying85 Try.underlying4 h (by simpa [Program.cellsOf, h] using h1)
theorem boxT (f : Nat → Bool) : (Value.agg (rowA f)).cells = rowA f := rfl
theorem stepR (f g : Nat → Bool) (k : Nat) : (rowA fun i => if i = k then f k && g k else if i < k then f i && g i else f i) = rowA fun i => if i < k + 1 then f i && g i else f i := by
  refine rowA_congr fun i _ => ?_
  by_cases h : i = k
  · subst h; simp
  · by_cases h2 : i < k
    · simp [h, h2, show i < k + 1 by omega]
    · simp [h, h2, show ¬ i < k + 1 by omega]
theorem common (f g : Nat → Bool) (w : World) :
    Calls Try.prog 111 #[.agg (rowA f), .agg (rowA g)] w fun e w' => e = .returned (.agg (rowA fun i => f i && g i)) ∧ Below w.heap.size w w' := by
  have hz := zeroT
  go_enter Try.func111, Try.ntmps111
  go_wp2_with fail
  have b0 := ((BoxAt.new w 85 (rowA f)).alloc (.cells (rowA g) 85)).alloc (.cells (rowA fun _ => false) 85)
  have b1 := (BoxAt.new (w.alloc (.cells (rowA f) 85)) 85 (rowA g)).alloc (.cells (rowA fun _ => false) 85)
  have b2 := BoxAt.new ((w.alloc (.cells (rowA f) 85)).alloc (.cells (rowA g) 85)) 85 (rowA fun _ => false)
  simp only [World.size_alloc] at b1 b2
  have hW := (((Below.refl w.heap.size w).alloc (Nat.le_refl _) (.cells (rowA f) 85)).alloc (by simp) (.cells (rowA g) 85)).alloc (by simp; omega) (.cells (rowA fun _ => false) 85)
  generalize (((w.alloc (.cells (rowA f) 85)).alloc (.cells (rowA g) 85)).alloc (.cells (rowA fun _ => false) 85)) = W at b0 b1 b2 hW ⊢
  clear hz
  go_loopw [6] (fun i wr => ∃ k : Nat, i = .int .i64 k ∧ k ≤ 64 ∧ Hid (BoxAt wr w.heap.size 85 (rowA fun i => if i < k then f i && g i else f i)) ∧ Hid (BoxAt wr (w.heap.size + 1) 85 (rowA g)) ∧ Hid (BoxAt wr (w.heap.size + 1 + 1) 85 (rowA fun _ => false)) ∧ Hid (Below w.heap.size w wr)) (fun i _ => 64 - (intOf i).toNat)
  case atStart => exact ⟨0, rfl, by omega, Lib.hid b0, Lib.hid b1, Lib.hid b2, Lib.hid hW⟩
  case round =>
    obtain ⟨k, rfl, hk, h0, h1, h2, hb⟩ := hrel
    by_cases hk2 : k < 64
    · have c0 : wr.cell? ⟨w.heap.size, k, none⟩ = some (.bool (f k)) := by rw [h0.out.cell, rowA_get _ hk2, if_neg (Nat.lt_irrefl k)]
      have c1 : wr.cell? ⟨w.heap.size + 1, k, none⟩ = some (.bool (g k)) := by rw [h1.out.cell, rowA_get _ hk2]
      have z0 := h0.out.free k
      cases hf : f k with
      | false =>
        rw [hf] at c0
        go_wp2_with fail
        go_roundw
        case rel => exact ⟨k + 1, rfl, by omega, Lib.hid (by have := h0.out.set k (.bool (f k && g k)); rw [rowA_set] at this; rw [hf] at this; rw [← stepR f g k]; simpa [hf] using this), Lib.hid (h1.out.far (by simp) _), Lib.hid (h2.out.far (by simp; omega) _), Lib.hid (hb.out.setCell (Nat.le_refl _) _)⟩
        case measure => simp only [intOf, Int.toNat_natCast]; omega
      | true =>
        rw [hf] at c0
        go_wp2_with fail
        go_roundw
        case rel => exact ⟨k + 1, rfl, by omega, Lib.hid (by have := h0.out.set k (.bool (f k && g k)); rw [rowA_set] at this; rw [hf] at this; rw [← stepR f g k]; simpa [hf] using this), Lib.hid (h1.out.far (by simp) _), Lib.hid (h2.out.far (by simp; omega) _), Lib.hid (hb.out.setCell (Nat.le_refl _) _)⟩
        case measure => simp only [intOf, Int.toNat_natCast]; omega
    · have h0' := h0.out
      have h2' := h2.out
      go_wp2_with (first | (refine wpList_load_row rfl 85 _ rfl w.heap.size rfl 85 _ (0, 0) _ h0' Try.underlying85 rfl (sizeT _) ?_) | (refine wpList_store_row rfl 85 _ _ rfl (w.heap.size + 1 + 1) _ rfl rfl 85 _ h2' (sizeT _) (by rw [rowA_size, rowA_size]) (rowA_cells _) ?_))
      have hk64 : k = 64 := by omega
      subst hk64
      refine bodyPost_ret (v := .agg (rowA fun i => f i && g i)) ?_ rfl ⟨rfl, belowR hb.out (by omega)⟩
      rw [rowA_congr (f := fun i => if i < 64 then f i && g i else f i) (g := fun i => f i && g i) fun i hi => if_pos hi]
      exact results_cell_row rfl _ _ (w.heap.size + 1 + 1) 85 _ (0, 0) _ rfl (boxR h2') Try.underlying85 rfl (sizeT _)
/-- A slice of tables' rows whose block is known. -/
abbrev sl (g n : Nat) : Value := .slice (some ⟨g, 0, none⟩) n n
abbrev ordV (g1 g2 n : Nat) : Value := .agg #[sl g1 n, sl g2 n]
theorem has_ (g1 g2 n : Nat) (a : Int) (w : World) :
    Calls Try.prog 109 #[ordV g1 g2 n, .int .i64 a] w fun e w' => e = .returned (.bool (decide (0 ≤ a) && decide (a < n))) ∧ Below w.heap.size w w' := by
  have hb := (Below.refl w.heap.size w).alloc (Nat.le_refl _) (.cells #[sl g1 n, sl g2 n] 81)
  by_cases h0 : 0 ≤ a
  · have c0 : ((w.alloc (.cells #[sl g1 n, sl g2 n] 81))).cell? ⟨w.heap.size, 0, none⟩ = some (sl g1 n) := by simp
    go_enter Try.func109, Try.ntmps109
    go_wp2_with fail
    go_ret
    exact ⟨by simp [h0], hb⟩
  · go_enter Try.func109, Try.ntmps109
    go_wp2_with fail
    go_ret
    exact ⟨by rw [decide_eq_false (p := 0 ≤ a) (by omega)]; rfl, hb⟩
/-- The first row of a table that is f, from row k on. -/
def rowFrom (M : Nat → Nat → Bool) (f : Nat → Bool) (k : Nat) : Nat → Int
  | 0 => -1
  | r + 1 => if eqRow (M k) f = true then (k : Int) else rowFrom M f (k + 1) r
theorem index_ (g n : Nat) (M : Nat → Nat → Bool) (f : Nat → Bool) (w : World) (hg : BoxAt w g 85 (tabA n M)) (hn : n ≤ 64) :
    Calls Try.prog 110 #[sl g n, .agg (rowA f)] w fun e w' => e = .returned (.int .i64 (rowFrom M f 0 n)) ∧ Below w.heap.size w w' := by
  have hz := zeroT
  have hq := eqT
  have hB := (Below.refl w.heap.size w).alloc (Nat.le_refl _) (.cells (rowA f) 85)
  have hg0 := hg.alloc (.cells (rowA f) 85)
  have hf0 := BoxAt.new w 85 (rowA f)
  have hlt := hg.lt
  have hzz : w.heap.size < (w.alloc (.cells (rowA f) 85)).heap.size := by simp
  go_enter Try.func110, Try.ntmps110
  go_wp2_with fail
  generalize w.alloc (.cells (rowA f) 85) = W at hB hg0 hf0 hzz ⊢
  clear hg
  have HS : Hid (rowFrom M f 0 n = rowFrom M f 0 (n - 0)) := Lib.hid rfl
  go_loopw [9] (fun i wr => ∃ k : Nat, i = .int .i64 k ∧ k ≤ n ∧ Hid (rowFrom M f 0 n = rowFrom M f k (n - k)) ∧ Hid (BoxAt wr g 85 (tabA n M)) ∧ Hid (BoxAt wr w.heap.size 85 (rowA f)) ∧ Hid (Below w.heap.size w wr) ∧ w.heap.size < wr.heap.size) (fun i _ => n - (intOf i).toNat)
  case atStart => exact ⟨0, rfl, by omega, HS, Lib.hid hg0, Lib.hid hf0, Lib.hid hB, hzz⟩
  case round =>
    obtain ⟨k, rfl, hk, hs, h0, h1, hb, hzr⟩ := hrel
    by_cases hkn : k < n
    · have hs2 := hs.out
      rw [show n - k = (n - (k + 1)) + 1 by omega, rowFrom] at hs2
      have HS2 := Lib.hid hs2
      clear hs2 hs HS
      have m0 := tab_row h0.out hkn
      have b0 := BoxAt.new wr 85 (rowA fun _ => false)
      have b1 : BoxAt ((wr.alloc (.cells (rowA fun _ => false) 85)).setRow wr.heap.size (rowA (M k))) wr.heap.size 85 (rowA (M k)) := boxR b0
      have b2 : BoxAt ((wr.alloc (.cells (rowA fun _ => false) 85)).setRow wr.heap.size (rowA (M k))) w.heap.size 85 (rowA f) := boxRF (h1.out.alloc _) (by omega)
      have b3 : BoxAt ((wr.alloc (.cells (rowA fun _ => false) 85)).setRow wr.heap.size (rowA (M k))) g 85 (tabA n M) := boxRF (h0.out.alloc _) (by omega)
      have b4 : Below w.heap.size w ((wr.alloc (.cells (rowA fun _ => false) 85)).setRow wr.heap.size (rowA (M k))) := belowR (hb.out.alloc (by omega) _) (by omega)
      have hzr2 : w.heap.size < ((wr.alloc (.cells (rowA fun _ => false) 85)).setRow wr.heap.size (rowA (M k))).heap.size := by simp; omega
      have hqk := hq (M k) f
      clear hq
      cases he : eqRow (M k) f
      all_goals rw [he] at hqk HS2
      all_goals clear he
      all_goals go_wp2_with (first | (refine wpList_load_mid rfl 85 _ rfl g (k * 64) rfl (rowL (M k)) _ m0 Try.underlying85 rfl (sizeL _) ?_) | (refine wpList_store_row rfl 85 _ _ rfl wr.heap.size (rowA (M k)) rfl rfl 85 _ b0 (sizeT _) (by rw [rowA_size, rowA_size]) (rowA_cells _) ?_) | (refine wpList_load_row rfl 85 _ rfl wr.heap.size rfl 85 _ (0, 0) _ b1 Try.underlying85 rfl (sizeT _) ?_) | (refine wpList_load_row rfl 85 _ rfl w.heap.size rfl 85 _ (0, 0) _ b2 Try.underlying85 rfl (sizeT _) ?_))
      · exact ⟨⟨k + 1, by simp, by omega, Lib.hid (by have := HS2.out; simpa using this), Lib.hid b3, Lib.hid b2, Lib.hid b4, hzr2⟩, by simp only [intOf]; omega⟩
      · go_ret
        exact ⟨by rw [HS2.out]; rfl, b4⟩
    · have hkn2 : k = n := by omega
      subst hkn2
      go_wp2_with fail
      go_ret
      exact ⟨by rw [hs.out]; simp [rowFrom], hb.out⟩
end Go.Proofs.Ytdkgmjbhkifcbaa.Tab
