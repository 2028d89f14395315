/-
  Chapter 6 of the program: whether one concept covers another one, the meet and the join of two of them.
-/
import Derived.Test.YtdkgmjbhkifcbaaLat1
import Derived.Deep.DeepCutAuto
namespace Go.Proofs.Ytdkgmjbhkifcbaa.Tab
open Go Go.RowKit Mem Sets Ctx
set_option maxRecDepth 100000

theorem quiet_loadT {C : World → Prop} {a : Act} {o : Oper} {K : Act → Prop} (x : Operand) (ho : o.op = .load 85 x) (b off : Nat) (hx : a.eval x = .pointer (some ⟨b, off, none⟩)) (f : Nat → Bool) (hS : ∀ w, C w → w.rangeAt b off (rowL f))
    (hk : K (a.put o.dst (.agg (rowA f)))) : o.quiet Try.prog a C K :=
  ⟨_, fun w hw => by
    unfold Oper.quietAt execOp
    simp only [ho, hx, Instr.loadAt, Instr.sureAddr, Sem.run_bind, Sem.run_pure, Result.andThen_ok, run_loadVar_mid w b off 85 (rowL f) _ (hS w hw) Try.underlying85 rfl (sizeL f)]
    exact ⟨rfl, rfl⟩, hk⟩
theorem past_range {W : World} {b off : Nat} {cs : List Value} (h : W.rangeAt b off cs) (hb : b < W.heap.size) : ∀ w, (∃ p : Past W, w = p.w) → w.rangeAt b off cs := by
  rintro _ ⟨p, rfl⟩ j v hj
  exact Past.cell (h j v hj) hb p
def both (lo up : Nat) : Nat → Bool := fun i => if i = up then true else if i = lo then true else false
def isCov (MA MB : Nat → Nat → Bool) (lo up : Nat) : Bool := decide (lo ≠ up) && eqRow (fun i => MA lo i && MB up i) (both lo up)
set_option maxHeartbeats 1600000 in
theorem isCover_ (g1 g2 n lo up : Nat) (MB MA : Nat → Nat → Bool) (w : World) (h1 : BoxAt w g1 85 (tabA n MB)) (h2 : BoxAt w g2 85 (tabA n MA)) (hn : n ≤ 64) (hlo : lo < n) (hup : up < n) :
    Calls Try.prog 112 #[ordV g1 g2 n, .int .i64 lo, .int .i64 up] w fun e w' => e = .returned (.bool (isCov MA MB lo up)) ∧ Below w.heap.size w w' := by
  have hz := zeroT
  have l1 := h1.lt
  have l2 := h2.lt
  have b0 := (BoxAt.new w 81 #[sl g1 n, sl g2 n]).alloc (.cells (rowA fun _ => false) 85)
  have b1 := BoxAt.new (w.alloc (.cells #[sl g1 n, sl g2 n] 81)) 85 (rowA fun _ => false)
  have t1 := (h1.alloc (.cells #[sl g1 n, sl g2 n] 81)).alloc (.cells (rowA fun _ => false) 85)
  have t2 := (h2.alloc (.cells #[sl g1 n, sl g2 n] 81)).alloc (.cells (rowA fun _ => false) 85)
  have hB := ((Below.refl w.heap.size w).alloc (Nat.le_refl _) (.cells #[sl g1 n, sl g2 n] 81)).alloc (by simp) (.cells (rowA fun _ => false) 85)
  simp only [World.size_alloc] at b1
  go_enter Try.func112, Try.ntmps112
  go_upto_region 2 with fail
  generalize ((w.alloc (.cells #[sl g1 n, sl g2 n] 81)).alloc (.cells (rowA fun _ => false) 85)) = W at b0 b1 t1 t2 hB ⊢
  clear hz h1 h2
  have hlo64 : lo < 64 := by omega
  have hup64 : up < 64 := by omega
  have cA : W.cell? ⟨w.heap.size + 1, lo, none⟩ = some (.bool false) := by rw [b1.cell, rowA_get _ hlo64]
  have zA := b1.free lo
  have c1 := b1.set lo (.bool true)
  have cB : (W.setCell ⟨w.heap.size + 1, lo, none⟩ (.bool true)).cell? ⟨w.heap.size + 1, up, none⟩ = some (.bool (if up = lo then true else false)) := by rw [c1.cell, rowA_set, rowA_get _ hup64]
  have zB := b1.free up
  have d1 := c1.set up (.bool true)
  rw [rowA_set, rowA_set] at d1
  have d0 := (b0.far (p := ⟨w.heap.size + 1, lo, none⟩) (by simp) (.bool true)).far (p := ⟨w.heap.size + 1, up, none⟩) (by simp) (.bool true)
  have u1 := (t1.far (p := ⟨w.heap.size + 1, lo, none⟩) (by simp; omega) (.bool true)).far (p := ⟨w.heap.size + 1, up, none⟩) (by simp; omega) (.bool true)
  have u2 := (t2.far (p := ⟨w.heap.size + 1, lo, none⟩) (by simp; omega) (.bool true)).far (p := ⟨w.heap.size + 1, up, none⟩) (by simp; omega) (.bool true)
  have hD := (hB.setCell (p := ⟨w.heap.size + 1, lo, none⟩) (by simp) (.bool true)).setCell (p := ⟨w.heap.size + 1, up, none⟩) (by simp) (.bool true)
  clear c1 b0 t1 t2 hB
  have B1 := Lib.hid b1
  clear b1
  go_upto_region 3 with fail
  clear cA zA cB zB
  have hsz : w.heap.size + 2 ≤ ((W.setCell ⟨w.heap.size + 1, lo, none⟩ (.bool true)).setCell ⟨w.heap.size + 1, up, none⟩ (.bool true)).heap.size := by
    have := d1.lt
    omega
  generalize ((W.setCell ⟨w.heap.size + 1, lo, none⟩ (.bool true)).setCell ⟨w.heap.size + 1, up, none⟩ (.bool true)) = V at d0 d1 u1 u2 hD hsz ⊢
  clear B1
  clear W
  have q0 := d0.cell 0
  have q1 := d0.cell 1
  simp only [List.getElem?_toArray, List.getElem?_cons_zero, List.getElem?_cons_succ] at q0 q1
  have g0 := fun p : Past V => Past.cell q0 (by show w.heap.size < _; omega) p
  have gg1 := fun p : Past V => Past.cell q1 (by show w.heap.size < _; omega) p
  have r1 := past_range (tab_row u1 hup) u1.lt
  have r2 := past_range (tab_row u2 hlo) u2.lt
  have r3 := past_range (row_range d1) d1.lt
  clear d0 d1 u1 u2 q0 q1
  by_cases he : lo = up
  · have HV : Hid (isCov MA MB lo up = false) := Lib.hid (by simp [isCov, he])
    have he2 : ((lo : Int) != (up : Int)) = false := by simp [he]
    clear he
    refine wp_region_past (by kernel_rfl) (by kernel_rfl) ?_
    repeat (go_big_quiet_step (fail))
    refine wpQuiet_nil ?_
    rintro _ ⟨p, rfl⟩
    have hbb := hD.trans (p.h.mono (by omega))
    go_wp2_with fail
    go_ret
    exact ⟨by rw [HV.out]; rfl, hbb⟩
  · have HV : Hid (isCov MA MB lo up = eqRow (fun i => MA lo i && MB up i) (both lo up)) := Lib.hid (by simp [isCov, he])
    have he2 : ((lo : Int) != (up : Int)) = true := by simp; omega
    clear he
    have HC := Lib.hid (fun p : Past V => p.of (common (MA lo) (MB up) p.w))
    have hq := fun w => eqT (fun i => MA lo i && MB up i) (both lo up) w
    refine wp_region_past (by kernel_rfl) (by kernel_rfl) ?_
    repeat (first | (go_big_quiet_want; (first | refine quiet_loadT _ rfl g2 (lo * 64) rfl (MA lo) r2 ?_ | refine quiet_loadT _ rfl g1 (up * 64) rfl (MB up) r1 ?_ | refine quiet_loadT _ rfl (w.heap.size + 1) 0 rfl (both lo up) r3 ?_); simp only [Act.put, List.setIfInBounds_toArray, List.set_cons_zero, List.set_cons_succ]; go_big_quiet_on) | go_big_quiet_step (with_reducible exact HC.out _))
    refine wpQuiet_nil ?_
    rintro _ ⟨p, rfl⟩
    have hbb := hD.trans (p.h.mono (by omega))
    clear hq
    go_wp2_with fail
    go_ret
    exact ⟨by rw [HV.out]; rfl, hbb⟩
end Go.Proofs.Ytdkgmjbhkifcbaa.Tab
