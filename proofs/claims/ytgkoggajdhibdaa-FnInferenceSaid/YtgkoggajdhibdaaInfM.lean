/-
  Chapter 11 of the program: premises without what is not needed.
-/
import Derived.Test.YtgkoggajdhibdaaInfW
import Derived.Test.YtgkoggajdhibdaaRuleI3
import Derived.Test.YtgkoggajdhibdaaElems
import Derived.Deep.RegionHeld3
import Derived.Deep.DeepCutAuto
namespace Go.Proofs.Ytgkoggajdhibdaa.Infer
open Go Go.RowKit Mem Sets Ctx Tab Rule Stem Lectic
set_option maxRecDepth 100000

/-- A set without an element. -/
def del (s e : Nat) : Nat := if s.testBit e = true then s - 2 ^ e else s
theorem del_lt {s e : Nat} (h : s < 256) : del s e < 256 := by
  unfold del
  split
  · exact Nat.lt_of_le_of_lt (Nat.sub_le _ _) h
  · exact h
theorem andNot_del : ∀ s : Nat, s < 256 → ∀ e : Nat, e < 8 → bits .andNot .i64 (s : Int) (wrap64 (2 ^ e)) = ((del s e : Nat) : Int) := by decide +kernel
theorem andNot_del' : ∀ s : Nat, s < 256 → ∀ e : Nat, e < 8 → bits .andNot .i64 (s : Int) (IntKind.i64.wrap (2 ^ e)) = ((del s e : Nat) : Int) := by decide +kernel
theorem del_bit : ∀ s : Nat, s < 256 → ∀ e : Nat, e < 8 → ∀ j : Nat, j < 8 → j ≠ e → (del s e).testBit j = s.testBit j := by decide +kernel
/-- What a trial of element e leaves of a premise. -/
def tryOut (l : List PInt) (y s e : Nat) : Nat := if y &&& Rule.cl l (del s e) = y then del s e else s
theorem tryOut_lt {l : List PInt} {y s e : Nat} (h : s < 256) : tryOut l y s e < 256 := by
  unfold tryOut
  split
  · exact del_lt h
  · exact h
theorem leftTo_lt {l : List PInt} {y x : Nat} (hx : x < 256) {e : Nat} (he : e ≤ 8) : leftTo l y x e < 256 := by
  have := le_num (leftTo_le l (y := y) hx e he); omega
theorem leftTo_high {l : List PInt} {y x : Nat} (hx : x < 256) : ∀ e, e ≤ 8 → ∀ j, e ≤ j → j < 8 → (leftTo l y x e).testBit j = x.testBit j
  | 0, _, _, _, _ => rfl
  | e + 1, he, j, hj, hj8 => by
    have ih := leftTo_high (l := l) (y := y) hx e (by omega) j (by omega) hj8
    rw [leftTo_succ]
    split
    · rename_i h
      have hlt := leftTo_lt (l := l) (y := y) hx (e := e) (by omega)
      have := del_bit _ hlt e (by omega) j hj8 (by omega)
      rw [del, if_pos h.1] at this
      rw [this]; exact ih
    · exact ih
/-- The elements of a set. -/
def elsN (x k : Nat) : List Nat := (List.range k).filter x.testBit
theorem left_fold {l : List PInt} {y x : Nat} (hx : x < 256) : ∀ k, k ≤ 8 → (elsN x k).foldl (tryOut l y) x = leftTo l y x k
  | 0, _ => rfl
  | k + 1, hk => by
    have ih := left_fold (l := l) (y := y) hx k (by omega)
    have hb := leftTo_high (l := l) (y := y) hx k (by omega) k (Nat.le_refl _) (by omega)
    rw [elsN, List.range_succ, List.filter_append, List.foldl_append]
    change ((List.filter x.testBit [k]).foldl (tryOut l y) ((elsN x k).foldl (tryOut l y) x)) = _
    rw [ih]
    cases hxk : x.testBit k with
    | true =>
      rw [List.filter_cons_of_pos hxk, List.filter_nil, List.foldl_cons, List.foldl_nil, tryOut, del, hb, hxk, if_pos rfl, leftTo_succ, hb, hxk]
      simp only [true_and]
    | false =>
      rw [List.filter_cons_of_neg (by rw [hxk]; decide), List.filter_nil, List.foldl_nil, left_no1 (by rw [hb, hxk])]
theorem left_all {l : List PInt} {y x n : Nat} (hn : n ≤ 8) (hx : x < 2 ^ n) : leftTo l y x 8 = leftTo l y x n := by
  have hx8 : x < 256 := Nat.lt_of_lt_of_le hx (pow_le8 hn)
  have key : ∀ d, n + d ≤ 8 → leftTo l y x (n + d) = leftTo l y x n := by
    intro d
    induction d with
    | zero => intro _; rfl
    | succ d ih =>
      intro hd
      have hb := leftTo_high (l := l) (y := y) hx8 (n + d) (by omega) (n + d) (Nat.le_refl _) (by omega)
      have hz : x.testBit (n + d) = false := by
        cases h : x.testBit (n + d) with
        | false => rfl
        | true => have := bit_lt hx h; omega
      rw [show n + (d + 1) = n + d + 1 by omega, left_no1 (by rw [hb, hz]), ih (by omega)]
  have := key (8 - n) (by omega)
  rwa [show n + (8 - n) = 8 by omega] at this
theorem elems_nat : ∀ x : Nat, x < 256 → Elems.elems (x : Int) = (elsN x 8).map fun e : Nat => (e : Int) := by decide +kernel
theorem els_lt {x e : Nat} (h : e ∈ elsN x 8) : e < 8 := List.mem_range.1 (List.mem_filter.1 h).1
theorem els_len (x : Nat) : (elsN x 8).length ≤ 8 := by
  have := List.length_filter_le x.testBit (List.range 8)
  rw [List.length_range] at this; exact this
theorem apart_below {lo hi : Nat} {a b c : World} (h : Apart lo hi a b) (k : Below b.heap.size b c) : Apart lo hi a c := h.trans (Apart.of_below k (Nat.le_refl _))
theorem apart_set {lo hi : Nat} {a b : World} (h : Apart lo hi a b) {p : Addr} (hp : lo ≤ p.block ∧ p.block < hi) (u : Value) : Apart lo hi a (b.setCell p u) :=
  h.trans ⟨rfl, rfl, rfl, by simp, fun k _ ho => Below.heap_setCell b p u k (by omega)⟩
theorem apart_cell {lo hi : Nat} {a b : World} (h : Apart lo hi a b) {q : Addr} (hq : q.block < a.heap.size) (ho : q.block < lo ∨ hi ≤ q.block) : b.cell? q = a.cell? q := World.cell?_of_block (h.block q.block hq ho)
theorem apart_box {lo hi : Nat} {a b : World} (h : Apart lo hi a b) {g : Nat} {t : TypeId} {cs : Array Value} (x : BoxAt a g t cs) (ho : g < lo ∨ hi ≤ g) : BoxAt b g t cs := (h.block g x.lt ho).trans x
theorem fold_step {l : List PInt} {y x k : Nat} {es : List Nat} (hk : k < es.length) : (es.take (k + 1)).foldl (tryOut l y) x = tryOut l y ((es.take k).foldl (tryOut l y) x) (es.getD k 0) := by
  rw [List.take_add_one, List.getElem?_eq_getElem hk, List.foldl_append, List.getD_eq_getElem?_getD, List.getElem?_eq_getElem hk]; rfl
theorem fold_lt {l : List PInt} {y : Nat} : ∀ (es : List Nat) (x : Nat), x < 256 → es.foldl (tryOut l y) x < 256
  | [], _, h => h
  | _ :: es, _, h => fold_lt es _ (tryOut_lt h)
set_option maxHeartbeats 6400000 in
theorem impl_leftRule (v : Value) (l : List PInt) (x y : Nat) (B : Nat) (w : World) (hr : ReadsP w B v l) (hB : B ≤ w.heap.size) (h8 : allIn 8 l = true) (hx : x < 256) (hy : y < 256) :
    Calls Try.prog 114 #[v, Rule.mk ((x : Int), (y : Int))] w fun e w' => e = .returned (Rule.mk (((leftTo l y x 8 : Nat) : Int), (y : Int))) ∧ Below w.heap.size w w' := by
  have hW := ((Below.refl w.heap.size w).alloc (Nat.le_refl _) (.cells #[.int .i64 (x : Int), .int .i64 (y : Int)] 43)).alloc (by simp) (.cells #[.int .i64 0, .int .i64 0] 43)
  have HR := Lib.hid (hr.below hW hB)
  have HBX := Lib.hid ((BoxAt.new w 43 #[.int .i64 (x : Int), .int .i64 (y : Int)]).alloc (.cells #[.int .i64 0, .int .i64 0] 43))
  have HRX := Lib.hid (BoxAt.new (w.alloc (.cells #[.int .i64 (x : Int), .int .i64 (y : Int)] 43)) 43 #[.int .i64 0, .int .i64 0])
  have hz : w.heap.size + 1 < ((w.alloc (.cells #[.int .i64 (x : Int), .int .i64 (y : Int)] 43)).alloc (.cells #[.int .i64 0, .int .i64 0] 43)).heap.size := by simp
  have e1 : (w.alloc (.cells #[.int .i64 (x : Int), .int .i64 (y : Int)] 43)).heap.size = w.heap.size + 1 := by simp
  rw [e1] at HRX
  obtain ⟨a, c, rfl⟩ := hr.form
  clear hr e1
  go_enter Try.func114, Try.ntmps114
  go_upto_region 1 with fail
  generalize (w.alloc (.cells #[.int .i64 (x : Int), .int .i64 (y : Int)] 43)).alloc (.cells #[.int .i64 0, .int .i64 0] 43) = W at hW HR HBX HRX hz ⊢
  have hBW : B ≤ W.heap.size := by omega
  have HBW := Lib.hid hW
  have HEL := Lib.hid (Elems.impl_elems (x : Int) W)
  rw [elems_nat x hx] at HEL
  have c0 : W.cell? ⟨w.heap.size, 0, none⟩ = some (.int .i64 (x : Int)) := HBX.out.cell 0
  have c1 : W.cell? ⟨w.heap.size, 1, none⟩ = some (.int .i64 (y : Int)) := HBX.out.cell 1
  have HFOLD := Lib.hid (left_fold (l := l) (y := y) hx 8 (Nat.le_refl _))
  have hel := els_len x
  have HLT := Lib.hid fun e (h : e ∈ elsN x 8) => els_lt h
  clear hW
  generalize elsN x 8 = es at HEL HFOLD hel HLT
  go_wp2_with fail
  refine HEL.out.mono ?_
  rintro e w1 ⟨u, rfl, o1, b1⟩
  obtain ⟨m, hm⟩ : ∃ m, es.length = m := ⟨_, rfl⟩
  have HM := Lib.hid hm
  obtain ⟨al, cl, rfl, bl, ol, hal, hbl, hbl2, hcell⟩ : ∃ al cl, u = .slice al m cl ∧ ∃ bl ol, (0 < m → al = some ⟨bl, ol, none⟩) ∧ w.heap.size + 1 < bl ∧ (0 < m → bl < w1.heap.size) ∧ ∀ j, j < m → w1.cell? ⟨bl, ol + j, none⟩ = some (.int .i64 ((es.getD j 0 : Nat) : Int)) := by
    obtain ⟨al, cl, rfl⟩ := own_form o1
    have hrd := o1.reads
    refine ⟨al, cl, by rw [List.length_map, hm], ?_⟩
    by_cases h0 : 0 < m
    · obtain ⟨_, a', c', hv, hcells⟩ := hrd
      have hle : (ints (es.map fun e : Nat => (e : Int))).length = es.length := by simp [ints]
      injection hv with e1 e2 e3
      subst e1
      obtain ⟨b, o, rfl, h2, h3⟩ := hcells (by intro h; rw [← List.length_eq_zero_iff, hle] at h; omega)
      have hob := (o1.1.lt b rfl).1
      exact ⟨b, o, fun _ => rfl, by omega, fun _ => h2, fun j hj => (h3 j (by omega)).trans (asInts_get es j (by omega))⟩
    · exact ⟨w.heap.size + 2, 0, fun h => absurd h h0, by omega, fun h => absurd h h0, fun j hj => by omega⟩
  have HCE := Lib.hid hcell
  have HB1 := Lib.hid (HBX.out.below b1 (by omega))
  have HR1 := Lib.hid (HRX.out.below b1 (by omega))
  have HW1 := Lib.hid (HBW.out.trans (b1.mono (by omega)))
  have HRD := Lib.hid (HR.out.below b1 hBW)
  have hz1 := b1.size
  rw [hm] at hel
  have HEM := Lib.hid fun j (hj : j < m) => HLT.out (es.getD j 0) (by rw [List.getD_eq_getElem?_getD, List.getElem?_eq_getElem (by omega)]; exact List.getElem_mem (by omega))
  clear o1 b1 hcell HEL HBX HRX c0 c1 HBW HR hm HLT
  go_wp2_with fail
  go_loopw [12] (fun i wr => ∃ k : Nat, k ≤ m ∧ i = .int .i64 k ∧ Hid (BoxAt wr w.heap.size 43 #[.int .i64 (((es.take k).foldl (tryOut l y) x : Nat) : Int), .int .i64 (y : Int)]) ∧ Hid (Apart w.heap.size (w.heap.size + 1) w1 wr)) (fun i _ => m - (intOf i).toNat)
  case atStart => exact ⟨0, Nat.zero_le _, rfl, HB1, Lib.hid (Apart.refl _ _ _)⟩
  case round =>
    obtain ⟨k, hk, rfl, HB, HA⟩ := hrel
    have hzr := HA.out.size
    have HBB := Lib.hid (HA.out.below (B := B) hB (by omega))
    by_cases hlt : k < m
    · have hkl : k < es.length := by rw [HM.out]; exact hlt
      obtain rfl := hal (by omega)
      have hb2 := hbl2 (by omega)
      have ce := (apart_cell HA.out (q := ⟨bl, ol + k, none⟩) hb2 (.inr (by show w.heap.size + 1 ≤ bl; omega))).trans (HCE.out k hlt)
      have he := HEM.out k hlt
      have HST := Lib.hid (fold_step (l := l) (y := y) (x := x) hkl)
      have hs := fold_lt (l := l) (y := y) (es.take k) x hx
      generalize es.getD k 0 = e at ce he HST
      generalize (es.take k).foldl (tryOut l y) x = s at HB HST hs
      have HAND := Lib.hid (andNot_del' s hs e he)
      have hd := del_lt (e := e) hs
      have HT : Hid (tryOut l y s e = if y &&& Rule.cl l (del s e) = y then del s e else s) := Lib.hid rfl
      have HFO : Hid (∀ p : Past wr, Calls Try.prog 118 #[.slice a l.length c, Rule.mk (((del s e : Nat) : Int), (y : Int))] p.w fun e' w' => e' = .returned (.bool (decide (y &&& Rule.cl l (del s e) = y))) ∧ ∃ q : Past wr, w' = q.w ∧ Below p.w.heap.size p.w q.w) := Lib.hid fun p => by
        have := p.ofB (impl_follows (.slice a l.length c) l (((del s e : Nat) : Int), (y : Int)) B p.w ((HRD.out.below HBB.out (Nat.le_refl _)).below p.h (by omega)) (by have := p.size; omega))
        rw [follows, h8, show isR 8 (((del s e : Nat) : Int), (y : Int)) = true from by rw [isR, isSet8_true (by omega), isSet8_true (by omega)]; rfl] at this
        simpa only [Bool.true_and, Int.toNat_natCast] using this
      generalize del s e = s2 at HAND hd HT HFO
      have c0 : wr.cell? ⟨w.heap.size, 0, none⟩ = some (.int .i64 (s : Int)) := HB.out.cell 0
      have c1 : wr.cell? ⟨w.heap.size, 1, none⟩ = some (.int .i64 (y : Int)) := HB.out.cell 1
      have hbz := HB.out.lt
      have d0 := fun z : Past wr => Past.cell c0 hbz z
      have d1 := fun z : Past wr => Past.cell c1 hbz z
      have hen : (0 : Int) ≤ (e : Int) := by omega
      go_upto_region 4 with fail
      go_cut [7] (fun s7 wx => ∃ q, s7 = .pointer (some ⟨q, 0, none⟩) ∧ wr.heap.size ≤ q ∧ Hid (BoxAt wx q 43 #[.int .i64 (s2 : Int), .int .i64 (y : Int)]) ∧ Hid (Below wr.heap.size wr wx))
      case first =>
        go_region_held3 (fun wx => wx.cell? ⟨w.heap.size, 0, none⟩ = some (.int .i64 (s : Int)) ∧ wx.cell? ⟨w.heap.size, 1, none⟩ = some (.int .i64 (y : Int)))
          (first | with_reducible exact ⟨d0 ((Past.start wr).drew), d1 ((Past.start wr).drew)⟩ | with_reducible exact ⟨d0 (((Past.start wr).alloc (.cells #[.int .i64 0, .int .i64 0] 43)).drew), d1 (((Past.start wr).alloc (.cells #[.int .i64 0, .int .i64 0] 43)).drew)⟩ | with_reducible exact ⟨d0 (((Past.start wr).alloc (.cells #[.int .i64 (bits .andNot .i64 (s : Int) (IntKind.i64.wrap (2 ^ e))), .int .i64 (y : Int)] 43)).drew), d1 (((Past.start wr).alloc (.cells #[.int .i64 (bits .andNot .i64 (s : Int) (IntKind.i64.wrap (2 ^ e))), .int .i64 (y : Int)] 43)).drew)⟩ | exact ⟨d0 ((((Past.start wr).alloc (.cells #[.int .i64 0, .int .i64 0] 43)).drew.set ⟨wr.heap.size, 0, none⟩ (Nat.le_refl _) _).set ⟨wr.heap.size, 1, none⟩ (Nat.le_refl _) _), d1 ((((Past.start wr).alloc (.cells #[.int .i64 0, .int .i64 0] 43)).drew.set ⟨wr.heap.size, 0, none⟩ (Nat.le_refl _) _).set ⟨wr.heap.size, 1, none⟩ (Nat.le_refl _) _)⟩ | fail)
          (fail)
        all_goals go_wp2
        all_goals go_meet
        exact ⟨_, rfl, Nat.le_refl _, Lib.hid (by rw [HAND.out]; exact (BoxAt.new wr 43 _).drew), Lib.hid ((Past.start wr).alloc _).drew.h⟩
      case rest =>
      obtain ⟨q, rfl, hq, BQ, BW⟩ := hcut
      have HPC : Hid (∃ pc : Past wr, pc.w = wc) := Lib.hid ⟨⟨wc, BW.out⟩, rfl⟩
      obtain ⟨pc, rfl⟩ := HPC.out
      have HFP := Lib.hid (HFO.out pc)
      have g0 : pc.w.cell? ⟨q, 0, none⟩ = some (.int .i64 (s2 : Int)) := BQ.out.cell 0
      have g1 : pc.w.cell? ⟨q, 1, none⟩ = some (.int .i64 (y : Int)) := BQ.out.cell 1
      have hqz := BQ.out.lt
      have HAC := Lib.hid (apart_below HA.out BW.out)
      clear HFO HPC c0 c1 d0 d1 BW ce HAND
      by_cases hy2 : y &&& Rule.cl l s2 = y
      · rw [decide_eq_true hy2] at HFP
        rw [if_pos hy2] at HT
        have HE : Hid ((es.take (k + 1)).foldl (tryOut l y) x = s2) := Lib.hid (by rw [HST.out, HT.out])
        clear hy2 HT HST
        go_wp2_with fail
        refine HFP.out.mono ?_
        rintro e' _ ⟨rfl, q2, rfl, b2⟩
        have HBQ := Lib.hid (HB.out.below q2.h hbz)
        have j0 : q2.w.cell? ⟨q, 0, none⟩ = some (.int .i64 (s2 : Int)) := (b2.cell (p := ⟨q, 0, none⟩) hqz).trans g0
        have j1 : q2.w.cell? ⟨q, 1, none⟩ = some (.int .i64 (y : Int)) := (b2.cell (p := ⟨q, 1, none⟩) hqz).trans g1
        have r0 : q2.w.cell? ⟨w.heap.size, 0, none⟩ = some (.int .i64 (s : Int)) := HBQ.out.cell 0
        have r1 : q2.w.cell? ⟨w.heap.size, 1, none⟩ = some (.int .i64 (y : Int)) := HBQ.out.cell 1
        have f0 : q2.w.frozen? ⟨w.heap.size, 0, none⟩ = false := HBQ.out.free 0
        have f1 : q2.w.frozen? ⟨w.heap.size, 1, none⟩ = false := HBQ.out.free 1
        have HS2 := Lib.hid ((HBQ.out.set 0 (.int .i64 (s2 : Int))).set 1 (.int .i64 (y : Int)))
        have HA2 := Lib.hid (apart_set (p := ⟨w.heap.size, 1, none⟩) (apart_set (p := ⟨w.heap.size, 0, none⟩) (apart_below HAC.out b2) ⟨Nat.le_refl _, by simp⟩ (.int .i64 (s2 : Int))) ⟨Nat.le_refl _, by simp⟩ (.int .i64 (y : Int)))
        clear b2
        go_wp2_with fail
        go_roundw
        case rel => exact ⟨k + 1, by omega, by simp, Lib.hid (by rw [HE.out]; exact HS2.out), HA2⟩
        case measure => simp [intOf]; omega
      · rw [decide_eq_false hy2] at HFP
        rw [if_neg hy2] at HT
        have HE : Hid ((es.take (k + 1)).foldl (tryOut l y) x = s) := Lib.hid (by rw [HST.out, HT.out])
        clear hy2 HT HST
        go_wp2_with fail
        refine HFP.out.mono ?_
        rintro e' _ ⟨rfl, q2, rfl, b2⟩
        have HBQ := Lib.hid (HB.out.below q2.h hbz)
        have HA2 := Lib.hid (apart_below HAC.out b2)
        clear b2
        go_wp2_with fail
        go_roundw
        case rel => exact ⟨k + 1, by omega, by simp, Lib.hid (by rw [HE.out]; exact HBQ.out), HA2⟩
        case measure => simp [intOf]; omega
    · have htk : es.take k = es := List.take_of_length_le (by have := HM.out; omega)
      obtain ⟨s, hs⟩ : ∃ s, leftTo l y x 8 = s := ⟨_, rfl⟩
      have HSE := Lib.hid hs
      rw [htk, HFOLD.out, hs] at HB
      have c0 : wr.cell? ⟨w.heap.size, 0, none⟩ = some (.int .i64 (s : Int)) := HB.out.cell 0
      have c1 : wr.cell? ⟨w.heap.size, 1, none⟩ = some (.int .i64 (y : Int)) := HB.out.cell 1
      have HRZ := Lib.hid (apart_box HA.out HR1.out (.inr (Nat.le_refl _)))
      have r0 : wr.cell? ⟨w.heap.size + 1, 0, none⟩ = some (.int .i64 0) := HRZ.out.cell 0
      have r1 : wr.cell? ⟨w.heap.size + 1, 1, none⟩ = some (.int .i64 0) := HRZ.out.cell 1
      have f0 : wr.frozen? ⟨w.heap.size + 1, 0, none⟩ = false := HRZ.out.free 0
      have f1 : wr.frozen? ⟨w.heap.size + 1, 1, none⟩ = false := HRZ.out.free 1
      have hz := (HRZ.out.set 0 (.int .i64 (s : Int))).set 1 (.int .i64 (y : Int))
      have z0 := hz.cell 0
      have z1 := hz.cell 1
      simp at z0 z1
      have HBE := Lib.hid (((HW1.out.trans (HA.out.below (Nat.le_refl _) (by omega))).setCell (p := ⟨w.heap.size + 1, 0, none⟩) (by show w.heap.size ≤ w.heap.size + 1; omega) (.int .i64 (s : Int))).setCell (p := ⟨w.heap.size + 1, 1, none⟩) (by show w.heap.size ≤ w.heap.size + 1; omega) (.int .i64 (y : Int)))
      clear hs htk hz
      go_wp2_with fail
      refine bodyPost_ret (v := Rule.mk ((s : Int), (y : Int))) (by simp [results, Try.results114, go_sem, z0, z1]) rfl ⟨by rw [HSE.out], HBE.out⟩
theorem ownP_nil' (e : TypeId) (w : World) (lo : Nat) : OwnP e w lo w.heap.size (.slice none 0 0) [] := OwnP.made (n := 0) (World.ownsRow_nil _ _ _ _)
set_option maxHeartbeats 6400000 in
theorem impl_left (n : Int) (v : Value) (l : List PInt) (B : Nat) (w : World) (hr : ReadsP w B v l) (hB : B ≤ w.heap.size) :
    Calls Try.prog 45 #[.int .i64 n, v] w fun e w' => ∃ u, e = .returned (.tuple #[u, .bool (areR n l)]) ∧ OwnP 43 w' w.heap.size w'.heap.size u (leftReduced n l) ∧ Below w.heap.size w w' := by
  obtain ⟨i0, hi, hz0, hz1, hz2⟩ := info_parts PRule.infoT
  have HA := Lib.hid ((Past.start w).of (impl_areRules n v l B w hr hB))
  cases ha : areR n l with
  | false =>
    have HX : Hid (leftReduced n l = []) := Lib.hid (by rw [leftReduced, if_neg (by rw [ha]; decide)])
    rw [ha] at HA
    clear ha hr
    go_enter Try.func45, Try.ntmps45
    go_wp2_with fail
    refine HA.out.mono ?_
    rintro e _ ⟨rfl, p, rfl⟩
    have HO := Lib.hid (ownP_nil' 43 p.w w.heap.size)
    have hbb := p.h
    go_wp2_with fail
    go_ret2
    exact ⟨_, rfl, by rw [HX.out]; exact HO.out, hbb⟩
  | true =>
    have hnn := areR_nn ha
    obtain ⟨N, rfl⟩ := Int.eq_ofNat_of_zero_le hnn.1
    have hn6 : N ≤ 6 := by omega
    have hl40 := hnn.2.2
    have HX : Hid (leftReduced (N : Int) l = leftAll l N) := Lib.hid (by rw [leftReduced, if_pos ha, Int.toNat_natCast])
    have h8 := allIn_to8 (areR_all ha)
    have HLT := Lib.hid (areR_lt ha).2
    have H8 := Lib.hid h8
    have HTK := Lib.hid fun (k : Nat) (hk : k < l.length) => leftAll_take (n := N) hk
    have HTL := Lib.hid (leftAll_len l N)
    have HRD := Lib.hid hr
    obtain ⟨a, c, rfl⟩ := hr.form
    obtain ⟨n, hn⟩ : ∃ n, l.length = n := ⟨_, rfl⟩
    have HN := Lib.hid hn
    rw [ha] at HA
    rw [hn] at HA hl40 HTL HRD ⊢
    clear ha hr h8 hn hnn
    go_enter Try.func45, Try.ntmps45
    go_wp2_with fail
    refine HA.out.mono ?_
    rintro e _ ⟨rfl, p, rfl⟩
    have hpz := p.size
    go_wp2_with (at_make; refine wpList_make_full _ rfl _ _ 28 rfl w.heap.size 43 i0 (.agg #[.int .i64 0, .int .i64 0]) 2 Try.underlying28 hi hz0 hz1 .i64 .i64 _ _ n rfl rfl rfl rfl (by rw [hz2]; omega) (by unfold maxLen; omega) hpz ?_; intro w0 hown0 hgrow0)
    have H0 := Lib.hid hown0
    have HG := Lib.hid (p.h.grown hgrow0 p.size (fun q hq => by cases hq))
    have hgz : p.w.heap.size < w0.heap.size := (H0.out.lt _ rfl).2
    clear hown0 hgrow0
    have hsz : (madeCells (Value.agg #[.int .i64 0, .int .i64 0]).cells (n * 2)).toList.length = n * 2 := by simp [size_madeCells]
    have HSZ := Lib.hid hsz
    clear hsz
    generalize (madeCells (Value.agg #[.int .i64 0, .int .i64 0]).cells (n * 2)).toList = ys at H0 HSZ
    generalize p.w.heap.size = G at H0 hgz hpz ⊢
    go_wp2_with fail
    go_loopw [18] (fun i wr => ∃ j : Nat, j ≤ n ∧ i = .int .i64 j ∧ Hid (wr.ownsRow w.heap.size 43 2 (.slice (some ⟨G, 0, none⟩) n n) n (prs ((leftAll l N).take j) ++ ys.drop (j * 2))) ∧ Hid (Below w.heap.size w wr)) (fun i _ => n - (intOf i).toNat)
    case atStart => exact ⟨0, Nat.zero_le _, rfl, Lib.hid (by simpa [prs] using H0.out), HG⟩
    case round =>
      obtain ⟨j, hj, rfl, hown, hbel⟩ := hrel
      by_cases hlt : j < n
      · have hjl : j < l.length := by rw [HN.out]; exact hlt
        obtain ⟨b, o, rfl, hb, h0, h1⟩ := readsP_at (by have := HRD.out.below hbel.out hB; rw [← HN.out] at this; exact this) hjl
        have hrr := allIn_rl H8.out hjl
        have hr0 := set8 hrr.1
        have hr1 := set8 hrr.2
        have htk := HTK.out j hjl
        have hlx := (HLT.out j hjl).1
        have hlen : ((leftAll l N).take j).length = j := by have := HTL.out; rw [List.length_take]; omega
        have HLN := Lib.hid hlen
        clear hrr hlen
        generalize rl l j = rr at h0 h1 hr0 hr1 htk hlx
        obtain ⟨r0, r1⟩ := rr
        simp only at hr0 hr1 h0 h1 hlx
        obtain ⟨x, rfl⟩ := Int.eq_ofNat_of_zero_le hr0.1
        obtain ⟨y, rfl⟩ := Int.eq_ofNat_of_zero_le hr1.1
        simp only [Int.toNat_natCast] at htk hlx
        have hx : x < 256 := by omega
        have hy : y < 256 := by omega
        rw [← left_all (l := l) (y := y) (by omega) hlx] at htk
        have hzr : G < wr.heap.size := (hown.out.lt _ rfl).2
        have hbz := hbel.out.size
        have HB2 := Lib.hid (hbel.out.alloc hbz (.cells #[.int .i64 (x : Int), .int .i64 (y : Int)] 43))
        have HLR := Lib.hid (impl_leftRule (.slice (some ⟨b, o, none⟩) l.length c) l x y B (wr.alloc (.cells #[.int .i64 (x : Int), .int .i64 (y : Int)] 43)) (by have := HRD.out.below HB2.out hB; rw [← HN.out] at this; exact this) (by simp; omega) H8.out hx hy)
        rw [HN.out] at HLR
        have HTK2 := Lib.hid htk
        generalize leftTo l y x 8 = s at HLR HTK2
        clear htk hlx
        go_wp2_with fail
        refine HLR.out.mono ?_
        rintro e w2 ⟨rfl, b2⟩
        have hown2 := rowP_same (hown.out.alloc (.cells #[.int .i64 (x : Int), .int .i64 (y : Int)] 43)) fun k hk => b2.block k ((hown.out.alloc (.cells #[.int .i64 (x : Int), .int .i64 (y : Int)] 43)).lt k hk).2
        have hl2 : (prs ((leftAll l N).take j) ++ ys.drop (j * 2)).length = n * 2 := by rw [List.length_append, prs_length, HLN.out, List.length_drop, HSZ.out]; omega
        obtain ⟨z0, d0⟩ : ∃ z, w2.cell? ⟨G, j * 2, none⟩ = some z := by
          rw [hown2.cellAt (j * 2) (by omega)]
          exact ⟨_, List.getElem?_eq_getElem (by omega)⟩
        obtain ⟨z1, d1⟩ : ∃ z, w2.cell? ⟨G, j * 2 + 1, none⟩ = some z := by
          rw [hown2.cellAt (j * 2 + 1) (by omega)]
          exact ⟨_, List.getElem?_eq_getElem (by omega)⟩
        have f0 : w2.frozen? ⟨G, j * 2, none⟩ = false := hown2.frozenAt _
        have f1 : w2.frozen? ⟨G, j * 2 + 1, none⟩ = false := hown2.frozenAt _
        have st1 := Lib.hid (hown2.stored (j * 2) (.int .i64 (s : Int)))
        have st2 := Lib.hid (st1.out.1.stored (j * 2 + 1) (.int .i64 (y : Int)))
        have B2 := Lib.hid (HB2.out.trans (b2.mono (by simp; omega)))
        have hbz2 := B2.out.size
        have hGw : w.heap.size ≤ G := hpz
        clear b2 hown2 hl2
        go_wp2_with fail
        go_roundw
        case rel =>
          refine ⟨j + 1, by omega, by simp, Lib.hid ?_, Lib.hid ((B2.out.grown st1.out.2 B2.out.size fun q hq => by cases hq; omega).grown st2.out.2 (by simp; omega) fun q hq => by cases hq; omega)⟩
          have := st2.out.1
          rw [PRule.set_pair _ _ _ ((s : Int), (y : Int)) HLN.out (by rw [HSZ.out]; omega), ← HTK2.out] at this
          exact this
        case measure => simp [intOf]; omega
      · have HJ := Lib.hid (show j = n by omega)
        have HO : Hid (OwnP 43 wr w.heap.size wr.heap.size (.slice (some ⟨G, 0, none⟩) n n) (leftAll l N)) := Lib.hid (OwnP.made (n := n) (by
          have := hown.out
          rw [HJ.out, List.drop_of_length_le (by rw [HSZ.out]; omega), List.append_nil, List.take_of_length_le (by have := HTL.out; omega)] at this
          exact this))
        go_wp2_with fail
        go_ret2
        exact ⟨_, rfl, by rw [HX.out]; exact HO.out, hbel.out⟩
end Go.Proofs.Ytgkoggajdhibdaa.Infer
