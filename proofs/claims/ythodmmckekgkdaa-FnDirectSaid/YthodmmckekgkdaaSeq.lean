/-
  Chapter 5 of the program: closedSets hands back a function over which a loop may range: it yields the closed sets in lectic order.
-/
import Derived.Test.YthodmmckekgkdaaConc3
import Derived.Test.YthodmmckekgkdaaMrg2
import Derived.Test.YthodmmckekgkdaaRound
namespace Go.Proofs.Ythodmmckekgkdaa.Ctx
open Go Go.RowKit Mem Sets
set_option maxRecDepth 100000
attribute [local go_sem] Oper.semAt_some

/-- What the closed sets' function yields. -/
def closedList (a : Int) (rs : List Int) : List Nat := if isCtx a rs = true then closedFrom a.toNat (clo a rs) (clo a rs 0) else []
/-- What a round keeps: whatever lies below lo, and block b. -/
structure Keep (lo b : Nat) (W W' : World) : Prop where
  below : Below lo W W'
  box : W'.heap[b]? = W.heap[b]?
theorem Keep.trans {lo b : Nat} {A B C : World} (h : Keep lo b A B) (k : Keep lo b B C) : Keep lo b A C := ⟨h.below.trans k.below, k.box.trans h.box⟩
theorem closedFrom_head {n : Nat} {cl : Nat → Nat} (C : Clo n cl) {x : Nat} (hx : x < 2 ^ n) (hcx : cl x = x) : ∃ t, closedFrom n cl x = x :: t := by
  cases h : nextTo cl x n with
  | none => exact ⟨[], closedFrom_none C hx hcx h⟩
  | some y => exact ⟨_, closedFrom_some C hx hcx h⟩
theorem closedSets (a : Int) (v : Value) (w : World) :
    Calls Try.prog 108 #[ctx a v] w fun e w' => e = .returned (.func (.func 123) #[] #[.pointer (some ⟨w.heap.size, 0, none⟩)]) ∧ w' = w.alloc (.cells #[.int .i64 a, v] 26) := by
  go_enter Try.func108, Try.ntmps108
  go_wp2_with fail
  go_ret
  exact ⟨rfl, rfl⟩
set_option maxHeartbeats 3200000 in
theorem closed_seq (n : Nat) (l Bn lo : Nat) (a : Int) (sl : Value) (rs : List Int) (J Jx : List Nat → World → Prop)
    (hJ : ∀ pre W W', J pre W → Below W.heap.size W W' → J pre W')
    (hY : ∀ pre x W, J pre W → pre.length < (closedList a rs).length → YieldAt Fence.wide (n - 1) Try.prog l #[.int .i64 (x : Nat)] W fun e W' =>
      (e = .returned (.bool true) ∧ J (pre ++ [x]) W' ∧ Keep lo Bn W W') ∨ (e = .returned (.bool false) ∧ Jx (pre ++ [x]) W'))
    (W : World) (hb : BoxAt W Bn 26 #[.int .i64 a, sl]) (hr : Reads W lo sl (ints rs)) (hlo : lo ≤ Bn) (h0 : J [] W) :
    CallsIn Fence.wide n Try.prog 123 #[.func (.yield l) #[] #[], .pointer (some ⟨Bn, 0, none⟩)] W fun e W' =>
      (∃ v, e = .returned v) ∧ ((∃ ys, ys = closedList a rs ∧ J ys W') ∨ (∃ pre, pre <+: closedList a rs ∧ Jx pre W')) := by
  obtain ⟨aa, ca, rfl⟩ := reads_form hr
  have hlt := hb.lt
  have HR := Lib.hid hr
  have HB := Lib.hid hb
  have g0 := fun p : Past W => Past.cell (hb.cell 0) (by exact hlt) p
  have g1 := fun p : Past W => Past.cell (hb.cell 1) (by exact hlt) p
  have HJ := Lib.hid hJ
  have HY := Lib.hid hY
  have H0 := Lib.hid h0
  clear hr hb hJ hY h0
  have HP0 := Lib.hid (fun p : Past W => p.of (impl_closure a (.slice aa rs.length ca) rs 0 lo p.w (Past.reads HR.out (by omega) p) (by have := p.size; omega)))
  have HP1 := Lib.hid (fun p : Past W => p.of (impl_isCtx a (.slice aa rs.length ca) rs lo p.w (Past.reads HR.out (by omega) p) (by have := p.size; omega)))
  refine callsIn_of_wp Try.func123 rfl trivial ?_ rfl
  simp only [Try.ntmps123, List.size_toArray, List.length_cons, List.length_nil, Nat.reduceAdd, Nat.reduceSub, Array.replicate_succ, Array.replicate_zero, List.push_toArray, List.append_toArray, List.nil_append, List.cons_append]
  gi_wp2
  refine wpIn_wide.2 ?_
  refine wp_region_past (by kernel_rfl) (by kernel_rfl) ?_
  repeat (go_big_quiet_step (first | with_reducible exact HP0.out _ | with_reducible exact HP1.out _))
  refine wpQuiet_nil ?_
  rintro _ ⟨p, rfl⟩
  show Exit.then _ _ Exit.normal _ _
  have hJ1 : J [] p.w := HJ.out _ _ _ H0.out p.h
  have hstart : Hid (isCtx a rs = true → isCtx a rs = true ∧ ∃ x : Nat, closure a rs 0 = ((x : Nat) : Int) ∧ x < 2 ^ a.toNat ∧ clo a rs x = x ∧ closedList a rs = closedFrom a.toNat (clo a rs) x) := Lib.hid (fun hi => by
    have C := clo_ok hi
    have hcl0 : closure a rs 0 = ((clo a rs 0 : Nat) : Int) := by
      have := closure_clo (x := 0) hi (Nat.pow_pos (by omega)); simpa using this
    exact ⟨hi, _, hcl0, C.lt 0, C.idem 0 (Nat.pow_pos (by omega)), by simp [closedList, hi]⟩)
  have hnone : Hid (isCtx a rs = false → closedList a rs = []) := Lib.hid (fun hi => by simp [closedList, hi])
  clear HP0 HP1
  generalize closure a rs 0 = z0 at hstart ⊢
  have hb1 : Hid (BoxAt p.w Bn 26 #[.int .i64 a, .slice aa rs.length ca]) := Lib.hid (HB.out.below p.h hlt)
  have hr1 : Hid (Reads p.w lo (.slice aa rs.length ca) (ints rs)) := Lib.hid (HR.out.below p.h (by omega))
  clear g0 g1
  gi_wp2
  gi_loopw [3, 4] (fun s f wr => ∃ (pre rest : List Nat) (z : Int) (ok : Bool), s = .int .i64 z ∧ f = .bool ok ∧ Hid (BoxAt wr Bn 26 #[.int .i64 a, .slice aa rs.length ca]) ∧ Hid (Reads wr lo (.slice aa rs.length ca) (ints rs)) ∧ Hid (closedList a rs = pre ++ rest) ∧ Hid (ok = true → isCtx a rs = true ∧ ∃ x : Nat, z = ((x : Nat) : Int) ∧ x < 2 ^ a.toNat ∧ clo a rs x = x ∧ rest = closedFrom a.toNat (clo a rs) x) ∧ Hid (ok = false → rest = []) ∧ Hid (J pre wr))
    (fun s f _ => match f with | .bool true => 257 - mir (intOf s).toNat | _ => 0)
  case atStart => exact ⟨[], _, z0, isCtx a rs, rfl, rfl, hb1, hr1, Lib.hid (List.nil_append _).symm, hstart, hnone, Lib.hid hJ1⟩
  case round =>
    obtain ⟨pre, rest, z, ok, rfl, rfl, hbw, hrw, hpr, hok, hno, hJq⟩ := hrel
    cases ok with
    | false =>
      have hpr2 : Hid (pre = closedList a rs) := Lib.hid (by rw [hpr.out, hno.out rfl, List.append_nil])
      clear hok hno hpr
      gi_wp2
      refine ⟨fun _ h => (by cases h), ?_⟩
      gi_wp2
      go_end0
      exact ⟨⟨_, rfl⟩, .inl ⟨pre, hpr2.out, hJq.out⟩⟩
    | true =>
      obtain ⟨hi, x, rfl, hx, hcx, hrest⟩ := hok.out rfl
      have C := clo_ok hi
      have hp6 : 2 ^ a.toNat ≤ 256 := pow_le8 (by have := isCtx_parts hi; omega)
      have hlen : pre.length < (closedList a rs).length := by
        rw [hpr.out, hrest, List.length_append]
        have : x ∈ closedFrom a.toNat (clo a rs) x := (mem_closedFrom C.n8).2 ⟨hx, hcx, Nat.le_refl _⟩
        have := List.length_pos_of_mem this
        omega
      obtain ⟨fn, tmps, assign, body, hy, hR⟩ := HY.out pre x wr hJq.out hlen
      have hn1 : nextClosed a rs (x : Int) = nextTo (clo a rs) x a.toNat := by
        rw [nextClosed, if_pos ⟨hi, isSet_of_nat (isCtx_parts hi).1 (by have := isCtx_parts hi; omega) hx⟩, Int.toNat_natCast]
      obtain ⟨o, ho⟩ : ∃ o, nextTo (clo a rs) x a.toNat = o := ⟨_, rfl⟩
      rw [ho] at hn1
      have HN := Lib.hid (fun w h hB => impl_next a (.slice aa rs.length ca) rs (x : Int) lo w h hB)
      rw [hn1] at HN
      have HO := Lib.hid ho
      have HCX := Lib.hid hcx
      have HRE := Lib.hid hrest
      have HC := Lib.hid C
      have HI := Lib.hid hi
      have hR1 := Lib.hid hR
      clear hR hlen ho hn1 hcx hrest C hi hok hno
      gi_wp2
      refine ⟨fun h => by simp [Fence.wide] at h, hR1.out.mono ?_⟩
      rintro e W3 (⟨rfl, hJ3, hk3⟩ | ⟨rfl, hJx3⟩)
      · have b3 : BoxAt W3 Bn 26 #[.int .i64 a, .slice aa rs.length ca] := hk3.box.trans hbw.out
        have r3 := Lib.hid (hrw.out.below hk3.below (Nat.le_refl _))
        have l3 := b3.lt
        have c0 : W3.cell? ⟨Bn, 0, none⟩ = some (.int .i64 a) := b3.cell 0
        have c1 : W3.cell? ⟨Bn, 1, none⟩ = some (.slice aa rs.length ca) := b3.cell 1
        have B3 := Lib.hid b3
        clear b3 hk3
        have HJ3 := Lib.hid hJ3
        clear hJ3
        cases o with
        | none =>
          have hpr2 : Hid (closedList a rs = (pre ++ [x]) ++ []) := Lib.hid (by rw [hpr.out, HRE.out, closedFrom_none HC.out hx HCX.out HO.out, List.append_nil])
          rw [show optV none = .tuple #[.int .i64 0, .bool false] from rfl] at HN
          gi_wp2
          refine ⟨trivial, ?_⟩
          refine ⟨fun h => by simp [Fence.wide] at h, ?_⟩
          refine (callsIn_wide.2 (HN.out W3 r3.out (by omega))).mono ?_
          rintro e W4 ⟨rfl, b4⟩
          have B4 := Lib.hid (B3.out.below b4 l3)
          have r4 := Lib.hid (r3.out.below b4 (by omega))
          have HJ4 := Lib.hid (HJ.out _ _ _ HJ3.out b4)
          clear b4
          gi_wp2
          go_roundw
          case rel => exact ⟨pre ++ [x], [], 0, false, rfl, rfl, B4, r4, hpr2, Lib.hid (fun h => by cases h), Lib.hid (fun _ => rfl), HJ4⟩
          case measure =>
            have := mir_lt x (by omega)
            simp [intOf]; omega
        | some y =>
          obtain ⟨hy1, hcy, hmy, -⟩ := next_some HC.out hx HO.out
          have HCY := Lib.hid hcy
          have hpr2 : Hid (closedList a rs = (pre ++ [x]) ++ closedFrom a.toNat (clo a rs) y) := Lib.hid (by rw [hpr.out, HRE.out, closedFrom_some HC.out hx HCX.out HO.out]; simp)
          have hmy2 := Lib.hid hmy
          rw [show optV (some y) = .tuple #[.int .i64 (y : Nat), .bool true] from rfl] at HN
          clear hcy hmy
          gi_wp2
          refine ⟨trivial, ?_⟩
          refine ⟨fun h => by simp [Fence.wide] at h, ?_⟩
          refine (callsIn_wide.2 (HN.out W3 r3.out (by omega))).mono ?_
          rintro e W4 ⟨rfl, b4⟩
          have B4 := Lib.hid (B3.out.below b4 l3)
          have r4 := Lib.hid (r3.out.below b4 (by omega))
          have HJ4 := Lib.hid (HJ.out _ _ _ HJ3.out b4)
          clear b4
          gi_wp2
          go_roundw
          case rel => exact ⟨pre ++ [x], _, (y : Int), true, rfl, rfl, B4, r4, hpr2, Lib.hid (fun _ => ⟨HI.out, y, rfl, hy1, HCY.out, rfl⟩), Lib.hid (fun h => by cases h), HJ4⟩
          case measure =>
            have h1 := mir_lt x (by omega)
            have h2 := mir_lt y (by omega)
            have h3 := hmy2.out
            simp [intOf]; omega
      · gi_wp2
        go_end0
        obtain ⟨t, ht⟩ := closedFrom_head HC.out hx HCX.out
        exact ⟨⟨_, rfl⟩, .inr ⟨pre ++ [x], ⟨t, by rw [hpr.out, HRE.out, ht, List.append_assoc, List.singleton_append]⟩, hJx3⟩⟩
end Go.Proofs.Ythodmmckekgkdaa.Ctx
