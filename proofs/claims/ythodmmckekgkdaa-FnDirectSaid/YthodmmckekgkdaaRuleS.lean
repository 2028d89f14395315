/-
  Chapter 9 of the model: rules, what respects them, what is closed by them.
-/
import Derived.Test.YthodmmckekgkdaaRuleP
import Derived.Test.YthodmmckekgkdaaPRule
import Derived.Test.YthodmmckekgkdaaMrg2
import Derived.Test.YthodmmckekgkdaaDerive
import Derived.Deep.RegionHeld3
import Derived.Deep.DeepCutAuto
namespace Go.Proofs.Ythodmmckekgkdaa.Rule
open Go Go.RowKit Mem Sets Ctx Tab
set_option maxRecDepth 100000

abbrev mk (p : PInt) : Value := .agg #[.int .i64 p.1, .int .i64 p.2]
theorem readsP_at {w : World} {B : Nat} {a : Option Addr} {n c : Nat} {l : List PInt} (h : ReadsP w B (.slice a n c) l) {k : Nat} (hk : k < l.length) :
    ∃ b o, a = some ⟨b, o, none⟩ ∧ b < B ∧ w.cell? ⟨b, o + k * 2, none⟩ = some (.int .i64 (rl l k).1) ∧ w.cell? ⟨b, o + k * 2 + 1, none⟩ = some (.int .i64 (rl l k).2) := by
  obtain ⟨_, a', c', hv, hc⟩ := h
  injection hv with e1 e2 e3
  subst e1
  obtain ⟨b, o, h1, h2, h3⟩ := hc (by rintro rfl; simp at hk)
  exact ⟨b, o, h1, h2, h3 k hk⟩
theorem allIn_step {n : Int} {l : List PInt} {k : Nat} (hk : k < l.length) (h : (l.take k).all (isR n) = true) (hs : isR n (rl l k) = true) : (l.take (k + 1)).all (isR n) = true := by
  rw [List.take_add_one, List.getElem?_eq_getElem hk, List.all_append, h]
  rw [rl, List.getD_eq_getElem?_getD, List.getElem?_eq_getElem hk] at hs
  simpa using hs
theorem allIn_bad {n : Int} {l : List PInt} {k : Nat} (hk : k < l.length) (hs : isR n (rl l k) = false) : allIn n l = false := by
  unfold allIn
  rw [List.all_eq_false]
  exact ⟨_, rl_mem hk, by rw [hs]; decide⟩
theorem l9Rule (n : Int) (p : PInt) (w : World) :
    Calls Try.prog 76 #[.int .i64 n, mk p] w fun e w' => e = .returned (.bool (isR n p)) ∧ Below w.heap.size w w' := by
  obtain ⟨x, y⟩ := p
  cases h : isSet n x with
  | false =>
    have HX : Hid (isR n (x, y) = false) := Lib.hid (by rw [isR, h]; rfl)
    go_enter Try.func76, Try.ntmps76
    go_wp2_with fail
    refine (spec_isSet n x _).mono ?_
    rintro e w' ⟨rfl, hw⟩
    subst w'
    rw [h]
    go_wp2_with fail
    go_ret
    exact ⟨by rw [HX.out]; rfl, (Below.refl _ _).alloc (Nat.le_refl _) _⟩
  | true =>
    have HX : Hid (isR n (x, y) = isSet n y) := Lib.hid (by rw [isR, h]; rfl)
    go_enter Try.func76, Try.ntmps76
    go_wp2_with fail
    refine (spec_isSet n x _).mono ?_
    rintro e w' ⟨rfl, hw⟩
    subst w'
    rw [h]
    go_wp2_with fail
    refine (spec_isSet n y _).mono ?_
    rintro e w' ⟨rfl, hw⟩
    subst w'
    go_wp2_with fail
    go_ret
    exact ⟨by rw [HX.out]; rfl, (Below.refl _ _).alloc (Nat.le_refl _) _⟩
set_option maxHeartbeats 1600000 in
theorem l9Sets (v : Value) (l : List PInt) (B : Nat) (w : World) (hr : ReadsP w B v l) (hB : B ≤ w.heap.size) :
    Calls Try.prog 74 #[v] w fun e w' => e = .returned (.bool (allIn 8 l)) ∧ Below w.heap.size w w' := by
  obtain ⟨a, c, rfl⟩ := hr.form
  have hlen := hr.1
  unfold maxLen at hlen
  have HR := Lib.hid hr
  obtain ⟨m, hm⟩ : ∃ m, l.length = m := ⟨_, rfl⟩
  have HM := Lib.hid hm
  rw [hm] at HR hlen ⊢
  clear hr hm
  go_enter Try.func74, Try.ntmps74
  go_wp2_with fail
  go_loopw [3] (fun i wr => ∃ k : Nat, k ≤ m ∧ i = .int .i64 k ∧ Hid ((l.take k).all (isR 8) = true) ∧ ∃ p : Past w, wr = p.w) (fun i _ => m - (intOf i).toNat)
  case atStart => exact ⟨0, Nat.zero_le _, rfl, Lib.hid rfl, Past.start w, rfl⟩
  case round =>
    obtain ⟨k, hk, rfl, hall, p, rfl⟩ := hrel
    by_cases hlt : k < m
    · obtain ⟨b, o, rfl, hb, h0, h1⟩ := readsP_at HR.out (k := k) (by rw [HM.out]; exact hlt)
      have c0 := Past.cell h0 (by show b < _; omega) p
      have c1 := Past.cell h1 (by show b < _; omega) p
      have HL := Lib.hid (p.of (l9Rule 8 (rl l k) p.w))
      have HS := Lib.hid fun h => allIn_step (n := 8) (by rw [HM.out]; exact hlt) hall.out h
      have HF := Lib.hid fun h => allIn_bad (n := 8) (l := l) (k := k) (by rw [HM.out]; exact hlt) h
      clear h0 h1
      generalize rl l k = q at c0 c1 HL HS HF
      cases hq : isR 8 q with
      | true =>
        have HA := Lib.hid (HS.out hq)
        rw [hq] at HL
        clear hq
        go_wp2_with fail
        refine HL.out.mono ?_
        rintro e _ ⟨rfl, p2, rfl⟩
        go_wp2_with fail
        go_roundw
        case rel => exact ⟨k + 1, by omega, by simp, HA, p2, rfl⟩
        case measure => simp [intOf]; omega
      | false =>
        have HA := Lib.hid (HF.out hq)
        rw [hq] at HL
        clear hq
        go_wp2_with fail
        refine HL.out.mono ?_
        rintro e _ ⟨rfl, p2, rfl⟩
        have hbb := p2.h
        go_wp2_with fail
        go_ret
        exact ⟨by rw [HA.out]; rfl, hbb⟩
    · have HA : Hid (allIn 8 l = true) := Lib.hid (by
        have := hall.out
        rwa [List.take_of_length_le (by have := HM.out; omega)] at this)
      have hbb := p.h
      go_wp2_with fail
      go_ret
      exact ⟨by rw [HA.out]; rfl, hbb⟩
set_option maxHeartbeats 1600000 in
theorem spec_areRules (n : Int) (v : Value) (l : List PInt) (B : Nat) (w : World) (hr : ReadsP w B v l) (hB : B ≤ w.heap.size) :
    Calls Try.prog 66 #[.int .i64 n, v] w fun e w' => e = .returned (.bool (areR n l)) ∧ Below w.heap.size w w' := by
  obtain ⟨a, c, rfl⟩ := hr.form
  have hlen := hr.1
  unfold maxLen at hlen
  have HR := Lib.hid hr
  obtain ⟨m, hm⟩ : ∃ m, l.length = m := ⟨_, rfl⟩
  have HM := Lib.hid hm
  rw [hm] at HR hlen ⊢
  clear hr hm
  go_enter Try.func66, Try.ntmps66
  go_wp2_with fail
  go_loopw [5] (fun i wr => ∃ k : Nat, k ≤ m ∧ i = .int .i64 k ∧ Hid ((l.take k).all (isR n) = true) ∧ ∃ p : Past w, wr = p.w) (fun i _ => m - (intOf i).toNat)
  case atStart => exact ⟨0, Nat.zero_le _, rfl, Lib.hid rfl, Past.start w, rfl⟩
  case round =>
    obtain ⟨k, hk, rfl, hall, p, rfl⟩ := hrel
    by_cases hlt : k < m
    · obtain ⟨b, o, rfl, hb, h0, h1⟩ := readsP_at HR.out (k := k) (by rw [HM.out]; exact hlt)
      have c0 := Past.cell h0 (by show b < _; omega) p
      have c1 := Past.cell h1 (by show b < _; omega) p
      have HL := Lib.hid (p.of (l9Rule n (rl l k) p.w))
      have HS := Lib.hid fun h => allIn_step (n := n) (by rw [HM.out]; exact hlt) hall.out h
      have HF := Lib.hid fun h => allIn_bad (n := n) (l := l) (k := k) (by rw [HM.out]; exact hlt) h
      clear h0 h1
      generalize rl l k = q at c0 c1 HL HS HF
      cases hq : isR n q with
      | true =>
        have HA := Lib.hid (HS.out hq)
        rw [hq] at HL
        clear hq
        go_wp2_with fail
        refine HL.out.mono ?_
        rintro e _ ⟨rfl, p2, rfl⟩
        go_wp2_with fail
        go_roundw
        case rel => exact ⟨k + 1, by omega, by simp, HA, p2, rfl⟩
        case measure => simp [intOf]; omega
      | false =>
        have HA := Lib.hid (HF.out hq)
        rw [hq] at HL
        clear hq
        go_wp2_with fail
        refine HL.out.mono ?_
        rintro e _ ⟨rfl, p2, rfl⟩
        have hbb := p2.h
        go_wp2_with fail
        go_ret
        exact ⟨by rw [areR, HA.out]; rfl, hbb⟩
    · have HA : Hid (allIn n l = true) := Lib.hid (by
        have := hall.out
        rwa [List.take_of_length_le (by have := HM.out; omega)] at this)
      have hbb := p.h
      go_wp2_with fail
      refine (l1In n 0 6 _).mono ?_
      rintro e w' ⟨rfl, hw⟩
      subst w'
      cases hd : decide (0 ≤ n ∧ n ≤ 6) with
      | true =>
        have HX : Hid (areR n l = decide ((m : Int) ≤ 40)) := Lib.hid (by rw [areR, HA.out, hd, HM.out, Bool.true_and, Bool.true_and, decide_eq_decide]; omega)
        clear hd
        go_wp2_with fail
        go_ret
        exact ⟨by rw [HX.out]; rfl, hbb⟩
      | false =>
        have HX : Hid (areR n l = false) := Lib.hid (by rw [areR, hd, Bool.and_false]; rfl)
        clear hd
        go_wp2_with fail
        go_ret
        exact ⟨by rw [HX.out]; rfl, hbb⟩
theorem andL (x s : Int) (hx : 0 ≤ x ∧ x ≤ 255) (hs : 0 ≤ s ∧ s ≤ 255) : (bits .and .i64 x s == x) = decide (x.toNat &&& s.toNat = x.toNat) := by
  obtain ⟨m, rfl⟩ := Int.eq_ofNat_of_zero_le hx.1
  obtain ⟨k, rfl⟩ := Int.eq_ofNat_of_zero_le hs.1
  rw [and_nat m k (by omega) (by omega), Bool.eq_iff_iff]
  simp only [beq_iff_eq, decide_eq_true_eq, Int.toNat_natCast]
  omega
theorem andN (x s : Int) (hx : 0 ≤ x ∧ x ≤ 255) (hs : 0 ≤ s ∧ s ≤ 255) : (bits .and .i64 x s != x) = decide (x.toNat &&& s.toNat ≠ x.toNat) := by
  have := andL x s hx hs
  rw [bne, this]
  by_cases h : x.toNat &&& s.toNat = x.toNat <;> simp [h]
theorem set8 {x : Int} (h : isSet 8 x = true) : 0 ≤ x ∧ x ≤ 255 := by
  have h8 := isSet8 x
  rw [h] at h8
  simpa using h8.symm
theorem or_nat' (m k : Nat) (hm : m < 256) (hk : k < 256) : bits .or .i64 (m : Int) (k : Int) = ((m ||| k : Nat) : Int) :=
  (bits_nat .i64 8 (by decide) (fun n h0 h1 => by rw [IntKind.wrap_i64]; omega) m k hm hk).2
theorem Cl_of {l : List PInt} {s t : Nat} (h1 : Le s t) (h2 : ∀ u, allR l u = true → Le s u → Le t u) (h3 : allR l t = true) : Cl l s t := ⟨h1, h3, h2⟩
theorem fires_bits {x y : Int} {t : Nat} (hx : 0 ≤ x ∧ x ≤ 255) (hy : 0 ≤ y ∧ y ≤ 255) (ht : t < 256) : fires (x, y) t = ((bits .and .i64 x (t : Int) == x) && (bits .and .i64 y (t : Int) != y)) := by
  rw [andL x t hx (by omega), andN y t hy (by omega), fires, Int.toNat_natCast]
set_option maxHeartbeats 4000000 in
theorem l9Closed (v : Value) (l : List PInt) (s : Nat) (B : Nat) (w : World) (hr : ReadsP w B v l) (hB : B ≤ w.heap.size) (hl : allIn 8 l = true) (hs : s < 256) :
    Calls Try.prog 75 #[v, .int .i64 s] w fun e w' => e = .returned (.int .i64 (cl l s : Nat)) ∧ Below w.heap.size w w' := by
  obtain ⟨a, c, rfl⟩ := hr.form
  have hlen := hr.1
  unfold maxLen at hlen
  have HR := Lib.hid hr
  obtain ⟨m, hm⟩ : ∃ m, l.length = m := ⟨_, rfl⟩
  have HM := Lib.hid hm
  have HIN := Lib.hid hl
  have HLT : Hid (∀ k, k < l.length → (rl l k).2.toNat < 2 ^ 8) := Lib.hid fun k hk => allIn_lt hl hk
  rw [hm] at HR hlen ⊢
  clear hr hm hl
  go_enter Try.func75, Try.ntmps75
  go_wp2_with fail
  go_loopw [1, 5] (fun t ch wr => ∃ (x : Nat) (b : Bool), x < 256 ∧ t = .int .i64 x ∧ ch = .bool b ∧ Hid (Le s x) ∧ Hid (∀ u, allR l u = true → Le s u → Le x u) ∧ Hid (b = false → allR l x = true) ∧ ∃ p : Past w, wr = p.w) (fun t ch _ => 2 * (256 - (intOf t).toNat) + (match ch with | .bool true => 1 | _ => 0))
  case atStart => exact ⟨s, true, hs, rfl, rfl, Lib.hid (Le.refl s), Lib.hid (fun u _ h => h), Lib.hid (fun h => by cases h), Past.start w, rfl⟩
  case round =>
    obtain ⟨x, b, hx, rfl, rfl, H1, H2, H3, p, rfl⟩ := hrel
    cases b with
    | false =>
      have HC := Lib.hid ((cl_spec HLT.out hs).eq (Cl_of H1.out H2.out (H3.out rfl)))
      have hbb := p.h
      go_wp2_with fail
      go_ret
      exact ⟨by rw [HC.out]; rfl, hbb⟩
    | true =>
      clear H3
      go_wp2_with fail
      go_loopw [1, 5, 6] (fun t ch i wr => ∃ (k y : Nat) (b : Bool), k ≤ m ∧ i = .int .i64 k ∧ y < 256 ∧ t = .int .i64 y ∧ ch = .bool b ∧ Hid (y = passTo l x k) ∧ Hid (b = decide (passTo l x k ≠ x)) ∧ ∃ p : Past w, wr = p.w) (fun _ _ i _ => m - (intOf i).toNat)
      case atStart => exact ⟨0, x, false, Nat.zero_le _, rfl, hx, rfl, rfl, Lib.hid rfl, Lib.hid (by simp [passTo]), p, rfl⟩
      case round =>
        obtain ⟨k, y, b, hk, rfl, hy, rfl, rfl, HY, HBb, p2, rfl⟩ := hrel
        by_cases hlt : k < m
        · have hkl : k < l.length := by rw [HM.out]; exact hlt
          obtain ⟨bk, o, rfl, hb, h0, h1⟩ := readsP_at HR.out hkl
          have c0 := fun q : Past w => Past.cell h0 (by show bk < _; omega) q
          have c1 := fun q : Past w => Past.cell h1 (by show bk < _; omega) q
          have hq := allIn_rl HIN.out hkl
          have hq1 := set8 hq.1
          have hq2 := set8 hq.2
          have HP := Lib.hid (fires_bits (x := (rl l k).1) (y := (rl l k).2) hq1 hq2 hy)
          have HYS := Lib.hid fun h : fires (rl l k) (passTo l x k) = true => pass_yes h
          have HNO := Lib.hid fun h : fires (rl l k) (passTo l x k) = false => pass_no h
          have HGR := Lib.hid fun h : fires (rl l k) (passTo l x k) = true => fires_grows h
          have HLE := Lib.hid (le_pass l x k)
          rw [← HY.out] at HYS HNO HGR HLE
          clear h0 h1 hq
          generalize rl l k = r at c0 c1 HP HYS HNO HGR hq1 hq2
          obtain ⟨r0, r1⟩ := r
          obtain ⟨d1, hd1⟩ : ∃ d, (bits .and .i64 r0 (y : Int) == r0) = d := ⟨_, rfl⟩
          obtain ⟨d2, hd2⟩ : ∃ d, (bits .and .i64 r1 (y : Int) != r1) = d := ⟨_, rfl⟩
          rw [hd1, hd2] at HP
          have kp0 := c0 p2
          have kp1 := c1 p2
          cases d1 with
          | false =>
            have HE := Lib.hid (HNO.out HP.out)
            go_wp2_with fail
            refine wp_region_pastIn p2 (by kernel_rfl) (by kernel_rfl) ?_
            repeat (go_big_quiet_step (fail))
            refine wpQuiet_nil ?_
            rintro _ ⟨p3, rfl⟩
            go_wp2_with fail
            go_roundw
            case rel => exact ⟨k + 1, y, b, by omega, by simp, hy, rfl, rfl, Lib.hid HE.out.symm, Lib.hid (by rw [HE.out, HBb.out, ← HY.out]), p3, rfl⟩
            case measure => simp [intOf]; omega
          | true =>
            cases d2 with
            | false =>
              have HE := Lib.hid (HNO.out HP.out)
              go_wp2_with fail
              refine wp_region_pastIn p2 (by kernel_rfl) (by kernel_rfl) ?_
              repeat (go_big_quiet_step (fail))
              refine wpQuiet_nil ?_
              rintro _ ⟨p3, rfl⟩
              go_wp2_with fail
              go_roundw
              case rel => exact ⟨k + 1, y, b, by omega, by simp, hy, rfl, rfl, Lib.hid HE.out.symm, Lib.hid (by rw [HE.out, HBb.out, ← HY.out]), p3, rfl⟩
              case measure => simp [intOf]; omega
            | true =>
              have HE := Lib.hid (HYS.out HP.out)
              have HG := Lib.hid (HGR.out HP.out)
              have hor : bits .or .i64 (y : Int) r1 = ((y ||| r1.toNat : Nat) : Int) := by
                obtain ⟨z, rfl⟩ := Int.eq_ofNat_of_zero_le hq2.1
                rw [or_nat' y z hy (by omega), Int.toNat_natCast]
              have hlt8 : y ||| r1.toNat < 256 := Nat.or_lt_two_pow (n := 8) hy (by omega)
              go_wp2_with fail
              refine wp_region_pastIn p2 (by kernel_rfl) (by kernel_rfl) ?_
              repeat (go_big_quiet_step (fail))
              refine wpQuiet_nil ?_
              rintro _ ⟨p3, rfl⟩
              have kr1 := c1 p3
              go_wp2_with fail
              go_roundw
              case rel =>
                exact ⟨k + 1, y ||| r1.toNat, true, by omega, by simp, hlt8, rfl, rfl, Lib.hid HE.out.symm, Lib.hid (by
                  rw [HE.out, eq_comm, decide_eq_true_eq]
                  intro he
                  have := HLE.out
                  exact HG.out ((he ▸ this).antisymm le_orl)), p3, rfl⟩
              case measure => simp [intOf]; omega
        · have HK := Lib.hid (show k = l.length by have := HM.out; omega)
          have hy2 := HY.out
          rw [HK.out] at hy2
          have hb2 := HBb.out
          rw [HK.out, ← hy2] at hb2
          have HLE := Lib.hid (le_pass l x l.length)
          have HPL : Hid (∀ u, allR l u = true → Le s u → Le y u) := Lib.hid fun u h1 h2 => by rw [hy2]; exact pass_le h1 (H2.out u h1 h2) (Nat.le_refl _)
          have HSM := Lib.hid fun h : passTo l x l.length = x => pass_same h
          rw [← hy2] at HLE HSM
          have hle := le_num HLE.out
          have HB2 := Lib.hid hb2
          have HLX := Lib.hid (H1.out.trans HLE.out)
          clear hy2 hb2
          go_wp2_with fail
          go_roundw
          case rel => exact ⟨y, b, hy, rfl, rfl, HLX, HPL, Lib.hid (fun hb => by
            have hyx : y = x := by have := HB2.out; rw [hb] at this; simpa using this.symm
            have := HSM.out hyx
            rwa [← hyx] at this), p2, rfl⟩
          case measure =>
            have h2 := HB2.out
            by_cases hyx : y = x
            · have hbf : b = false := by rw [h2]; simp [hyx]
              subst hbf hyx
              simp [intOf]
            · have : x < y := by omega
              cases b <;> simp [intOf] <;> omega
set_option maxHeartbeats 1600000 in
theorem spec_closedBy (v : Value) (l : List PInt) (s : Int) (B : Nat) (w : World) (hr : ReadsP w B v l) (hB : B ≤ w.heap.size) :
    Calls Try.prog 27 #[v, .int .i64 s] w fun e w' => e = .returned (.int .i64 (closedBy l s)) ∧ Below w.heap.size w w' := by
  have HL := Lib.hid ((Past.start w).of (l9Sets v l B w hr hB))
  have HR := Lib.hid hr
  cases hi : allIn 8 l with
  | false =>
    have HX : Hid (closedBy l s = s) := Lib.hid (by rw [closedBy, if_neg (by simp [hi])])
    rw [hi] at HL
    clear hi hr
    go_enter Try.func27, Try.ntmps27
    go_wp2_with fail
    refine HL.out.mono ?_
    rintro e _ ⟨rfl, p, rfl⟩
    have hbb := p.h
    go_wp2_with fail
    go_ret
    exact ⟨by rw [HX.out]; rfl, hbb⟩
  | true =>
    have HI := Lib.hid hi
    rw [hi] at HL
    have HS := Lib.hid fun w => spec_isSet 8 s w
    cases hs : isSet 8 s with
    | false =>
      have HX : Hid (closedBy l s = s) := Lib.hid (by rw [closedBy, if_neg (by simp [hs])])
      rw [hs] at HS
      clear hi hr hs
      go_enter Try.func27, Try.ntmps27
      go_wp2_with fail
      refine HL.out.mono ?_
      rintro e _ ⟨rfl, p, rfl⟩
      go_wp2_with fail
      refine (HS.out _).mono ?_
      rintro e w' ⟨rfl, hw⟩
      subst w'
      have hbb := p.h
      go_wp2_with fail
      go_ret
      exact ⟨by rw [HX.out]; rfl, hbb⟩
    | true =>
      obtain ⟨n, rfl⟩ := Int.eq_ofNat_of_zero_le (set8 hs).1
      have hn : n < 256 := by have := set8 hs; omega
      have HX : Hid (closedBy l n = ((cl l n : Nat) : Int)) := Lib.hid (by rw [closedBy, if_pos ⟨hi, hs⟩, Int.toNat_natCast])
      have HC := Lib.hid fun p : Past w => p.of (l9Closed v l n B p.w (HR.out.below p.h hB) (Nat.le_trans hB p.size) hi hn)
      rw [hs] at HS
      clear hi hr hs
      go_enter Try.func27, Try.ntmps27
      go_wp2_with fail
      refine HL.out.mono ?_
      rintro e _ ⟨rfl, p, rfl⟩
      go_wp2_with fail
      refine (HS.out _).mono ?_
      rintro e w' ⟨rfl, hw⟩
      subst w'
      go_wp2_with fail
      refine (HC.out p).mono ?_
      rintro e _ ⟨rfl, p2, rfl⟩
      have hbb := p2.h
      go_wp2_with fail
      go_ret
      exact ⟨by rw [HX.out]; rfl, hbb⟩
theorem and_comm_eq (x y : Nat) : decide (x &&& y = x) = decide (y &&& x = x) := by rw [Nat.and_comm]
set_option maxHeartbeats 3200000 in
theorem spec_follows (v : Value) (l : List PInt) (r : PInt) (B : Nat) (w : World) (hr : ReadsP w B v l) (hB : B ≤ w.heap.size) :
    Calls Try.prog 29 #[v, mk r] w fun e w' => e = .returned (.bool (follows l r)) ∧ Below w.heap.size w w' := by
  obtain ⟨x, y⟩ := r
  have hW := (Below.refl w.heap.size w).alloc (Nat.le_refl _) (.cells #[.int .i64 x, .int .i64 y] 43)
  have q0 : (w.alloc (.cells #[.int .i64 x, .int .i64 y] 43)).cell? ⟨w.heap.size, 0, none⟩ = some (.int .i64 x) := by simp
  have q1 : (w.alloc (.cells #[.int .i64 x, .int .i64 y] 43)).cell? ⟨w.heap.size, 1, none⟩ = some (.int .i64 y) := by simp
  have hz : w.heap.size < (w.alloc (.cells #[.int .i64 x, .int .i64 y] 43)).heap.size := by simp
  have HR := Lib.hid (hr.below hW hB)
  clear hr
  go_enter Try.func29, Try.ntmps29
  go_upto_region 1 with fail
  generalize w.alloc (.cells #[.int .i64 x, .int .i64 y] 43) = W at hW q0 q1 hz HR ⊢
  have hBW : B ≤ W.heap.size := by omega
  have k0 := fun p : Past W => Past.cell q0 (by show w.heap.size < _; omega) p
  have k1 := fun p : Past W => Past.cell q1 (by show w.heap.size < _; omega) p
  have HBW := Lib.hid hW
  have H1 := Lib.hid fun p : Past W => p.of (l9Sets v l B p.w (HR.out.below p.h hBW) (Nat.le_trans hBW p.size))
  have H2 := Lib.hid fun p : Past W => p.of (l9Rule 8 (x, y) p.w)
  clear hW q0 q1
  cases hi : allIn 8 l with
  | false =>
    have HX : Hid (follows l (x, y) = false) := Lib.hid (by rw [follows, hi]; rfl)
    rw [hi] at H1
    clear hi
    refine wp_region_past (by kernel_rfl) (by kernel_rfl) ?_
    repeat (go_big_quiet_step (first | with_reducible exact H1.out _))
    refine wpQuiet_nil ?_
    rintro _ ⟨p, rfl⟩
    have hbb := HBW.out.trans (p.h.mono (by omega))
    go_wp2_with fail
    go_ret
    exact ⟨by rw [HX.out]; rfl, hbb⟩
  | true =>
    rw [hi] at H1
    cases hq : isR 8 (x, y) with
    | false =>
      have HX : Hid (follows l (x, y) = false) := Lib.hid (by rw [follows, hq, Bool.and_false]; rfl)
      rw [hq] at H2
      clear hi hq
      refine wp_region_past (by kernel_rfl) (by kernel_rfl) ?_
      repeat (go_big_quiet_step (first | with_reducible exact H1.out _ | with_reducible exact H2.out _))
      refine wpQuiet_nil ?_
      rintro _ ⟨p, rfl⟩
      have hbb := HBW.out.trans (p.h.mono (by omega))
      go_wp2_with fail
      go_ret
      exact ⟨by rw [HX.out]; rfl, hbb⟩
    | true =>
      have hr2 := hq
      unfold isR at hr2
      rw [Bool.and_eq_true] at hr2
      have hx := set8 hr2.1
      have hy := set8 hr2.2
      obtain ⟨n, rfl⟩ := Int.eq_ofNat_of_zero_le hx.1
      have hn : n < 256 := by omega
      have hcl : cl l n < 256 := cl_lt (n := 8) (by omega) (fun k hk => allIn_lt hi hk) hn
      have HC := Lib.hid fun p : Past W => p.of (l9Closed v l n B p.w (HR.out.below p.h hBW) (Nat.le_trans hBW p.size) hi hn)
      have HX : Hid (follows l ((n : Int), y) = (bits .and .i64 ((cl l n : Nat) : Int) y == y)) := Lib.hid (by
        rw [follows, hi, hq, row_and ((cl l n : Nat) : Int) y (by omega) hy, Int.toNat_natCast, Int.toNat_natCast, Bool.true_and, Bool.true_and, and_comm_eq])
      rw [hq] at H2
      generalize cl l n = c at HC HX hcl
      obtain ⟨d, hd⟩ : ∃ d, (bits .and .i64 ((c : Nat) : Int) y == y) = d := ⟨_, rfl⟩
      rw [hd] at HX
      clear hi hq hr2
      refine wp_region_past (by kernel_rfl) (by kernel_rfl) ?_
      repeat (go_big_quiet_step (first | with_reducible exact H1.out _ | with_reducible exact H2.out _ | with_reducible exact HC.out _))
      refine wpQuiet_nil ?_
      rintro _ ⟨p, rfl⟩
      have hbb := HBW.out.trans (p.h.mono (by omega))
      go_wp2_with fail
      go_ret
      exact ⟨by rw [HX.out]; rfl, hbb⟩
set_option maxHeartbeats 3200000 in
theorem spec_holds (a : Int) (v : Value) (rs : List Int) (r : PInt) (B : Nat) (w : World) (hr : Reads w B v (ints rs)) (hB : B ≤ w.heap.size) :
    Calls Try.prog 67 #[ctx a v, mk r] w fun e w' => e = .returned (.bool (holds a rs r)) ∧ Below w.heap.size w w' := by
  obtain ⟨x, y⟩ := r
  obtain ⟨aa, ca, rfl⟩ := reads_form hr
  have hW := ((Below.refl w.heap.size w).alloc (Nat.le_refl _) (.cells #[.int .i64 a, .slice aa rs.length ca] 26)).alloc (by simp) (.cells #[.int .i64 x, .int .i64 y] 43)
  have HR1 := Lib.hid (hr.below hW hB)
  have q0 : ((w.alloc (.cells #[.int .i64 a, .slice aa rs.length ca] 26)).alloc (.cells #[.int .i64 x, .int .i64 y] 43)).cell? ⟨w.heap.size, 0, none⟩ = some (.int .i64 a) := by simp
  have q1 : ((w.alloc (.cells #[.int .i64 a, .slice aa rs.length ca] 26)).alloc (.cells #[.int .i64 x, .int .i64 y] 43)).cell? ⟨w.heap.size, 1, none⟩ = some (.slice aa rs.length ca) := by simp
  have q2 : ((w.alloc (.cells #[.int .i64 a, .slice aa rs.length ca] 26)).alloc (.cells #[.int .i64 x, .int .i64 y] 43)).cell? ⟨w.heap.size + 1, 0, none⟩ = some (.int .i64 x) := by simp
  have q3 : ((w.alloc (.cells #[.int .i64 a, .slice aa rs.length ca] 26)).alloc (.cells #[.int .i64 x, .int .i64 y] 43)).cell? ⟨w.heap.size + 1, 1, none⟩ = some (.int .i64 y) := by simp
  have hz : w.heap.size + 1 < ((w.alloc (.cells #[.int .i64 a, .slice aa rs.length ca] 26)).alloc (.cells #[.int .i64 x, .int .i64 y] 43)).heap.size := by simp
  clear hr
  go_enter Try.func67, Try.ntmps67
  go_wp2_with fail
  generalize ((w.alloc (.cells #[.int .i64 a, .slice aa rs.length ca] 26)).alloc (.cells #[.int .i64 x, .int .i64 y] 43)) = W at HR1 hW q0 q1 q2 q3 hz ⊢
  have hBW : B ≤ W.heap.size := by omega
  have k0 := fun p : Past W => Past.cell q0 (by show w.heap.size < _; omega) p
  have k1 := fun p : Past W => Past.cell q1 (by show w.heap.size < _; omega) p
  have k2 := fun p : Past W => Past.cell q2 (by show w.heap.size + 1 < _; omega) p
  have k3 := fun p : Past W => Past.cell q3 (by show w.heap.size + 1 < _; omega) p
  have HBW := Lib.hid hW
  clear hW q0 q1 q2 q3
  refine ((Past.start W).of (spec_isCtx a _ rs B W HR1.out hBW)).mono ?_
  rintro e _ ⟨rfl, p, rfl⟩
  have kp0 := k0 p
  have kp2 := k2 p
  have kp3 := k3 p
  cases hic : isCtx a rs with
  | false =>
    have HX : Hid (holds a rs (x, y) = false) := Lib.hid (by rw [holds, hic]; rfl)
    have hbb := HBW.out.trans (p.h.mono (by omega))
    clear hic
    go_wp2_with fail
    go_ret
    exact ⟨by rw [HX.out]; rfl, hbb⟩
  | true =>
    have HL := Lib.hid (p.of (l9Rule a (x, y) p.w))
    cases hq : isR a (x, y) with
    | false =>
      have HX : Hid (holds a rs (x, y) = false) := Lib.hid (by rw [holds, hq, Bool.and_false]; rfl)
      rw [hq] at HL
      clear hic hq
      go_wp2_with fail
      refine HL.out.mono ?_
      rintro e _ ⟨rfl, p2, rfl⟩
      have hbb := HBW.out.trans (p2.h.mono (by omega))
      go_wp2_with fail
      go_ret
      exact ⟨by rw [HX.out]; rfl, hbb⟩
    | true =>
      have hr2 := hq
      unfold isR at hr2
      rw [Bool.and_eq_true] at hr2
      have h6 := (isCtx_parts hic).2.1
      have hb := fun {z : Int} (h : isSet a z = true) => show 0 ≤ z ∧ z ≤ 255 by
        obtain ⟨n, rfl, hn, -, -⟩ := isSet_to_nat h
        have := pow_le8 (n := a.toNat) (by omega)
        omega
      have hx := hb hr2.1
      have hy := hb hr2.2
      have HC := Lib.hid fun q : Past W => q.of (l4Closure a (.slice aa rs.length ca) rs x B q.w (Past.reads HR1.out hBW q) (Nat.le_trans hBW q.size) hic hx)
      have hlt := intTo_256 hic ((extTo rs x rs.length : Nat) : Int) rs.length
      have HX : Hid (holds a rs (x, y) = (bits .and .i64 y ((intTo a rs ((extTo rs x rs.length : Nat) : Int) rs.length : Nat) : Int) == y)) := Lib.hid (by
        rw [holds, hic, hq, andL y _ hy (by omega), Int.toNat_natCast, Bool.true_and, Bool.true_and])
      generalize intTo a rs ((extTo rs x rs.length : Nat) : Int) rs.length = c at HC HX hlt
      rw [hq] at HL
      clear hic hq hr2 hb
      go_wp2_with fail
      refine HL.out.mono ?_
      rintro e _ ⟨rfl, p2, rfl⟩
      go_wp2_with fail
      refine wp_region_pastIn p2 (by kernel_rfl) (by kernel_rfl) ?_
      repeat (go_big_quiet_step (first | with_reducible exact HC.out _))
      refine wpQuiet_nil ?_
      rintro _ ⟨p3, rfl⟩
      have hbb := HBW.out.trans (p3.h.mono (by omega))
      go_wp2_with fail
      go_ret
      exact ⟨by rw [HX.out]; rfl, hbb⟩
end Go.Proofs.Ythodmmckekgkdaa.Rule
