/- Ranks and keys of floats: what the reference returns. -/
import Derived.Test.YtdnbjaeeebodkaaGreatFlof
namespace Go.Proofs.YtdnbjaeeebodkaaGreat
set_option maxRecDepth 100000
open Go.RowKit
set_option linter.unusedVariables false
theorem lt_zero {x : Nat} (hx : W64 x) (hn : isNaNB x = false) (hz : isZeroB x = false) : (FloatKind.f64.format.order x 0 == some .lt) = negB x := by
  rw [ord_lt (notNan_of hx hn) (y := 0) ⟨by decide, by decide⟩, skey_pos (x := 0) (by omega)]
  unfold isZeroB at hz
  unfold W64 at hx
  unfold negB skey
  simp only [decide_eq_false_iff_not] at hz
  rw [decide_eq_decide]
  by_cases k : x < 9223372036854775808
  · rw [if_pos k]; omega
  · rw [if_neg k]; omega
theorem kind_one {x : Nat} (hx : W64 x) (h : kindI x = 1) : isNaNB x = false ∧ isInfB x = false ∧ isZeroB x = false ∧ 0 < x % 9223372036854775808 ∧ x % 9223372036854775808 < 9218868437227405312 := by
  unfold kindI at h
  cases h1 : isNaNB x with
  | true => rw [h1] at h; simp at h
  | false =>
    cases h2 : isInfB x with
    | true => rw [h1, h2] at h; simp at h
    | false =>
      cases h3 : isZeroB x with
      | true => rw [h1, h2, h3] at h; simp at h
      | false =>
        refine ⟨rfl, rfl, rfl, ?_⟩
        unfold isNaNB at h1; unfold isInfB at h2; unfold isZeroB at h3
        simp only [decide_eq_false_iff_not] at h1 h2 h3
        omega
theorem fvc {c : Nat} {q : Int} (h : Canon c q) (hq : q ≤ 971) : FV false (rungOf c q) c q := FV.canon h hq false
theorem rung_w64 {c : Nat} {q : Int} (h : Canon c q) (hq : q ≤ 971) : W64 (rungOf c q) ∧ notNan (rungOf c q) := by
  have := rung_lt h hq
  exact ⟨by unfold W64; omega, by omega, by omega⟩
theorem canon_of_fin {r : Nat} (h0 : 0 < r) (h1 : r < 9218868437227405312) : ∃ c q, Canon c q ∧ q ≤ 971 ∧ c ≠ 0 ∧ rungOf c q = r := by
  obtain ⟨c, q, k1, k2, k3, -⟩ := canon_rung h1
  refine ⟨c, q, k1, k2, ?_, k3⟩
  rintro rfl
  rw [canon_zero k1] at k3
  have : rungOf 0 (-1074) = 0 := by decide
  omega
theorem word_false (r : Nat) : Ieee.double.word false r = r := rfl
theorem SameD.add {m c : Nat} {p q : Int} (h : SameD m p c q) (e : Int) : SameD m (p + e) c (q + e) := by
  obtain ⟨k, ⟨h1, h2⟩ | ⟨h1, h2⟩⟩ := h
  · exact ⟨k, .inl ⟨by omega, h2⟩⟩
  · exact ⟨k, .inr ⟨by omega, h2⟩⟩
theorem log2_le {c : Nat} (h : c < 9007199254740992) : c.log2 ≤ 52 := by
  by_cases h0 : c = 0
  · subst h0; simp
  · have := (Nat.log2_lt h0 (k := 53)).2 h; omega
/-- m is odd, and m 2^e is c 2^q. -/
def IsSplit (c : Nat) (q : Int) (m : Int) (e : Int) : Prop := 0 < m ∧ m % 2 = 1 ∧ SameD m.toNat e c q ∧ m < 9007199254740992
theorem IsSplit.unique {c : Nat} {q m e m' e' : Int} (h : IsSplit c q m e) (k : IsSplit c q m' e') : m = m' ∧ e = e' := by
  obtain ⟨h0, h1, h2, -⟩ := h
  obtain ⟨k0, k1, k2, -⟩ := k
  obtain ⟨a, ⟨g1, g2⟩ | ⟨g1, g2⟩⟩ := h2.trans k2.symm
  · cases a with
    | zero => simp at g1 g2; exact ⟨by omega, by omega⟩
    | succ a => rw [Nat.pow_succ, ← Nat.mul_assoc] at g2; omega
  · cases a with
    | zero => simp at g1 g2; exact ⟨by omega, by omega⟩
    | succ a => rw [Nat.pow_succ, ← Nat.mul_assoc] at g2; omega
theorem two_fv : FV false 4611686018427387904 1 1 := ⟨4503599627370496, -51, ⟨52, .inl ⟨by decide, by decide⟩⟩, ⟨by decide, by decide, .inl (by decide)⟩, by decide, by decide⟩
/-- The first loop: while 2^53 or more is there, half of it. -/
theorem half_step {c : Nat} {q : Int} (hc : Canon c q) (hq : q ≤ 971) (h1 : 1 ≤ q) : Canon c (q - 1) ∧ floatBits .quo .f64 (rungOf c q) 4611686018427387904 = some (rungOf c (q - 1)) := by
  have h2 : Canon c (q - 1) := by
    obtain ⟨a, b, d | d⟩ := hc
    · exact ⟨a, by omega, .inl d⟩
    · omega
  exact ⟨h2, fv_half (fvc hc hq) (fvc h2 (by omega))⟩
theorem big_test {c : Nat} {q : Int} (hc : Canon c q) : 4845873199050653696 ≤ rungOf c q ↔ 1 ≤ q := by
  obtain ⟨a, b, d⟩ := hc
  unfold rungOf
  constructor <;> intro <;> omega
/-- A number cut to a whole one. -/
def wholeN (c : Nat) (q : Int) : Nat := c / 2 ^ (-q).toNat
theorem whole_le (c : Nat) (q : Int) : wholeN c q ≤ c := Nat.div_le_self _ _
theorem whole_cut {c : Nat} {q : Int} (hc : Canon c q) (hq : q ≤ 0) : floatToIntVal .f64 (rungOf c q) .u64 = some (wholeN c q : Int) := by
  have h1 : c * 2 ^ q.toNat = c := by rw [show q.toNat = 0 by omega]; simp
  refine fv_cut hc (by omega) (word_false _).symm _ ?_ ?_
  · rw [h1]; rfl
  · have := whole_le c q; have := hc.1; omega
/-- The float of a whole number below 2^53. -/
theorem float_of {n : Nat} (h : n < 9007199254740992) : ∃ d p, Canon d p ∧ p ≤ 0 ∧ SameD n 0 d p ∧ floatOfInt .f64 (n : Int) = rungOf d p := by
  obtain ⟨d, p, h1, h2, h3⟩ := canon_ex _ n 0 (Nat.le_refl _) h (by omega)
  refine ⟨d, p, h2, h3, h1, fv_int ?_⟩
  exact ⟨d, p, h1, h2, by omega, rfl⟩
theorem rung_inj {c d : Nat} {q p : Int} (hc : Canon c q) (hd : Canon d p) (h : rungOf c q = rungOf d p) : c = d ∧ q = p := by
  obtain ⟨a1, a2, a3⟩ := hc
  obtain ⟨b1, b2, b3⟩ := hd
  unfold rungOf at h
  omega
/-- The second loop: while there is a fraction, twice of it. -/
theorem twice_step {c : Nat} {q : Int} (hc : Canon c q) (h0 : c ≠ 0) (hq : q ≤ 0) :
    (∃ n : Nat, n = wholeN c q ∧ SameD n 0 c q ∧ floatOfInt .f64 (n : Int) = rungOf c q) ∨
    (∃ z, floatOfInt .f64 (wholeN c q : Int) = z ∧ notNan z ∧ z ≠ rungOf c q ∧ z < 9223372036854775808 ∧ ∃ d p, Canon d p ∧ p ≤ 0 ∧ d ≠ 0 ∧ SameD d p c (q + 1) ∧ floatBits .mul .f64 (rungOf c q) 4611686018427387904 = some (rungOf d p)) := by
  have hw : wholeN c q < 9007199254740992 := by have := whole_le c q; have := hc.1; omega
  obtain ⟨d, p, k1, k2, k3, k4⟩ := float_of hw
  by_cases hs : SameD (wholeN c q) 0 c q
  · have := canon_same2 (k3.symm.trans hs) k1 hc
    exact .inl ⟨_, rfl, hs, by rw [k4, this.1, this.2]⟩
  · have hne : rungOf d p ≠ rungOf c q := fun e => by
      obtain ⟨rfl, rfl⟩ := rung_inj k1 hc e
      exact hs k3
    have hr := rung_lt k1 (by omega : p ≤ 971)
    have hlt : q ≤ -1 := by
      by_cases e : q = 0
      · subst e; exact absurd (by unfold wholeN; simp; exact SameD.refl _ _) hs
      · omega
    refine .inr ⟨_, k4, (rung_w64 k1 (by omega)).2, hne, by omega, ?_⟩
    obtain ⟨c1, c2, c3⟩ := id hc
    by_cases h52 : 4503599627370496 ≤ c
    · have h2 : Canon c (q + 1) := ⟨c1, by omega, .inl h52⟩
      refine ⟨c, q + 1, h2, by omega, h0, SameD.refl _ _, fv_mul (fvc hc (by omega)) two_fv ?_⟩
      rw [Nat.mul_one]; exact fvc h2 (by omega)
    · have hq2 : q = -1074 := by omega
      subst hq2
      have h2 : Canon (c * 2) (-1074) := ⟨by omega, by omega, .inr rfl⟩
      have hs2 : SameD (c * 2) (-1074) c (-1074 + 1) := ⟨1, .inr ⟨by omega, by simp⟩⟩
      refine ⟨c * 2, -1074, h2, by omega, by omega, hs2, fv_mul (fvc hc (by omega)) two_fv ?_⟩
      rw [Nat.mul_one]; exact (fvc h2 (by omega)).same hs2.symm
set_option maxRecDepth 100000
open Go.RowKit
set_option linter.unusedVariables false
def SplitPost (x c : Nat) (q : Int) (w : World) (e : Ending) (w' : World) : Prop := (∃ m k : Int, IsSplit c q m k ∧ e = .returned (.tuple #[.bool (negB x), .int .u64 m, .int .i64 k])) ∧ Drawn w w'
theorem split_bounds {c d : Nat} {q p e : Int} (hc : Canon c q) (hq : q ≤ 971) (h0 : c ≠ 0) (hd : d < 9007199254740992) (hp : -1074 ≤ p) (hp2 : p ≤ 0) (hs : SameD d (p + e) c q) : -1200 ≤ e ∧ e ≤ 2200 := by
  have h1 := hs.log2 h0
  have h2 := log2_le hc.1
  have h3 := log2_le hd
  have := hc.2.1
  omega
theorem odd_step {c : Nat} {q z e : Int} (h0 : 0 < z) (hm : z % 2 = 0) (hs : SameD z.toNat e c q) : 0 < z / 2 ∧ SameD (z / 2).toNat (e + 1) c q := by
  refine ⟨by omega, SameD.trans ⟨1, .inl ⟨by omega, by omega⟩⟩ hs⟩
set_option maxHeartbeats 4000000 in
theorem rsplit_fin (x c : Nat) (q : Int) (w : World) (hx : W64 x) (hk : kindI x = 1) (hc : Canon c q) (hq : q ≤ 971) (h0 : c ≠ 0) (hr : rungOf c q = x % 9223372036854775808) :
    Calls Tryz.prog 112 #[.float .f64 x] w (SplitPost x c q w) := by
  have hA := Lib.hid (rkind_any x w hx)
  obtain ⟨g1, g2, g3, g4, g5⟩ := kind_one hx hk
  have hL := lt_zero hx g1 g3
  have hU := run_neg (P := Tryz.prog) x hx
  have hne : (kindI x != 1) = false := by rw [hk]; rfl
  have hflip : negB x = true → flipN x = rungOf c q := fun h => by
    unfold negB at h; simp only [decide_eq_true_eq] at h
    unfold W64 at hx; unfold flipN
    rw [if_neg (by omega)]; omega
  have hsame : negB x = false → x = rungOf c q := fun h => by
    unfold negB at h; simp at h
    omega
  have hC := Lib.hid (And.intro hc (And.intro hq h0))
  generalize kindI x = K at *
  have h53 : notNan 4845873199050653696 := ⟨by decide, by decide⟩
  have hstart : ∃ y0, y0 = rungOf c q := ⟨_, rfl⟩
  unfold SplitPost
  generalize hb : negB x = b at *
  clear hk hr g1 g2 g3 g4 g5 hc hq h0 hstart
  have hH53 := Lib.hid h53
  clear h53
  have hB : (b = true ∧ Hid (flipN x = rungOf c q)) ∨ (b = false ∧ Hid (x = rungOf c q)) := by
    cases b
    · exact .inr ⟨rfl, Lib.hid (hsame rfl)⟩
    · exact .inl ⟨rfl, Lib.hid (hflip rfl)⟩
  clear hflip hsame hb
  rcases hB with ⟨rfl, hy⟩ | ⟨rfl, hy⟩
  all_goals
    generalize flipN x = fx at *
    go_enter Tryz.func112, Tryz.ntmps112
    go_wp2_with fail
    refine (hA.out).mono ?_; rintro e w1 ⟨rfl, hd1⟩
    have hd1 := Lib.hid hd1
    go_wp2_with fail
    have HL := Lib.hid hL
    clear hL hU hA hne
    go_loop [5, 6] (fun y i => ∃ k : Nat, (k : Int) ≤ max q 0 ∧ (q ≤ 0 → k = 0) ∧ i = .int .i64 k ∧ Hid (Canon c (q - k)) ∧ ∃ Y : Nat, y = .float .f64 Y ∧ Hid (Y = rungOf c (q - k))) (fun _ i => (q - intOf i).toNat)
    case atStart => exact ⟨0, by omega, fun _ => rfl, rfl, Lib.hid (by simpa using hC.out.1), _, rfl, Lib.hid (by rw [hy.out]; simp)⟩
    case round =>
      obtain ⟨k, hk1, hk2, rfl, hcan, Y, rfl, hY⟩ := hrel
      have hq := hC.out.2.1
      have hbig := big_test hcan.out
      rw [← hY.out] at hbig
      have hnn : notNan Y := by rw [hY.out]; exact (rung_w64 hcan.out (by omega)).2
      have hYlt : Y < 9223372036854775808 := by have := rung_lt hcan.out (by omega); rw [← hY.out] at this; omega
      have hgt := ord_gt hnn hH53.out
      have heq := ord_eq hnn hH53.out
      rw [skey_pos hYlt, skey_pos (x := 4845873199050653696) (by omega)] at hgt heq
      by_cases hcont : 1 ≤ q - k
      · have hst := half_step hcan.out (by omega) hcont
        rw [← hY.out] at hst
        have hcan2 := Lib.hid hst.1
        have hop : ∀ t w, (binOp .quo t (.float .f64 Y) (.float .f64 4611686018427387904)).run Tryz.prog w = .ok (.float .f64 (rungOf c (q - k - 1))) w := fun t w => run_float_arith w .quo t .f64 _ _ _ hst.2
        have hb := hbig.2 hcont
        have hYr := Lib.hid (show rungOf c (q - k - 1) = rungOf c (q - (k + 1 : Nat)) by congr 1; omega)
        have hcan3 := Lib.hid (show Canon c (q - (k + 1 : Nat)) by rw [show q - ((k + 1 : Nat) : Int) = q - k - 1 by omega]; exact hcan2.out)
        generalize rungOf c (q - k - 1) = Y2 at *
        clear hst hbig hcan hY hnn
        have hge : ((FloatKind.f64.format.order Y 4845873199050653696 == some .gt) = true) ∨ ((FloatKind.f64.format.order Y 4845873199050653696 == some .gt) = false ∧ (FloatKind.f64.format.order Y 4845873199050653696 == some .eq) = true) := by
          rw [hgt, heq]
          by_cases e : (Y : Int) = ((4845873199050653696 : Nat) : Int)
          · exact .inr ⟨by simp; omega, by simpa using e⟩
          · exact .inl (by simp; omega)
        clear hgt heq
        rcases hge with hgt | ⟨hgt, heq⟩
        all_goals
          go_wp2_with (simp only [hop])
          go_round
          case rel => exact ⟨k + 1, by omega, by omega, by go_num, hcan3, _, rfl, hYr⟩
          case measure => simp [intOf]; omega
      · have hgt2 : (FloatKind.f64.format.order Y 4845873199050653696 == some .gt) = false := by rw [hgt]; simp; omega
        have heq2 : (FloatKind.f64.format.order Y 4845873199050653696 == some .eq) = false := by rw [heq]; simp; omega
        clear hgt heq hbig
        have hrel2 : Hid (SameD c (q - k + k) c q) := Lib.hid (by rw [show q - (k : Int) + k = q by omega]; exact SameD.refl _ _)
        go_wp2_with fail
        clear hgt2 heq2
        have hq0 : q - k ≤ 0 := by omega
        have hI := Lib.hid (And.intro hcan.out (And.intro hq0 (And.intro hC.out.2.2 hrel2.out)))
        have hHL := HL.out
        clear hHL hcan hrel2 hnn hcont hk1 hk2 hYlt hq hq0
        generalize q - (k : Int) = p0 at *
        go_loop [5, 6] (fun y i => ∃ (d : Nat) (p e : Int), i = .int .i64 e ∧ Hid (Canon d p ∧ p ≤ 0 ∧ d ≠ 0 ∧ SameD d (p + e) c q) ∧ ∃ Y : Nat, y = .float .f64 Y ∧ Hid (Y = rungOf d p)) (fun _ i => (intOf i + 2000).toNat)
        case atStart => exact ⟨c, p0, k, rfl, hI, _, rfl, hY⟩
        case round =>
          clear hI hY
          obtain ⟨d, p, e, rfl, hI, Y, rfl, hY⟩ := hrel
          obtain ⟨i1, i2, i3, i4⟩ := hI.out
          obtain ⟨b1, b2⟩ := split_bounds hC.out.1 hC.out.2.1 hC.out.2.2 i1.1 i1.2.1 i2 i4
          have hcv := whole_cut i1 i2
          have hnn : notNan Y := by rw [hY.out]; exact (rung_w64 i1 (by omega)).2
          have hYlt : Y < 9223372036854775808 := by have := rung_lt i1 (show p ≤ 971 by omega); rw [← hY.out] at this; omega
          have hwl : wholeN d p < 9007199254740992 := by have := whole_le d p; have := i1.1; omega
          have hst := twice_step i1 i3 i2
          rw [← hY.out] at hcv hst
          have hwh := Lib.hid (show wholeN d p = wholeN d p from rfl)
          generalize hn : wholeN d p = n at *
          have hcv2 : ∀ w, (convert 65 52 (.float .f64 Y)).run Tryz.prog w = .ok (.int .u64 (n : Int)) w := fun w => run_convert_float_int w 65 52 .f64 .u64 Y n (by rw [Tryz.underlying65]; rfl) Tryz.underlying52 hcv
          rcases hst with ⟨n', rfl, hs, hfi⟩ | ⟨z, hfi, hz1, hz2, hz3, d2, p2, k1, k2, k3, k4, k5⟩
          · have hS := Lib.hid (show SameD n' e c q from by
              have := (hs.add e).trans i4
              rw [Int.zero_add] at this; exact this)
            have hne : (FloatKind.f64.format.order Y Y != some .eq) = false := by rw [bne_of (ord_eq hnn hnn)]; simp
            have hpos : 0 < n' := by
              rcases Nat.eq_zero_or_pos n' with h | h
              · exact absurd (hs.zero.1 h) i3
              · exact h
            clear hwh hn hI hY i1 i2 i3 i4 hs hcv hnn hYlt
            go_wp2_with (simp only [hcv2])
            clear hne hfi hcv2
            go_loop [7, 6] (fun m i => ∃ z e : Int, m = .int .u64 z ∧ i = .int .i64 e ∧ 0 < z ∧ z < 9007199254740992 ∧ Hid (SameD z.toNat e c q)) (fun m _ => (intOf m).toNat)
            case atStart => exact ⟨n', e, rfl, rfl, by omega, by omega, by simpa using hS⟩
            case round =>
              clear hS
              obtain ⟨z, e, rfl, rfl, z0, z1, hS⟩ := hrel
              have hb2 : -1200 ≤ e ∧ e ≤ 2200 := split_bounds (d := z.toNat) (p := 0) hC.out.1 hC.out.2.1 hC.out.2.2 (by omega) (by omega) (by omega) (by rw [Int.zero_add]; exact hS.out)
              obtain ⟨b1, b2⟩ := hb2
              have z2 : 0 ≤ z := by omega
              by_cases hm : z % 2 = 0
              · have hst := odd_step z0 hm hS.out
                have hS2 := Lib.hid hst.2
                have hp := hst.1
                have hm2 : (z % 2 == 0) = true := by rw [hm]; rfl
                clear hst hS hm
                go_wp2_with fail
                go_round
                case rel => exact ⟨z / 2, e + 1, rfl, rfl, hp, by omega, hS2⟩
                case measure => simp [intOf]; omega
              · have hm2 : (z % 2 == 0) = false := by simpa using hm
                have hE := Lib.hid (show IsSplit c q z e from ⟨z0, by omega, hS.out, z1⟩)
                have hL := HL.out
                clear hS hm
                go_wp2_with fail
                go_ret3
                exact ⟨⟨z, e, hE.out, rfl⟩, hd1.out⟩
          · have hI2 := Lib.hid (And.intro k1 (And.intro k2 (And.intro k3 (show SameD d2 (p2 + (e - 1)) c q from by
              have := k4.add (e - 1)
              rw [show p + 1 + (e - 1) = p + e by omega] at this
              exact this.trans i4))))
            have hop : ∀ t w, (binOp .mul t (.float .f64 Y) (.float .f64 4611686018427387904)).run Tryz.prog w = .ok (.float .f64 (rungOf d2 p2)) w := fun t w => run_float_arith w .mul t .f64 _ _ _ k5
            have hne : (FloatKind.f64.format.order Y z != some .eq) = true := by
              rw [bne_of (ord_eq hnn hz1), skey_pos hYlt, skey_pos hz3]; simp; omega
            have hY2 := Lib.hid (show rungOf d2 p2 = rungOf d2 p2 from rfl)
            generalize hrr : rungOf d2 p2 = R at *
            have hY3 : Hid (R = rungOf d2 p2) := Lib.hid hrr.symm
            clear hrr hY2 hwh hn hI hY i1 i2 i3 i4 hcv hnn hYlt k1 k2 k3 k4 k5 hz1 hz2 hz3
            go_wp2_with (first | simp only [hcv2] | simp only [hop])
            go_round
            case rel => exact ⟨d2, p2, e - 1, rfl, hI2, _, rfl, hY3⟩
            case measure => simp [intOf]; omega
set_option maxRecDepth 100000
open Go.RowKit
set_option linter.unusedVariables false
theorem IsSplit.ge {c : Nat} {q m e : Int} (h : IsSplit c q m e) : q ≤ e := by
  obtain ⟨h0, h1, ⟨a, ⟨g1, g2⟩ | ⟨g1, g2⟩⟩, h3⟩ := h
  · omega
  · cases a with
    | zero => omega
    | succ a => rw [Nat.pow_succ, ← Nat.mul_assoc] at g2; omega
theorem rank_bounds {c : Nat} {q z e : Int} (hc : Canon c q) (hq : q ≤ 971) (h0 : c ≠ 0) (hs : SameD z.toNat e c q) : e ≤ 1023 := by
  have h1 := hs.log2 h0
  have h2 := log2_le hc.1
  omega
set_option maxHeartbeats 4000000 in
theorem rrank_any (x : Nat) (w : World) (hx : x ≤ 9218868437227405312) :
    Calls Tryz.prog 90 #[.float .f64 x] w fun e w' => e = .returned (.int .u64 x) ∧ Drawn w w' := by
  have hw : W64 x := by unfold W64; omega
  have hA := Lib.hid (fun w => rkind_any x w hw)
  have hnan : isNaNB x = false := by unfold isNaNB; simp; omega
  have hZ := zero_test x hw
  by_cases hi : x = 9218868437227405312
  · have hk : kindI x = 2 := by unfold kindI; rw [hnan, hi]; rfl
    rw [hk] at hA
    clear hk hZ hnan hx
    subst hi
    go_enter Tryz.func90, Tryz.ntmps90
    go_wp2_with fail
    refine (hA.out _).mono ?_; rintro e w1 ⟨rfl, hd1⟩
    go_wp2_with fail
    go_ret
    exact ⟨rfl, hd1⟩
  · have hinf : isInfB x = false := by unfold isInfB; simp; omega
    by_cases hz : x = 0
    · subst hz
      have hk : kindI 0 = 0 := by decide
      have h2 : isZeroB 0 = true := by decide
      rw [hk] at hA
      rw [h2] at hZ
      clear hk h2 hinf hnan hx hi
      go_enter Tryz.func90, Tryz.ntmps90
      go_wp2_with fail
      refine (hA.out _).mono ?_; rintro e w1 ⟨rfl, hd1⟩
      go_wp2_with fail
      go_ret
      exact ⟨rfl, hd1⟩
    · have h2 : isZeroB x = false := by unfold isZeroB; simp; omega
      have hk : kindI x = 1 := by unfold kindI; rw [hnan, hinf, h2]; rfl
      obtain ⟨c, q, hc, hq, h0, hr⟩ := canon_of_fin (r := x) (by omega) (by omega)
      have HS := Lib.hid (fun w => rsplit_fin x c q w hw hk hc hq h0 (by rw [hr]; omega))
      rw [hk] at hA
      rw [h2] at hZ
      have hC := Lib.hid (And.intro hc (And.intro hq (And.intro h0 hr)))
      clear hk h2 hinf hnan hi hz hc hq h0 hr hw
      go_enter Tryz.func90, Tryz.ntmps90
      go_wp2_with fail
      refine (hA.out _).mono ?_; rintro e w1 ⟨rfl, hd1⟩
      go_wp2_with fail
      refine (HS.out _).mono ?_; rintro e w2 ⟨⟨m, k, hs, rfl⟩, hd2⟩
      have hd := Lib.hid (hd1.trans hd2)
      have hge := hs.ge
      have hmb := hs.2.2.2
      have hm0 := hs.1
      have hs1 := Lib.hid hs.2.2.1
      have hcq := hC.out.1.2.1
      generalize negB x = bb at *
      clear hd1 hd2 hA HS hs hZ
      go_wp2_with fail
      go_loop [4, 5] (fun m i => ∃ z e : Int, m = .int .u64 z ∧ i = .int .i64 e ∧ 0 < z ∧ z < 9007199254740992 ∧ -1074 ≤ e ∧ Hid (SameD z.toNat e c q)) (fun _ i => (intOf i + 1074).toNat)
      case atStart => exact ⟨m, k, rfl, rfl, hm0, hmb, by omega, hs1⟩
      case round =>
        clear hs1 hmb hm0 hge hcq
        obtain ⟨z, e, rfl, rfl, z0, z1, e0, hS⟩ := hrel
        have e1 := rank_bounds hC.out.1 hC.out.2.1 hC.out.2.2.1 hS.out
        by_cases h52 : z < 4503599627370496
        · by_cases he : -1074 < e
          · have hS2 : Hid (SameD (z * 2).toNat (e - 1) c q) := Lib.hid (SameD.trans ⟨1, .inr ⟨by omega, by omega⟩⟩ hS.out)
            clear hS
            go_wp2_with fail
            go_round
            case rel => exact ⟨z * 2, e - 1, rfl, rfl, by omega, by omega, by omega, hS2⟩
            case measure => simp [intOf]; omega
          · have hE := canon_same2 hS.out ⟨by omega, by omega, .inr (by omega)⟩ hC.out.1
            have hE2 : Hid (z = (x : Int)) := Lib.hid (by
              have := hC.out.2.2.2; unfold rungOf at this; omega)
            have he2 : decide (-1074 < e) = false := by simpa using he
            clear hE hS
            go_wp2_with fail
            go_ret
            exact ⟨ret_int hE2.out, hd.out⟩
        · have hE := canon_same2 hS.out ⟨by omega, by omega, .inl (by omega)⟩ hC.out.1
          have hE2 : Hid ((e + 1074) * 4503599627370496 + z = (x : Int)) := Lib.hid (by
            have := hC.out.2.2.2; unfold rungOf at this; omega)
          have he3 : e ≤ 971 := by have := hC.out.2.1; omega
          clear hE hS
          go_wp2_with fail
          go_ret
          exact ⟨ret_int hE2.out, hd.out⟩
set_option maxHeartbeats 1000000 in
theorem rkey_any (x : Nat) (w : World) (hx : W64 x) :
    Calls Tryz.prog 64 #[.float .f64 x] w fun e w' => e = .returned (.int .u64 (keyI x)) ∧ Drawn w w' := by
  have hA := Lib.hid (rkind_any x w hx)
  have hB := Lib.hid (fun w => rbelow_any x w hx)
  have kx := kind_nan x
  have hU := run_neg (P := Tryz.prog) x hx
  rcases key_cases hx with ⟨h1, h2⟩ | ⟨h1, h2, h3, h4, h5, h6, h7⟩ | ⟨h1, h2, h3, h4, h5, h6⟩
  · rw [h1] at kx
    rw [h2]
    generalize kindI x = K at *
    clear h1 h2
    go_enter Tryz.func64, Tryz.ntmps64
    go_wp2_with fail
    refine (hA.out).mono ?_; rintro e w1 ⟨rfl, hd1⟩
    go_wp2_with fail
    go_ret
    exact ⟨rfl, hd1⟩
  · rw [h1] at kx
    rw [h6]
    rw [h3] at hB
    have hf : flipN x = x - 9223372036854775808 := by unfold flipN; rw [if_neg (by omega)]
    rw [hf] at hU
    have hR := Lib.hid (fun w => rrank_any (x - 9223372036854775808) w (by omega))
    have hcst : ((x - 9223372036854775808 : Nat) : Int) = (x : Int) - 9223372036854775808 := by omega
    have hb1 : (0 : Int) ≤ (x : Int) - 9223372036854775808 := by omega
    have hb2 : (x : Int) - 9223372036854775808 ≤ 9218868437227405312 := by omega
    rw [hcst] at hR
    have hE : Hid ((9223372036854775807 : Int) - ((x : Int) - 9223372036854775808) = 18446744073709551615 - x) := Lib.hid (by omega)
    generalize x - 9223372036854775808 = X at *
    generalize (x : Int) - 9223372036854775808 = Y at *
    generalize kindI x = K at *
    clear h1 h2 h3 h4 h5 h6 h7 hf hcst
    go_enter Tryz.func64, Tryz.ntmps64
    go_wp2_with fail
    refine (hA.out).mono ?_; rintro e w1 ⟨rfl, hd1⟩
    go_wp2_with fail
    refine (hB.out _).mono ?_; rintro e w2 ⟨rfl, rfl⟩
    go_wp2_with fail
    refine (hR.out _).mono ?_; rintro e w3 ⟨rfl, hd2⟩
    go_wp2_with fail
    go_ret
    exact ⟨ret_int hE.out, hd1.trans hd2⟩
  · rw [h1] at kx
    rw [h5]
    rw [h3] at hB
    have hR := Lib.hid (fun w => rrank_any x w h4)
    have hb1 : (0 : Int) ≤ (x : Int) := by omega
    have hb2 : (x : Int) ≤ 9218868437227405312 := by omega
    generalize kindI x = K at *
    clear h1 h2 h3 h4 h5 h6 hU
    go_enter Tryz.func64, Tryz.ntmps64
    go_wp2_with fail
    refine (hA.out).mono ?_; rintro e w1 ⟨rfl, hd1⟩
    go_wp2_with fail
    refine (hB.out _).mono ?_; rintro e w2 ⟨rfl, rfl⟩
    go_wp2_with fail
    refine (hR.out _).mono ?_; rintro e w3 ⟨rfl, hd2⟩
    go_wp2_with fail
    go_ret
    exact ⟨ret_int (Int.add_comm _ _), hd1.trans hd2⟩
end Go.Proofs.YtdnbjaeeebodkaaGreat
