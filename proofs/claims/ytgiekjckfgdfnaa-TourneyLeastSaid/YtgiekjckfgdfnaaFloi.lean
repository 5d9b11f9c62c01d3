/- Ranks and keys of floats: what the reference returns. -/
import Derived.Test.YtgiekjckfgdfnaaFlof
namespace Go.Proofs.Ytgiekjckfgdfnaa
set_option maxRecDepth 100000
open Go.RowKit
set_option linter.unusedVariables false
theorem lt_zero {x : Nat} (hx : W64 x) (hn : isNaNB x = false) (hz : isZeroB x = false) : (FloatKind.f64.format.order x 0 == some .lt) = negB x := by
  rw [ord_lt (notNan_of hx hn) (y := 0) ⟨by decide, by decide⟩, skey_pos (x := 0) (by omega)]
  unfold isZeroB at hz
  unfold W64 at hx
  unfold negB skey
  simp only [decide_eq_false_iff_not] at hz
  rw [decide_eq_decide]
  by_cases k : x < 9223372036854775808
  · rw [if_pos k]; omega
  · rw [if_neg k]; omega
theorem kind_one {x : Nat} (hx : W64 x) (h : kindI x = 1) : isNaNB x = false ∧ isInfB x = false ∧ isZeroB x = false ∧ 0 < x % 9223372036854775808 ∧ x % 9223372036854775808 < 9218868437227405312 := by
  unfold kindI at h
  cases h1 : isNaNB x with
  | true => rw [h1] at h; simp at h
  | false =>
    cases h2 : isInfB x with
    | true => rw [h1, h2] at h; simp at h
    | false =>
      cases h3 : isZeroB x with
      | true => rw [h1, h2, h3] at h; simp at h
      | false =>
        refine ⟨rfl, rfl, rfl, ?_⟩
        unfold isNaNB at h1; unfold isInfB at h2; unfold isZeroB at h3
        simp only [decide_eq_false_iff_not] at h1 h2 h3
        omega
theorem fvc {c : Nat} {q : Int} (h : Canon c q) (hq : q ≤ 971) : FV false (rungOf c q) c q := FV.canon h hq false
theorem rung_w64 {c : Nat} {q : Int} (h : Canon c q) (hq : q ≤ 971) : W64 (rungOf c q) ∧ notNan (rungOf c q) := by
  have := rung_lt h hq
  exact ⟨by unfold W64; omega, by omega, by omega⟩
theorem canon_of_fin {r : Nat} (h0 : 0 < r) (h1 : r < 9218868437227405312) : ∃ c q, Canon c q ∧ q ≤ 971 ∧ c ≠ 0 ∧ rungOf c q = r := by
  obtain ⟨c, q, k1, k2, k3, -⟩ := canon_rung h1
  refine ⟨c, q, k1, k2, ?_, k3⟩
  rintro rfl
  rw [canon_zero k1] at k3
  have : rungOf 0 (-1074) = 0 := by decide
  omega
theorem word_false (r : Nat) : Ieee.double.word false r = r := rfl
theorem SameD.add {m c : Nat} {p q : Int} (h : SameD m p c q) (e : Int) : SameD m (p + e) c (q + e) := by
  obtain ⟨k, ⟨h1, h2⟩ | ⟨h1, h2⟩⟩ := h
  · exact ⟨k, .inl ⟨by omega, h2⟩⟩
  · exact ⟨k, .inr ⟨by omega, h2⟩⟩
theorem log2_le {c : Nat} (h : c < 9007199254740992) : c.log2 ≤ 52 := by
  by_cases h0 : c = 0
  · subst h0; simp
  · have := (Nat.log2_lt h0 (k := 53)).2 h; omega
/-- m is odd, and m 2^e is c 2^q. -/
def IsSplit (c : Nat) (q : Int) (m : Int) (e : Int) : Prop := 0 < m ∧ m % 2 = 1 ∧ SameD m.toNat e c q ∧ m < 9007199254740992
theorem IsSplit.unique {c : Nat} {q m e m' e' : Int} (h : IsSplit c q m e) (k : IsSplit c q m' e') : m = m' ∧ e = e' := by
  obtain ⟨h0, h1, h2, -⟩ := h
  obtain ⟨k0, k1, k2, -⟩ := k
  obtain ⟨a, ⟨g1, g2⟩ | ⟨g1, g2⟩⟩ := h2.trans k2.symm
  · cases a with
    | zero => simp at g1 g2; exact ⟨by omega, by omega⟩
    | succ a => rw [Nat.pow_succ, ← Nat.mul_assoc] at g2; omega
  · cases a with
    | zero => simp at g1 g2; exact ⟨by omega, by omega⟩
    | succ a => rw [Nat.pow_succ, ← Nat.mul_assoc] at g2; omega
theorem two_fv : FV false 4611686018427387904 1 1 := ⟨4503599627370496, -51, ⟨52, .inl ⟨by decide, by decide⟩⟩, ⟨by decide, by decide, .inl (by decide)⟩, by decide, by decide⟩
/-- The first loop: while 2^53 or more is there, half of it. -/
theorem half_step {c : Nat} {q : Int} (hc : Canon c q) (hq : q ≤ 971) (h1 : 1 ≤ q) : Canon c (q - 1) ∧ floatBits .quo .f64 (rungOf c q) 4611686018427387904 = some (rungOf c (q - 1)) := by
  have h2 : Canon c (q - 1) := by
    obtain ⟨a, b, d | d⟩ := hc
    · exact ⟨a, by omega, .inl d⟩
    · omega
  exact ⟨h2, fv_half (fvc hc hq) (fvc h2 (by omega))⟩
theorem big_test {c : Nat} {q : Int} (hc : Canon c q) : 4845873199050653696 ≤ rungOf c q ↔ 1 ≤ q := by
  obtain ⟨a, b, d⟩ := hc
  unfold rungOf
  constructor <;> intro <;> omega
/-- A number cut to a whole one. -/
def wholeN (c : Nat) (q : Int) : Nat := c / 2 ^ (-q).toNat
theorem whole_le (c : Nat) (q : Int) : wholeN c q ≤ c := Nat.div_le_self _ _
theorem whole_cut {c : Nat} {q : Int} (hc : Canon c q) (hq : q ≤ 0) : floatToIntVal .f64 (rungOf c q) .u64 = some (wholeN c q : Int) := by
  have h1 : c * 2 ^ q.toNat = c := by rw [show q.toNat = 0 by omega]; simp
  refine fv_cut hc (by omega) (word_false _).symm _ ?_ ?_
  · rw [h1]; rfl
  · have := whole_le c q; have := hc.1; omega
/-- The float of a whole number below 2^53. -/
theorem float_of {n : Nat} (h : n < 9007199254740992) : ∃ d p, Canon d p ∧ p ≤ 0 ∧ SameD n 0 d p ∧ floatOfInt .f64 (n : Int) = rungOf d p := by
  obtain ⟨d, p, h1, h2, h3⟩ := canon_ex _ n 0 (Nat.le_refl _) h (by omega)
  refine ⟨d, p, h2, h3, h1, fv_int ?_⟩
  exact ⟨d, p, h1, h2, by omega, rfl⟩
theorem rung_inj {c d : Nat} {q p : Int} (hc : Canon c q) (hd : Canon d p) (h : rungOf c q = rungOf d p) : c = d ∧ q = p := by
  obtain ⟨a1, a2, a3⟩ := hc
  obtain ⟨b1, b2, b3⟩ := hd
  unfold rungOf at h
  omega
/-- The second loop: while there is a fraction, twice of it. -/
theorem twice_step {c : Nat} {q : Int} (hc : Canon c q) (h0 : c ≠ 0) (hq : q ≤ 0) :
    (∃ n : Nat, n = wholeN c q ∧ SameD n 0 c q ∧ floatOfInt .f64 (n : Int) = rungOf c q) ∨
    (∃ z, floatOfInt .f64 (wholeN c q : Int) = z ∧ notNan z ∧ z ≠ rungOf c q ∧ z < 9223372036854775808 ∧ ∃ d p, Canon d p ∧ p ≤ 0 ∧ d ≠ 0 ∧ SameD d p c (q + 1) ∧ floatBits .mul .f64 (rungOf c q) 4611686018427387904 = some (rungOf d p)) := by
  have hw : wholeN c q < 9007199254740992 := by have := whole_le c q; have := hc.1; omega
  obtain ⟨d, p, k1, k2, k3, k4⟩ := float_of hw
  by_cases hs : SameD (wholeN c q) 0 c q
  · have := canon_same2 (k3.symm.trans hs) k1 hc
    exact .inl ⟨_, rfl, hs, by rw [k4, this.1, this.2]⟩
  · have hne : rungOf d p ≠ rungOf c q := fun e => by
      obtain ⟨rfl, rfl⟩ := rung_inj k1 hc e
      exact hs k3
    have hr := rung_lt k1 (by omega : p ≤ 971)
    have hlt : q ≤ -1 := by
      by_cases e : q = 0
      · subst e; exact absurd (by unfold wholeN; simp; exact SameD.refl _ _) hs
      · omega
    refine .inr ⟨_, k4, (rung_w64 k1 (by omega)).2, hne, by omega, ?_⟩
    obtain ⟨c1, c2, c3⟩ := id hc
    by_cases h52 : 4503599627370496 ≤ c
    · have h2 : Canon c (q + 1) := ⟨c1, by omega, .inl h52⟩
      refine ⟨c, q + 1, h2, by omega, h0, SameD.refl _ _, fv_mul (fvc hc (by omega)) two_fv ?_⟩
      rw [Nat.mul_one]; exact fvc h2 (by omega)
    · have hq2 : q = -1074 := by omega
      subst hq2
      have h2 : Canon (c * 2) (-1074) := ⟨by omega, by omega, .inr rfl⟩
      have hs2 : SameD (c * 2) (-1074) c (-1074 + 1) := ⟨1, .inr ⟨by omega, by simp⟩⟩
      refine ⟨c * 2, -1074, h2, by omega, by omega, hs2, fv_mul (fvc hc (by omega)) two_fv ?_⟩
      rw [Nat.mul_one]; exact (fvc h2 (by omega)).same hs2.symm
set_option maxRecDepth 100000
open Go.RowKit
set_option linter.unusedVariables false
def SplitPost (x c : Nat) (q : Int) (w : World) (e : Ending) (w' : World) : Prop := (∃ m k : Int, IsSplit c q m k ∧ e = .returned (.tuple #[.bool (negB x), .int .u64 m, .int .i64 k])) ∧ Drawn w w'
theorem split_bounds {c d : Nat} {q p e : Int} (hc : Canon c q) (hq : q ≤ 971) (h0 : c ≠ 0) (hd : d < 9007199254740992) (hp : -1074 ≤ p) (hp2 : p ≤ 0) (hs : SameD d (p + e) c q) : -1200 ≤ e ∧ e ≤ 2200 := by
  have h1 := hs.log2 h0
  have h2 := log2_le hc.1
  have h3 := log2_le hd
  have := hc.2.1
  omega
theorem odd_step {c : Nat} {q z e : Int} (h0 : 0 < z) (hm : z % 2 = 0) (hs : SameD z.toNat e c q) : 0 < z / 2 ∧ SameD (z / 2).toNat (e + 1) c q := by
  refine ⟨by omega, SameD.trans ⟨1, .inl ⟨by omega, by omega⟩⟩ hs⟩
set_option maxRecDepth 100000
open Go.RowKit
set_option linter.unusedVariables false
theorem IsSplit.ge {c : Nat} {q m e : Int} (h : IsSplit c q m e) : q ≤ e := by
  obtain ⟨h0, h1, ⟨a, ⟨g1, g2⟩ | ⟨g1, g2⟩⟩, h3⟩ := h
  · omega
  · cases a with
    | zero => omega
    | succ a => rw [Nat.pow_succ, ← Nat.mul_assoc] at g2; omega
theorem rank_bounds {c : Nat} {q z e : Int} (hc : Canon c q) (hq : q ≤ 971) (h0 : c ≠ 0) (hs : SameD z.toNat e c q) : e ≤ 1023 := by
  have h1 := hs.log2 h0
  have h2 := log2_le hc.1
  omega
end Go.Proofs.Ytgiekjckfgdfnaa
