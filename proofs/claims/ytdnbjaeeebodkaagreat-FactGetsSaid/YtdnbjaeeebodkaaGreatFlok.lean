/- A float times a power of two, and a float's sign: what package math returns. -/
import Derived.Test.YtdnbjaeeebodkaaGreatFloi
import Derived.Test.YtdnbjaeeebodkaaGreatNatf
namespace Go.Proofs.YtdnbjaeeebodkaaGreat
set_option maxRecDepth 100000
open Go.RowKit
set_option linter.unusedVariables false
def NormPost (c : Nat) (q : Int) (w : World) (e : Ending) (w' : World) : Prop := (∃ (d : Nat) (p k : Int), 4503599627370496 ≤ d ∧ d < 9007199254740992 ∧ -1074 ≤ p ∧ p ≤ 971 ∧ SameD d (p + k) c q ∧ -52 ≤ k ∧ k ≤ 0 ∧ e = .returned (.tuple #[.float .f64 (rungOf d p), .int .i64 k])) ∧ w = w'
theorem norm_low {c : Nat} (h0 : c ≠ 0) (h1 : c < 4503599627370496) : ∃ d p, 4503599627370496 ≤ d ∧ d < 9007199254740992 ∧ -1074 ≤ p ∧ p ≤ 971 ∧ SameD d (p + -52) c (-1074) ∧ floatBits .mul .f64 (rungOf c (-1074)) 4841369599423283200 = some (rungOf d p) := by
  obtain ⟨d, p, k1, k2, k3⟩ := canon_ex _ c (-1022) (Nat.le_refl _) (by omega) (by omega)
  have hd : 4503599627370496 ≤ d := by
    obtain ⟨a, b, h | h⟩ := k2
    · exact h
    · subst h
      obtain ⟨k, ⟨g1, g2⟩ | ⟨g1, g2⟩⟩ := k1
      · obtain rfl : k = 52 := by omega
        omega
      · omega
  have hc : Canon c (-1074) := ⟨by omega, by omega, .inr rfl⟩
  have h52 : FV false 4841369599423283200 1 52 := ⟨4503599627370496, 0, ⟨52, .inl ⟨by decide, by decide⟩⟩, ⟨by decide, by decide, .inl (by decide)⟩, by decide, by decide⟩
  refine ⟨d, p, hd, k2.1, k2.2.1, by omega, ?_, fv_mul (fvc hc (by omega)) h52 ?_⟩
  · have := (k1.add (-52)).symm
    exact this
  · rw [Nat.mul_one]
    exact (fvc k2 (by omega)).same k1
/-- What is known of a finite number's bits. -/
theorem fin_tests {c : Nat} {q : Int} (hc : Canon c q) (hq : q ≤ 971) (h0 : c ≠ 0) : isNaNB (rungOf c q) = false ∧ isInfB (rungOf c q) = false ∧ isZeroB (rungOf c q) = false ∧ kindI (rungOf c q) = 1 := by
  have hr := rung_lt hc hq
  have hp : 0 < rungOf c q := by unfold rungOf; omega
  have h1 : isNaNB (rungOf c q) = false := by unfold isNaNB; simp; omega
  have h2 : isInfB (rungOf c q) = false := by unfold isInfB; simp; omega
  have h3 : isZeroB (rungOf c q) = false := by unfold isZeroB; simp; omega
  exact ⟨h1, h2, h3, by unfold kindI; rw [h1, h2, h3]; rfl⟩
theorem ret_fi {a b : Nat} {i j : Int} (h : a = b) (h2 : i = j) : Ending.returned (.tuple #[.float .f64 a, .int .i64 i]) = .returned (.tuple #[.float .f64 b, .int .i64 j]) := by rw [h, h2]
def FrexpPost (c : Nat) (q : Int) (w : World) (e : Ending) (w' : World) : Prop := (∃ (d : Nat) (k : Int), 4503599627370496 ≤ d ∧ d < 9007199254740992 ∧ SameD d (k - 53) c q ∧ -1200 ≤ k ∧ k ≤ 1100 ∧ e = .returned (.tuple #[.float .f64 (rungOf d (-53)), .int .i64 k])) ∧ w = w'
theorem frexp_bits {d : Nat} {p : Int} (h1 : 4503599627370496 ≤ d) (h2 : d < 9007199254740992) (h3 : -1074 ≤ p) (h4 : p ≤ 971) :
    (rungOf d p : Int) / 4503599627370496 = p + 1075 ∧ (rungOf d p : Int) % 4503599627370496 = d - 4503599627370496 ∧ (rungOf d p : Int) < 9223372036854775808 := by
  unfold rungOf; omega
theorem fshr_split {c d : Nat} {q k : Int} (h1 : 4503599627370496 ≤ d) (h2 : d < 9007199254740992) (hs : SameD d (k - 53) c q) : Lib.ctz 64 d < 64 ∧ IsSplit c q ((d : Int) / 2 ^ Lib.ctz 64 d) (k - 53 + Lib.ctz 64 d) := by
  obtain ⟨m, hm, hlt⟩ := Lib.ctzFrom_spec 64 d (by omega) (by omega)
  have hc : Lib.ctz 64 d = Lib.ctzFrom 64 d := by unfold Lib.ctz; rw [if_neg (by omega)]
  rw [hc]
  generalize Lib.ctzFrom 64 d = t at *
  have hp := n_pow_pos t
  have hq : d / 2 ^ t = 2 * m + 1 := by rw [hm]; exact Nat.mul_div_cancel_left _ hp
  have hi : (d : Int) / 2 ^ t = ((2 * m + 1 : Nat) : Int) := by
    have e : ((2 : Int) ^ t) = ((2 ^ t : Nat) : Int) := by simp
    rw [e, ← Int.natCast_ediv, hq]
  have hle : 2 * m + 1 ≤ d := by rw [hm]; exact Nat.le_mul_of_pos_left _ hp
  refine ⟨hlt, ?_⟩
  rw [hi]
  refine ⟨by omega, by omega, SameD.trans ⟨t, .inl ⟨by omega, ?_⟩⟩ hs, by omega⟩
  rw [Int.toNat_natCast, Nat.mul_comm]; exact hm
def PSplitPost (x c : Nat) (q : Int) (w : World) (e : Ending) (w' : World) : Prop := (∃ m k : Int, IsSplit c q m k ∧ e = .returned (.tuple #[.bool (negB x), .int .u64 m, .int .i64 k])) ∧ Drawn w w'
theorem rsplit_other (x : Nat) (w : World) (hx : W64 x) (hk : kindI x ≠ 1) :
    Calls Tryz.prog 112 #[.float .f64 x] w fun e w' => e = .returned (.tuple #[.bool (belowB x), .int .u64 0, .int .i64 0]) ∧ Drawn w w' := by
  have hA := Lib.hid (fun w => rkind_any x w hx)
  have hS := Lib.hid (fun w => rbelow_any x w hx)
  have k1 : (kindI x != 1) = true := by simpa using hk
  generalize belowB x = b at *
  generalize kindI x = K at *
  clear hk
  go_enter Tryz.func112, Tryz.ntmps112
  go_wp2_with fail
  refine (hA.out _).mono ?_; rintro e w1 ⟨rfl, hd⟩
  go_wp2_with fail
  refine (hS.out _).mono ?_; rintro e w2 ⟨rfl, rfl⟩
  go_wp2_with fail
  go_ret3
  exact ⟨rfl, hd⟩
/-- The float behind. -/
def upK (x : Nat) : Int := (keyI x + 1) % 18446744073709551616
def upN (x : Nat) : Nat := if isNaNB (fromN (upK x)) then 9221120237041090561 else fromN (upK x)
set_option maxRecDepth 100000
open Go.RowKit
set_option linter.unusedVariables false
theorem ldexp_exp {c d : Nat} {q p k k0 : Int} (hd : 4503599627370496 ≤ d) (hd2 : d < 9007199254740992) (hc0 : c ≠ 0) (hs : SameD d (p + k0) c q) : k + k0 + p + 52 = q + k + c.log2 := by
  have h1 := hs.log2 hc0
  have h2 := log2_le hd2
  have h3 : ¬ d.log2 < 52 := by rw [Nat.log2_lt (by omega)]; omega
  omega
theorem FV.expo {R c : Nat} {q : Int} (h : FV false R c q) (h0 : c ≠ 0) : -1074 ≤ q + c.log2 ∧ q + c.log2 ≤ 1023 := by
  obtain ⟨d, p, h1, h2, h3, -⟩ := h
  have hd : d ≠ 0 := fun e => h0 (h1.zero.2 e)
  have h4 := h1.log2 hd
  have h5 := log2_le h2.1
  have := h2.2.1
  omega
end Go.Proofs.YtdnbjaeeebodkaaGreat
