/- The nearest float to a whole number times a power of two: what the program returns. -/
import Derived.Test.YtdnbjaeeebodkaaGreatFlok
import Derived.Test.YtdnbjaeeebodkaaGreatNato
import Derived.Test.YtdnbjaeeebodkaaGreatNatr
import Derived.Test.YtdnbjaeeebodkaaGreatAwake2
namespace Go.Proofs.YtdnbjaeeebodkaaGreat
set_option maxRecDepth 100000
open Go.RowKit
set_option linter.unusedVariables false
/-- z / 2^n to the nearest whole number, and between two the even one. -/
def rndN (z n : Nat) : Nat := if 2 ^ n < 2 * (z % 2 ^ n) ∨ (2 ^ n = 2 * (z % 2 ^ n) ∧ z / 2 ^ n % 2 = 1) then z / 2 ^ n + 1 else z / 2 ^ n
theorem rnd_parts (z N T : Nat) (hT : T = z / 2 ^ N) : z / 2 ^ (N + 1) = T / 2 ∧ z % 2 ^ (N + 1) = T % 2 * 2 ^ N + z % 2 ^ N := by
  subst hT
  have e : 2 ^ (N + 1) = 2 ^ N * 2 := Nat.pow_succ ..
  rw [e, ← Nat.div_div_eq_div_mul, Nat.mod_mul]
  refine ⟨rfl, ?_⟩
  rw [Nat.mul_comm, Nat.add_comm]
theorem halved_mod {z t N : Nat} (hz : z ≠ 0) (h : Halved (z : Int) t) : t < N ↔ z % 2 ^ N ≠ 0 := by
  obtain ⟨m, hm⟩ := h.resolve_left (by omega)
  have hm' : z = 2 ^ t * (2 * m + 1) := by
    have e : ((2 : Int) ^ t) = ((2 ^ t : Nat) : Int) := by simp
    rw [e] at hm
    have : ((z : Nat) : Int) = ((2 ^ t * (2 * m + 1) : Nat) : Int) := by rw [hm]; simp
    omega
  constructor
  · intro h1 h2
    obtain ⟨k, rfl⟩ := Nat.exists_eq_add_of_le (Nat.succ_le_of_lt h1)
    have h3 : 2 ^ (t + 1 + k) ∣ z := Nat.dvd_of_mod_eq_zero h2
    obtain ⟨x, hx⟩ := h3
    rw [hm', Nat.pow_add, Nat.pow_add, Nat.mul_assoc, Nat.mul_assoc] at hx
    have h4 := Nat.eq_of_mul_eq_mul_left (n_pow_pos t) hx
    rw [Nat.pow_one] at h4; omega
  · intro h1
    by_cases h2 : t < N
    · exact h2
    · exfalso
      obtain ⟨k, rfl⟩ := Nat.exists_eq_add_of_le (show N ≤ t by omega)
      refine h1 (Nat.mod_eq_zero_of_dvd ⟨2 ^ k * (2 * m + 1), ?_⟩)
      rw [hm', Nat.pow_add, Nat.mul_assoc]
theorem rnd_val {z N T t : Nat} (hT : T = z / 2 ^ N) (hz : z ≠ 0) (h : Halved (z : Int) t) : rndN z (N + 1) = if T % 2 = 1 ∧ (t < N ∨ T / 2 % 2 = 1) then T / 2 + 1 else T / 2 := by
  obtain ⟨h1, h2⟩ := rnd_parts z N T hT
  have h3 := halved_mod (N := N) hz h
  have h4 := Nat.mod_lt z (n_pow_pos N)
  have e : 2 ^ (N + 1) = 2 ^ N * 2 := Nat.pow_succ ..
  unfold rndN
  rw [h1, h2, e]
  have hp := n_pow_pos N
  generalize 2 ^ N = P at *
  generalize z % P = s at *
  have hT2 : T % 2 = 0 ∨ T % 2 = 1 := by omega
  rcases hT2 with k | k
  · have e2 : (if (0 = 1 ∧ (t < N ∨ T / 2 % 2 = 1)) then T / 2 + 1 else T / 2) = T / 2 := if_neg (by omega)
    rw [k, e2, if_neg (by omega)]
  · rw [k]
    by_cases c : t < N ∨ T / 2 % 2 = 1
    · have e2 : (if (1 = 1 ∧ (t < N ∨ T / 2 % 2 = 1)) then T / 2 + 1 else T / 2) = T / 2 + 1 := if_pos ⟨rfl, c⟩
      rw [e2, if_pos]
      rcases c with c | c
      · have := h3.1 c; omega
      · by_cases s0 : s = 0
        · subst s0; omega
        · omega
    · have e2 : (if (1 = 1 ∧ (t < N ∨ T / 2 % 2 = 1)) then T / 2 + 1 else T / 2) = T / 2 := if_neg (by omega)
      rw [e2, if_neg]
      have : ¬ s ≠ 0 := fun q => c (.inl (h3.2 q))
      omega
theorem rnd_le (z n B : Nat) (h : z / 2 ^ n < B) : rndN z n ≤ B := by unfold rndN; split <;> omega
set_option maxRecDepth 100000
open Go.RowKit
set_option linter.unusedVariables false
def rU (L : Nat) (e : Int) : Int := max ((L : Int) + e - 53) (-1074)
def rN (z L : Nat) (e : Int) : Nat := if rU L e ≤ e then z * 2 ^ (e - rU L e).toNat else rndN z (rU L e - e).toNat
/-- The nearest float to z 2^e. -/
def nearW (z : Nat) (e : Int) : Nat := if z = 0 ∨ e + bitsZ z < -1074 then 0 else if 1024 < e + bitsZ z then 9218868437227405312 else Ieee.double.nearest false (rN z (bitsZ z) e) (rU (bitsZ z) e)
theorem bits_lt_nat {z : Nat} (h0 : z ≠ 0) : z < 2 ^ bitsZ z := by
  have := bits_lt (z := (z : Int)) (by omega)
  have e : ((2 ^ bitsZ z : Nat) : Int) = (2 : Int) ^ bitsZ z := by simp
  omega
theorem near_facts {z L : Nat} {e : Int} (hL : z < 2 ^ L) (h1 : -1074 ≤ e + L) (h2 : e + L ≤ 1024) :
    rN z L e ≤ 9007199254740992 ∧ -1074 ≤ rU L e ∧ rU L e ≤ 971 ∧ (rU L e ≤ e → rN z L e = z * 2 ^ (e - rU L e).toNat ∧ z < 9007199254740992) ∧ (e < rU L e → rN z L e = rndN z (rU L e - e).toNat) := by
  have hu : rU L e = max ((L : Int) + e - 53) (-1074) := rfl
  unfold rN
  generalize rU L e = u at *
  have h53 : (2 : Nat) ^ 53 = 9007199254740992 := by decide
  by_cases h : u ≤ e
  · rw [if_pos h]
    have hz : z * 2 ^ (e - u).toNat < 2 ^ 53 := by
      have h3 : z * 2 ^ (e - u).toNat < 2 ^ L * 2 ^ (e - u).toNat := Nat.mul_lt_mul_of_pos_right hL (n_pow_pos _)
      rw [← Nat.pow_add] at h3
      exact Nat.lt_of_lt_of_le h3 (Nat.pow_le_pow_right (by decide) (by omega))
    have hz2 : z < 2 ^ 53 := Nat.lt_of_lt_of_le hL (Nat.pow_le_pow_right (by decide) (by omega))
    exact ⟨by omega, by omega, by omega, fun _ => ⟨rfl, by omega⟩, fun q => by omega⟩
  · rw [if_neg h]
    have hz : z / 2 ^ (u - e).toNat < 2 ^ 53 := by
      rw [Nat.div_lt_iff_lt_mul (n_pow_pos _), ← Nat.pow_add]
      exact Nat.lt_of_lt_of_le hL (Nat.pow_le_pow_right (by decide) (by omega))
    have := rnd_le z _ _ hz
    exact ⟨by omega, by omega, by omega, fun q => absurd q h, fun _ => rfl⟩
/-- What a whole number up to 2^53 times a power of two is, as a float. -/
def IsFl (r : Nat) (k : Int) (R : Nat) : Prop := (r = 0 ∧ R = 0) ∨ (r ≠ 0 ∧ FV false R r k) ∨ (r = 9007199254740992 ∧ k = 971 ∧ R = 9218868437227405312)
theorem isFl_near {r : Nat} {u : Int} (hr : r ≤ 9007199254740992) (h1 : -1074 ≤ u) (h2 : u ≤ 971) : IsFl r u (Ieee.double.nearest false r u) := by
  by_cases h0 : r = 0
  · subst h0; exact .inl ⟨rfl, nearest_zero false u⟩
  · by_cases h53 : r = 9007199254740992
    · subst h53
      have hs : SameD 9007199254740992 u 4503599627370496 (u + 1) := ⟨1, .inr ⟨rfl, rfl⟩⟩
      have hc : Canon 4503599627370496 (u + 1) := ⟨by decide, by omega, .inl (by decide)⟩
      by_cases hu : u = 971
      · subst hu
        refine .inr (.inr ⟨rfl, rfl, ?_⟩)
        rw [nearest_canon false hs hc (by decide)]; decide
      · have hf := (fvc hc (by omega)).same hs
        refine .inr (.inl ⟨by decide, ?_⟩)
        rw [hf.nearest (SameD.refl _ _)]; exact hf
    · obtain ⟨R, hR⟩ := FV.make false (c := r) (q := u) (by omega) h1 h2
      refine .inr (.inl ⟨h0, ?_⟩)
      rw [hR.nearest (SameD.refl _ _)]; exact hR
theorem float_upto {r : Nat} (h0 : r ≠ 0) (hr : r ≤ 9007199254740992) : ∃ c q, Canon c q ∧ q ≤ 1 ∧ c ≠ 0 ∧ SameD r 0 c q ∧ floatOfInt .f64 (r : Int) = rungOf c q := by
  by_cases h53 : r = 9007199254740992
  · subst h53
    have hs : SameD 9007199254740992 0 4503599627370496 1 := ⟨1, .inr ⟨rfl, rfl⟩⟩
    have hc : Canon 4503599627370496 1 := ⟨by decide, by decide, .inl (by decide)⟩
    exact ⟨4503599627370496, 1, hc, by omega, by decide, hs, fv_int ((fvc hc (by omega)).same hs)⟩
  · obtain ⟨d, p, h1, h2, h3, h4⟩ := float_of (n := r) (by omega)
    exact ⟨d, p, h1, by omega, fun e => h0 (h3.zero.2 e), h3, h4⟩
theorem bits_len {a : List Int} {z : Nat} (hd : Wd a) (hz : wv a = (z : Int)) (la : a.length ≤ 1000) : bitsZ z ≤ 32000 ∧ (z ≠ 0 → 0 < bitsZ z) ∧ (z = 0 → bitsZ z = 0) := by
  refine ⟨?_, fun h => bitsZ_pos (by omega), fun h => by subst h; rfl⟩
  by_cases h : z = 0
  · subst h; decide
  · have := bits_words hd (by omega)
    rw [hz] at this; omega
end Go.Proofs.YtdnbjaeeebodkaaGreat
