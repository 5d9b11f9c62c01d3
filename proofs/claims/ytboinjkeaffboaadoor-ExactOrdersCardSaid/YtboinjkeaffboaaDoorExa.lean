/- Plain facts of exact sums: quotients by a scaled divisor, the units of a float, states of a sum. -/
import Derived.Test.YtboinjkeaffboaaDoorRatz
namespace Go.Proofs.YtboinjkeaffboaaDoor
set_option maxRecDepth 100000
open Go.RowKit
set_option linter.unusedVariables false
theorem uQ_congr {p q p' q' : Nat} {e e' : Int} (h : ∀ mid : Int, -1074 ≤ mid → ltQ p q e (mid + 53) = ltQ p' q' e' (mid + 53)) : uQ p q e = uQ p' q' e' := by
  obtain ⟨a1, a2, a3⟩ := uQ_facts p q e
  obtain ⟨b1, b2, b3⟩ := uQ_facts p' q' e'
  generalize uQ p q e = u at *
  generalize uQ p' q' e' = v at *
  rcases Int.lt_trichotomy u v with c | c | c
  · have k1 := a3 u a1 (by omega)
    have k2 := b3 u a1 (by omega)
    have k3 := h u a1
    cases hh : ltQ p q e (u + 53) with
    | true => have := k2.1 (by rw [← k3, hh]); omega
    | false => have := k1.2 hh; omega
  · exact c
  · have k1 := a3 v b1 (by omega)
    have k2 := b3 v b1 (by omega)
    have k3 := h v b1
    cases hh : ltQ p q e (v + 53) with
    | true => have := k1.1 hh; omega
    | false => have := k2.2 (by rw [← k3, hh]); omega
theorem ltQ_scale {c p q : Nat} {e k : Int} (hc : 0 < c) : ltQ (c * p) (c * q) e k = ltQ p q e k := by
  unfold ltQ
  by_cases h : e ≤ k
  · rw [if_pos h, if_pos h, Nat.mul_assoc]
    exact decide_eq_decide.2 (Nat.mul_lt_mul_left hc)
  · rw [if_neg h, if_neg h, Nat.mul_assoc]
    exact decide_eq_decide.2 (Nat.mul_lt_mul_left hc)
/-- A quotient whose two sides are multiplied alike has the same nearest float. -/
theorem nearQ_scale {c p q : Nat} {e : Int} (hc : 0 < c) : nearQ (c * p) (c * q) e = nearQ p q e := by
  have hu : uQ (c * p) (c * q) e = uQ p q e := uQ_congr fun mid _ => ltQ_scale hc
  unfold nearQ rQ
  rw [hu]
  generalize uQ p q e = u
  have h1 : rndQ (c * p * 2 ^ (e - u).toNat) (c * q) = rndQ (p * 2 ^ (e - u).toNat) q := by rw [Nat.mul_assoc]; exact scale_rnd c hc
  have h2 : rndQ (c * p) (c * q * 2 ^ (u - e).toNat) = rndQ p (q * 2 ^ (u - e).toNat) := by rw [Nat.mul_assoc]; exact scale_rnd c hc
  rw [h1, h2]
/-- A divisor that bears the unit: the same as the unit ahead. -/
theorem nearQ_unit {p q K : Nat} (hK : 1074 ≤ K) : nearQ p (q * 2 ^ K) 0 = nearQ p q (-(K : Int)) := by
  have hu : uQ p (q * 2 ^ K) 0 = uQ p q (-(K : Int)) := uQ_congr fun mid hm => by
    unfold ltQ
    rw [if_pos (show -(K : Int) ≤ mid + 53 by omega)]
    by_cases h : (0 : Int) ≤ mid + 53
    · rw [if_pos h, Nat.mul_assoc, ← Nat.pow_add, show K + (mid + 53 - 0).toNat = (mid + 53 - -(K : Int)).toNat by omega]
    · rw [if_neg h]
      have e1 : (2 : Nat) ^ K = 2 ^ (mid + 53 - -(K : Int)).toNat * 2 ^ (0 - (mid + 53)).toNat := by rw [← Nat.pow_add]; congr 1; omega
      rw [e1, ← Nat.mul_assoc]
      exact decide_eq_decide.2 (Nat.mul_lt_mul_right (Nat.two_pow_pos _))
  obtain ⟨u1, -, -⟩ := uQ_facts p q (-(K : Int))
  unfold nearQ rQ
  rw [hu]
  generalize uQ p q (-(K : Int)) = u at *
  have h1 : (if u ≤ 0 then rndQ (p * 2 ^ (0 - u).toNat) (q * 2 ^ K) else rndQ p (q * 2 ^ K * 2 ^ (u - 0).toNat)) = rndQ p (q * 2 ^ (u - -(K : Int)).toNat) := by
    by_cases h : u ≤ 0
    · rw [if_pos h]
      have e1 : (2 : Nat) ^ K = 2 ^ (u - -(K : Int)).toNat * 2 ^ (0 - u).toNat := by rw [← Nat.pow_add]; congr 1; omega
      rw [e1, ← Nat.mul_assoc, Nat.mul_comm p, Nat.mul_comm (q * _)]
      exact scale_rnd _ (Nat.two_pow_pos _)
    · rw [if_neg h, Nat.mul_assoc, ← Nat.pow_add, show K + (u - 0).toNat = (u - -(K : Int)).toNat by omega]
  have h2 : (if u ≤ -(K : Int) then rndQ (p * 2 ^ (-(K : Int) - u).toNat) q else rndQ p (q * 2 ^ (u - -(K : Int)).toNat)) = rndQ p (q * 2 ^ (u - -(K : Int)).toNat) := by
    by_cases h : u ≤ -(K : Int)
    · rw [if_pos h, show (-(K : Int) - u).toNat = 0 by omega, show (u - -(K : Int)).toNat = 0 by omega, Nat.pow_zero, Nat.mul_one, Nat.mul_one]
    · rw [if_neg h]
  rw [h1, h2]
theorem rndQ_one (P : Nat) : rndQ P 1 = P := by unfold rndQ; rw [Nat.mod_one, Nat.div_one, if_neg (by omega)]
theorem rndQ_two (P n : Nat) : rndQ P (2 ^ n) = rndN P n := rfl
/-- A number as such. -/
theorem nearQ_one {z : Nat} (h0 : z ≠ 0) : nearQ z 1 (-1074) = nearW z (-1074) := by
  have hlt : ∀ mid : Int, -1074 ≤ mid → (ltQ z 1 (-1074) (mid + 53) = true ↔ (bitsZ (z : Int) : Int) - 1074 - 53 ≤ mid) := fun mid hm => by
    have h1 := lt_two_iff h0 (mid + 53 - -1074).toNat
    unfold ltQ
    rw [if_pos (by omega), decide_eq_true_eq, Nat.one_mul, h1]
    omega
  obtain ⟨u1, u2, u3⟩ := uQ_facts z 1 (-1074)
  have hU : uQ z 1 (-1074) = min (max ((bitsZ (z : Int) : Int) - 1074 - 53) (-1074)) 1024 := by
    generalize bitsZ (z : Int) = L at *
    have yes : ∀ mid : Int, -1074 ≤ mid → mid + 1 ≤ 1024 → (L : Int) - 1074 - 53 ≤ mid → uQ z 1 (-1074) ≤ mid := fun mid k1 k2 k3 => (u3 mid k1 k2).1 ((hlt mid k1).2 k3)
    have no : ∀ mid : Int, -1074 ≤ mid → mid + 1 ≤ 1024 → ¬ (L : Int) - 1074 - 53 ≤ mid → mid + 1 ≤ uQ z 1 (-1074) := fun mid k1 k2 k3 => (u3 mid k1 k2).2 (Bool.eq_false_iff.2 fun hh => k3 ((hlt mid k1).1 hh))
    generalize uQ z 1 (-1074) = u at *
    by_cases c1 : (L : Int) - 1074 - 53 ≤ -1074
    · have := yes (-1074) (by omega) (by omega) c1
      omega
    · by_cases c2 : (L : Int) - 1074 - 53 ≤ 1023
      · have k1 := yes ((L : Int) - 1074 - 53) (by omega) (by omega) (by omega)
        have k2 := no ((L : Int) - 1074 - 53 - 1) (by omega) (by omega) (by omega)
        omega
      · have k2 := no 1023 (by omega) (by omega) (by omega)
        omega
  rw [nearW_one (-1074) h0]
  unfold nearQ rQ rN rU
  rw [hU]
  clear hU u1 u2 u3 hlt
  generalize bitsZ (z : Int) = L at *
  by_cases c : 971 < (L : Int) + -1074 - 53
  · rw [if_pos c, if_pos (by omega)]
  · rw [if_neg c, if_neg (by omega), show min (max ((L : Int) - 1074 - 53) (-1074)) 1024 = max ((L : Int) + -1074 - 53) (-1074) by omega, rndQ_one, Nat.one_mul, rndQ_two]
/-- The units of a float's magnitude. -/
def unitsN (r : Nat) : Nat := if r / 4503599627370496 = 0 then r else (r % 4503599627370496 + 4503599627370496) * 2 ^ (r / 4503599627370496 - 1)
theorem units_canon {c : Nat} {q : Int} (hc : Canon c q) : unitsN (rungOf c q) = c * 2 ^ (q + 1074).toNat := by
  obtain ⟨h1, h2, h3⟩ := hc
  unfold unitsN rungOf
  generalize hj : (q + 1074).toNat = j
  rcases h3 with h3 | h3
  · have e1 : (j * 4503599627370496 + c) / 4503599627370496 = j + 1 := by omega
    have e2 : (j * 4503599627370496 + c) % 4503599627370496 + 4503599627370496 = c := by omega
    rw [e1, e2, if_neg (by omega), Nat.add_sub_cancel]
  · obtain rfl : j = 0 := by omega
    by_cases h4 : c < 4503599627370496
    · rw [if_pos (by omega)]; simp
    · have e1 : (0 * 4503599627370496 + c) / 4503599627370496 = 1 := by omega
      have e2 : (0 * 4503599627370496 + c) % 4503599627370496 + 4503599627370496 = c := by omega
      rw [e1, e2, if_neg (by omega)]
theorem units_zero : unitsN 0 = 0 := by decide
/-- A finite float's magnitude is the nearest float to its units. -/
theorem near_float {r : Nat} (h0 : r ≠ 0) (hr : r < 9218868437227405312) : nearW (unitsN r) (-1074) = r ∧ unitsN r ≠ 0 := by
  obtain ⟨c, q, hc, hq, hc0, rfl⟩ := canon_of_fin (by omega) hr
  rw [units_canon hc]
  have hz : c * 2 ^ (q + 1074).toNat ≠ 0 := Nat.mul_ne_zero hc0 (Nat.ne_of_gt (Nat.two_pow_pos _))
  refine ⟨?_, hz⟩
  have hF := fvc hc hq
  obtain ⟨h1, h2, h3⟩ := hc
  have hS : SameD (c * 2 ^ (q + 1074).toNat) (-1074) c q := ⟨(q + 1074).toNat, .inr ⟨by omega, rfl⟩⟩
  rw [nearW_one (-1074) hz]
  have hN := FV.nearest hF (SameD.refl c q)
  generalize hj : (q + 1074).toNat = j at *
  have hU : max ((bitsZ ((c * 2 ^ j : Nat) : Int) : Int) + -1074 - 53) (-1074) = q := by
    have hb : bitsZ ((c * 2 ^ j : Nat) : Int) = bitsZ (c : Int) + j := by
      unfold bitsZ
      rw [if_neg (by omega), if_neg (by omega), Int.toNat_natCast, Int.toNat_natCast, log2_mul_pow hc0]; omega
    have hc53 : bitsZ (c : Int) ≤ 53 := bits_upto hc0 (by have : (2 : Nat) ^ 53 = 9007199254740992 := by decide
                                                          omega)
    rw [hb]
    rcases h3 with h3 | h3
    · have : ¬ bitsZ (c : Int) ≤ 52 := fun hh => by
        have := lt_bits hh
        have h52 : (2 : Nat) ^ 52 = 4503599627370496 := by decide
        omega
      omega
    · omega
  have hR : rN (c * 2 ^ j) (bitsZ ((c * 2 ^ j : Nat) : Int)) (-1074) = c := by
    unfold rN rU
    rw [hU]
    by_cases hq' : q ≤ -1074
    · obtain rfl : j = 0 := by omega
      rw [if_pos hq', show (-1074 - q).toNat = 0 by omega]; simp
    · rw [if_neg hq', show (q - -1074).toNat = j by omega]
      unfold rndN
      rw [Nat.mul_mod_left, Nat.mul_div_cancel _ (Nat.two_pow_pos j), if_neg (by have := Nat.two_pow_pos j; omega)]
  have hU' := hU
  rw [hR]
  unfold rU
  rw [hU, if_neg (by omega)]
  exact hN
theorem units_lt {r K : Nat} (hr : r < 9218868437227405312) (hK : 2098 ≤ K) : unitsN r < 2 ^ K := by
  by_cases h0 : r = 0
  · subst h0; rw [units_zero]; exact Nat.two_pow_pos _
  obtain ⟨c, q, hc, hq, hc0, rfl⟩ := canon_of_fin (by omega) hr
  rw [units_canon hc]
  have h1 : c < 2 ^ 53 := by have : (2 : Nat) ^ 53 = 9007199254740992 := by decide
                             have := hc.1; omega
  have h2 : c * 2 ^ (q + 1074).toNat < 2 ^ 53 * 2 ^ (q + 1074).toNat := Nat.mul_lt_mul_of_pos_right h1 (Nat.two_pow_pos _)
  rw [← Nat.pow_add] at h2
  exact Nat.lt_of_lt_of_le h2 (Nat.pow_le_pow_right (by decide) (by omega))
/-- The flag and the signed units of a float. -/
def flagN (x : Nat) : Nat := if isNaNB x then 1 else if isInfB x then (if negB x then 4 else 2) else if isZeroB x then (if negB x then 8 else 16) else 16
def unitsI (x : Nat) : Int := if kindI x = 1 then signed (negB x) (unitsN (x % 9223372036854775808) : Nat) else 0
/-- At most n floats' worth. -/
def Fewer (n : Nat) (t : Int) : Prop := ∀ K : Nat, K = 2098 → t.natAbs ≤ n * 2 ^ K
theorem Fewer.zero : Fewer 0 0 := fun K _ => by simp
theorem Fewer.add {m n : Nat} {s t : Int} (h : Fewer m s) (k : Fewer n t) : Fewer (m + n) (s + t) := fun K hK => by
  have h1 := h K hK
  have h2 := k K hK
  rw [Nat.add_mul]
  have := Int.natAbs_add_le s t
  omega
theorem signed_abs (b : Bool) (z : Nat) : (signed b (z : Int)).natAbs = z := by cases b <;> simp [signed]
theorem fewer_one (x : Nat) (hx : W64 x) : Fewer 1 (unitsI x) := fun K hK => by
  unfold unitsI
  by_cases h : kindI x = 1
  · obtain ⟨-, -, -, -, h5⟩ := kind_one hx h
    rw [if_pos h, signed_abs, Nat.one_mul]
    exact Nat.le_of_lt (units_lt h5 (by omega))
  · rw [if_neg h]; simp
def Fits (t : Int) : Prop := bitsZ (t.natAbs : Int) ≤ 2240
theorem Fewer.fits {n : Nat} {t : Int} (h : Fewer n t) (hn : n ≤ 1000) : Fits t := by
  unfold Fits
  by_cases h0 : t.natAbs = 0
  · rw [h0]; exact Nat.zero_le _
  · obtain ⟨K, hK⟩ : ∃ K : Nat, K = 2098 := ⟨_, rfl⟩
    have h1 := h K hK
    have h10 : (2 : Nat) ^ 10 = 1024 := by decide
    have h2 : n * 2 ^ K < 2 ^ 10 * 2 ^ K := Nat.mul_lt_mul_of_pos_right (by omega) (Nat.two_pow_pos _)
    rw [← Nat.pow_add] at h2
    have h3 := bits_upto h0 (Nat.lt_of_le_of_lt h1 h2)
    omega
/-- The state of a sum: its flags f and its total t. -/
def Good (f : Nat) (t : Int) : Prop := f < 32 ∧ (t ≠ 0 → f.testBit 4 = true) ∧ Fits t
theorem good_zero : Good 0 0 := ⟨by decide, fun h => absurd rfl h, by unfold Fits; decide⟩
theorem or_lt {f g : Nat} (hf : f < 32) (hg : g < 32) : f ||| g < 32 := Nat.or_lt_two_pow (n := 5) hf hg
theorem Good.join {f g : Nat} {s t : Int} (h : Good f s) (k : Good g t) (hr : Fits (s + t)) : Good (f ||| g) (s + t) := by
  refine ⟨or_lt h.1 k.1, fun hh => ?_, hr⟩
  rw [Nat.testBit_or]
  by_cases hs : s = 0
  · rw [k.2.1 (by omega)]; simp
  · rw [h.2.1 hs]; simp
theorem flag_cases (x : Nat) : flagN x = 1 ∨ flagN x = 2 ∨ flagN x = 4 ∨ flagN x = 8 ∨ flagN x = 16 := by
  unfold flagN; split
  · exact .inl rfl
  · split
    · split
      · exact .inr (.inr (.inl rfl))
      · exact .inr (.inl rfl)
    · split
      · split
        · exact .inr (.inr (.inr (.inl rfl)))
        · exact .inr (.inr (.inr (.inr rfl)))
      · exact .inr (.inr (.inr (.inr rfl)))
theorem flag_one {x : Nat} (hx : W64 x) (h : kindI x = 1) : flagN x = 16 := by
  obtain ⟨h1, h2, h3, -, -⟩ := kind_one hx h
  unfold flagN; rw [h1, h2, h3]; rfl
theorem good_one (x : Nat) (hx : W64 x) : Good (flagN x) (unitsI x) := by
  refine ⟨by rcases flag_cases x with h | h | h | h | h <;> omega, fun hh => ?_, (fewer_one x hx).fits (by decide)⟩
  by_cases h : kindI x = 1
  · rw [flag_one hx h]; decide
  · exact absurd (by unfold unitsI; rw [if_neg h]) hh
end Go.Proofs.YtboinjkeaffboaaDoor
