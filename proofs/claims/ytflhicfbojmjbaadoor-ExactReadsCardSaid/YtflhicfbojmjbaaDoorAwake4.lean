/- The examples of the chapter on ratio. -/
import Derived.Test.YtflhicfbojmjbaaDoorRatm
import Derived.Test.YtflhicfbojmjbaaDoorAwake2
namespace Go.Proofs.YtflhicfbojmjbaaDoor
set_option maxRecDepth 100000
open Go.RowKit
set_option linter.unusedVariables false
theorem same_val {c d : Nat} {q p b : Int} (h : SameD c q d p) (hq : b ≤ q) (hp : b ≤ p) : c * 2 ^ (q - b).toNat = d * 2 ^ (p - b).toNat := by
  obtain ⟨k, ⟨h1, h2⟩ | ⟨h1, h2⟩⟩ := h
  · rw [h2, show (q - b).toNat = k + (p - b).toNat by omega, Nat.pow_add, Nat.mul_assoc]
  · rw [h2, show (p - b).toNat = k + (q - b).toNat by omega, Nat.pow_add, Nat.mul_assoc]
theorem FV.mono {R S c d : Nat} {q : Int} (h : FV false R c q) (k : FV false S d q) (hcd : c ≤ d) : R ≤ S := by
  obtain ⟨c1, q1, s1, k1, l1, rfl⟩ := h
  obtain ⟨d1, p1, s2, k2, l2, rfl⟩ := k
  show rungOf c1 q1 ≤ rungOf d1 p1
  apply Nat.le_of_not_lt
  intro hlt
  obtain ⟨b, hb⟩ : ∃ b : Int, b = min (min p1 q1) q := ⟨_, rfl⟩
  obtain ⟨m, hm⟩ : ∃ m : Int, m = min p1 q1 := ⟨_, rfl⟩
  have h1 := (canon_cmp k2 k1 m hm).2 hlt
  have h2 := same_val s1 (b := b) (by omega) (by omega)
  have h3 := same_val s2 (b := b) (by omega) (by omega)
  obtain ⟨t, ht⟩ := Int.eq_ofNat_of_zero_le (a := m - b) (by omega)
  have h4 : d1 * 2 ^ (p1 - b).toNat < c1 * 2 ^ (q1 - b).toNat := by
    rw [show (p1 - b).toNat = (p1 - m).toNat + t by omega, show (q1 - b).toNat = (q1 - m).toNat + t by omega, Nat.pow_add, Nat.pow_add, ← Nat.mul_assoc, ← Nat.mul_assoc]
    exact Nat.mul_lt_mul_of_pos_right h1 (n_pow_pos t)
  rw [← h2, ← h3] at h4
  have := Nat.mul_le_mul_right (2 ^ (q - b).toNat) hcd
  omega
theorem rnd_upto {z B n : Nat} (h : z ≤ B * 2 ^ n) : rndN z n ≤ B := by
  have hp := n_pow_pos n
  have hdm := Nat.div_add_mod z (2 ^ n)
  have h1 : z / 2 ^ n ≤ B := Nat.div_le_of_le_mul (by rw [Nat.mul_comm]; exact h)
  unfold rndN
  by_cases e : z / 2 ^ n = B
  · rw [e, Nat.mul_comm] at hdm
    have h0 : z % 2 ^ n = 0 := by omega
    rw [h0, if_neg (by omega)]; exact h1
  · split <;> omega
theorem rnd_from {z B n : Nat} (h : B * 2 ^ n ≤ z) : B ≤ rndN z n := by
  have h1 : B ≤ z / 2 ^ n := (Nat.le_div_iff_mul_le (n_pow_pos n)).2 h
  unfold rndN
  split <;> omega
/-- The nearest float to z by 2^j, where that is no more than K: in units. -/
theorem near_int {z j K : Nat} (h0 : z ≠ 0) (hK : K < 9007199254740992) (hz : z ≤ K * 2 ^ j) : ∃ (U : Int) (r : Nat), -1074 ≤ U ∧ U ≤ 0 ∧ IsFl r U (nearW z (-(j : Int))) ∧ (∀ B, z ≤ B * 2 ^ j → r ≤ B * 2 ^ (-U).toNat) ∧ (∀ B, B * 2 ^ j ≤ z → B * 2 ^ (-U).toNat ≤ r) := by
  have h53 : (2 : Nat) ^ 53 = 9007199254740992 := by decide
  have hL : bitsZ (z : Int) ≤ 53 + j := by
    refine bits_upto h0 ?_
    rw [Nat.pow_add, h53]
    exact Nat.lt_of_le_of_lt hz (Nat.mul_lt_mul_of_pos_right hK (n_pow_pos j))
  have hlt := bits_lt_nat h0
  have hU1 : -1074 ≤ rU (bitsZ (z : Int)) (-(j : Int)) := by unfold rU; omega
  have hU2 : rU (bitsZ (z : Int)) (-(j : Int)) ≤ 0 := by unfold rU; omega
  refine ⟨rU (bitsZ (z : Int)) (-(j : Int)), rN z (bitsZ (z : Int)) (-(j : Int)), hU1, hU2, ?_, ?_, ?_⟩
  · rw [nearW_one _ h0, if_neg (by omega)]
    refine isFl_near ?_ hU1 (by omega)
    by_cases h : -1074 ≤ -(j : Int) + bitsZ (z : Int)
    · exact (near_facts hlt h (by omega)).1
    · rw [near_low hlt (by omega)]; omega
  · intro B hB
    unfold rN
    generalize rU (bitsZ (z : Int)) (-(j : Int)) = U at *
    by_cases h : U ≤ -(j : Int)
    · rw [if_pos h]
      have := Nat.mul_le_mul_right (2 ^ (-(j : Int) - U).toNat) hB
      rw [Nat.mul_assoc, ← Nat.pow_add, show j + (-(j : Int) - U).toNat = (-U).toNat by omega] at this
      exact this
    · rw [if_neg h]
      apply rnd_upto
      rw [Nat.mul_assoc, ← Nat.pow_add, show (-U).toNat + (U - -(j : Int)).toNat = j by omega]
      exact hB
  · intro B hB
    unfold rN
    generalize rU (bitsZ (z : Int)) (-(j : Int)) = U at *
    by_cases h : U ≤ -(j : Int)
    · rw [if_pos h]
      have := Nat.mul_le_mul_right (2 ^ (-(j : Int) - U).toNat) hB
      rw [Nat.mul_assoc, ← Nat.pow_add, show j + (-(j : Int) - U).toNat = (-U).toNat by omega] at this
      exact this
    · rw [if_neg h]
      apply rnd_from
      rw [Nat.mul_assoc, ← Nat.pow_add, show (-U).toNat + (U - -(j : Int)).toNat = j by omega]
      exact hB
def fI (k : Nat) : Nat := floatOfInt .f64 (k : Int)
theorem fI_fv {k : Nat} (h : k < 9007199254740992) : FV false (fI k) k 0 := by
  obtain ⟨d, p, h1, h2, h3, h4⟩ := float_of h
  unfold fI
  rw [h4]
  exact (fvc h1 (by omega)).same h3
theorem fI_units {k : Nat} (h : k < 9007199254740992) {U : Int} (hU : U ≤ 0) : FV false (fI k) (k * 2 ^ (-U).toNat) U :=
  (fI_fv h).same ⟨(-U).toNat, .inr ⟨by omega, rfl⟩⟩
theorem nearW_zero (e : Int) : nearW 0 e = 0 := by unfold nearW; rw [if_pos (.inl rfl)]
theorem near_le {z j k : Nat} (hk : k < 9007199254740992) (h : z ≤ k * 2 ^ j) : nearW z (-(j : Int)) ≤ fI k := by
  by_cases h0 : z = 0
  · subst h0; rw [nearW_zero]; exact Nat.zero_le _
  · obtain ⟨U, r, u1, u2, u3, u4, u5⟩ := near_int h0 hk h
    rcases u3 with ⟨q1, q2⟩ | ⟨q1, q2⟩ | ⟨q1, q2, q3⟩
    · rw [q2]; exact Nat.zero_le _
    · exact q2.mono (fI_units hk u2) (u4 k h)
    · omega
theorem near_ge {z j k K : Nat} (hK : K < 9007199254740992) (h : k * 2 ^ j ≤ z) (h2 : z ≤ K * 2 ^ j) : fI k ≤ nearW z (-(j : Int)) := by
  have hkK : k ≤ K := Nat.le_of_mul_le_mul_right (Nat.le_trans h h2) (n_pow_pos j)
  by_cases hk0 : k = 0
  · subst hk0
    have : fI 0 = 0 := by decide
    rw [this]; exact Nat.zero_le _
  · have hz0 : z ≠ 0 := by
      have : 0 < k * 2 ^ j := Nat.mul_pos (by omega) (n_pow_pos j)
      omega
    obtain ⟨U, r, u1, u2, u3, u4, u5⟩ := near_int hz0 hK h2
    have hr := u5 k h
    have : 0 < k * 2 ^ (-U).toNat := Nat.mul_pos (by omega) (n_pow_pos _)
    rcases u3 with ⟨q1, q2⟩ | ⟨q1, q2⟩ | ⟨q1, q2, q3⟩
    · omega
    · exact (fI_units (by omega) u2).mono q2 hr
    · omega
theorem nearW_pos {z : Nat} {e : Int} (h0 : z ≠ 0) (hu : -1074 < (bitsZ (z : Int) : Int) + e - 53) : nearW z e ≠ 0 := by
  rw [nearW_one _ h0]
  by_cases h : 971 < (bitsZ (z : Int) : Int) + e - 53
  · rw [if_pos h]; decide
  · rw [if_neg h]
    have hr := near_pos (z := z) (e := e) h0 (by unfold rU; omega)
    have hU : rU (bitsZ (z : Int)) e = (bitsZ (z : Int) : Int) + e - 53 := by unfold rU; omega
    have hlt := bits_lt_nat h0
    have hf := near_facts hlt (e := e) (by omega) (by omega)
    rcases isFl_near hf.1 hf.2.1 hf.2.2.1 with ⟨q1, q2⟩ | ⟨q1, d, p, s1, k1, l1, q2⟩ | ⟨q1, q2, q3⟩
    · exact absurd q1 hr
    · rw [q2]
      intro hz
      have hz' : rungOf d p = 0 := hz
      have : d = 0 := by unfold rungOf at hz'; omega
      exact q1 (s1.zero.2 this)
    · rw [q3]; decide
/-- What a quotient is between. -/
theorem quo_forms {p q : Nat} (hp : p ≠ 0) (hq : q ≠ 0) : ∃ z j : Nat, quoN p q = nearW z (-(j : Int)) ∧ (∀ k, p ≤ k * q → z ≤ k * 2 ^ j) ∧ (∀ k, k * q ≤ p → k * 2 ^ j ≤ z) := by
  obtain ⟨s, hs⟩ : ∃ s : Nat, (53 : Nat) + 1 + (bitsZ (q : Int) : Int) - bitsZ (p : Int) ≤ s := ⟨54 + bitsZ (q : Int), by omega⟩
  have hn := near_quo (s := (s : Int)) (.inl ⟨by omega, by rw [Int.toNat_natCast], rfl⟩) (by omega) (quo_long hp hq hs)
  refine ⟨2 * (p * 2 ^ s / q) + leftB (p * 2 ^ s) q, s + 1, ?_, ?_, ?_⟩
  · unfold quoN
    rw [if_neg (by omega), ← hn]
    congr 1
    omega
  · intro k hk
    have h1 : p * 2 ^ s ≤ q * (k * 2 ^ s) := by
      have := Nat.mul_le_mul_right (2 ^ s) hk
      rw [Nat.mul_comm k q, Nat.mul_assoc] at this; exact this
    have h2 : p * 2 ^ s / q ≤ k * 2 ^ s := Nat.div_le_of_le_mul h1
    have hdm := Nat.div_add_mod (p * 2 ^ s) q
    rw [Nat.pow_succ, ← Nat.mul_assoc]
    unfold leftB
    by_cases e : p * 2 ^ s / q = k * 2 ^ s
    · rw [e] at hdm
      rw [if_pos (by omega), e]; omega
    · split <;> omega
  · intro k hk
    have h1 : k * 2 ^ s * q ≤ p * 2 ^ s := by
      have := Nat.mul_le_mul_right (2 ^ s) hk
      rw [Nat.mul_right_comm] at this; exact this
    have h2 : k * 2 ^ s ≤ p * 2 ^ s / q := (Nat.le_div_iff_mul_le (by omega)).2 h1
    rw [Nat.pow_succ, ← Nat.mul_assoc]
    omega
theorem root_le {p q R k : Nat} (hq : 0 < q) (h : RootAns p q R) (hk : k < 9007199254740992) (hp : p ≤ k * k * q) : R ≤ fI k := by
  obtain ⟨h, r, x, g, h1, h2, rfl⟩ := h
  have e : (-(h : Int) - 1) = -((h + 1 : Nat) : Int) := by omega
  rw [e]
  apply near_le hk
  have h3 : r ≤ k * 2 ^ h := by
    have := g.1
    apply Classical.byContradiction
    intro hh
    have h4 : k * 2 ^ h + 1 ≤ r := by omega
    have h5 := Nat.mul_le_mul h4 h4
    have h6 := Nat.mul_le_mul_right q h5
    have h7 := Nat.mul_le_mul_right (2 ^ (2 * h)) hp
    have h8 : k * k * q * 2 ^ (2 * h) = k * 2 ^ h * (k * 2 ^ h) * q := (mm_pow k q h).symm
    have h9 : k * 2 ^ h * (k * 2 ^ h) * q < (k * 2 ^ h + 1) * (k * 2 ^ h + 1) * q := by
      apply Nat.mul_lt_mul_of_pos_right _ hq
      exact Nat.mul_self_lt_mul_self (by omega)
    omega
  rw [Nat.pow_succ, ← Nat.mul_assoc]
  rcases g.2.2 with ⟨hx, hh⟩ | ⟨hx, hh⟩
  · omega
  · have : r ≠ k * 2 ^ h := fun e => by
      subst e
      rw [mm_pow] at hh
      have h7 := Nat.mul_le_mul_right (2 ^ (2 * h)) hp
      omega
    omega
theorem root_eq {p q R k : Nat} (hq : 0 < q) (h : RootAns p q R) (hk : k < 9007199254740992) (hp : p = k * k * q) : R = fI k := by
  have h1 := root_le hq h hk (by omega)
  obtain ⟨t, r, x, g, g1, g2, rfl⟩ := h
  have e : (-(t : Int) - 1) = -((t + 1 : Nat) : Int) := by omega
  rw [e] at h1 ⊢
  have h2 := (g.just hq (k * 2 ^ t)).1 (by rw [mm_pow, hp])
  have h3 : 2 * r + x = k * 2 ^ (t + 1) := by rw [Nat.pow_succ, ← Nat.mul_assoc, h2.1]; have := h2.2; omega
  have h4 := near_ge (K := k) (k := k) hk (Nat.le_of_eq h3.symm) (Nat.le_of_eq h3)
  omega
theorem rootw_pos {p q R : Nat} (hp : p ≠ 0) (hq : q ≤ 1048576) (h : RootAns p q R) : R ≠ 0 := by
  obtain ⟨h, r, x, g, h1, h2, rfl⟩ := h
  have h53 : (2 : Nat) ^ 53 = 9007199254740992 := by decide
  have hr0 : r ≠ 0 := by omega
  have hx : x ≤ 1 := by rcases g.2.2 with ⟨h1, _⟩ | ⟨h1, _⟩ <;> omega
  apply nearW_pos (by omega)
  rw [bits_twice hr0 hx]
  have hb := bits_lt_nat hr0
  by_cases hh : h ≤ 20
  · omega
  · obtain ⟨t, rfl⟩ : ∃ t, h = t + 10 := ⟨h - 10, by omega⟩
    have h3 : 2 ^ t < r + 1 := by
      apply Classical.byContradiction
      intro hn
      have h4 : r + 1 ≤ 2 ^ t := by omega
      have h5 := Nat.mul_le_mul_right q (Nat.mul_le_mul h4 h4)
      have h6 := Nat.mul_le_mul_left (2 ^ t * 2 ^ t) hq
      have h7 := g.2.1
      have h8 : 1 * 2 ^ (2 * (t + 10)) ≤ p * 2 ^ (2 * (t + 10)) := Nat.mul_le_mul_right _ (by omega)
      have h9 : (2 : Nat) ^ (2 * (t + 10)) = 2 ^ t * 2 ^ t * 1048576 := by
        rw [show 2 * (t + 10) = t + t + 20 by omega, Nat.pow_add, Nat.pow_add]
      omega
    have h4 : t ≤ bitsZ (r : Int) := by
      apply Classical.byContradiction
      intro hn
      have := Nat.pow_lt_pow_right (a := 2) (by decide) (show bitsZ (r : Int) < t by omega)
      omega
    omega
theorem word_true (r : Nat) : Ieee.double.word true r = r + 9223372036854775808 := by
  unfold Ieee.Format.word
  rw [f_sign, if_pos rfl]; omega
theorem fv_neg {n r : Nat} (h0 : 0 < n) (hr : FV true r n 0) : floatOfInt .f64 (-(n : Int)) = r := by
  show Ieee.double.write (.number (decide (-(n : Int) < 0)) (-(n : Int)).natAbs 0) = r
  have e1 : decide (-(n : Int) < 0) = true := by simp; omega
  have e2 : (-(n : Int)).natAbs = n := by omega
  rw [e1, e2]
  exact hr.nearest (SameD.refl _ _)
/-- The key of a whole number's float. -/
theorem key_int (x : Int) (h1 : -9007199254740992 < x) (h2 : x < 9007199254740992) : notNan (floatOfInt .f64 x) ∧ W64 (floatOfInt .f64 x) ∧ skey (floatOfInt .f64 x) = if x < 0 then -(fI x.natAbs : Int) else fI x.natAbs := by
  by_cases h0 : x < 0
  · obtain ⟨n, hn⟩ : ∃ n : Nat, x = -(n : Int) := ⟨x.natAbs, by omega⟩
    subst hn
    obtain ⟨d, p, k1, k2, k3, k4⟩ := float_of (n := n) (by omega)
    have hw : floatOfInt .f64 (-(n : Int)) = Ieee.double.word true (rungOf d p) := fv_neg (by omega) ((FV.canon k1 (by omega) true).same k3)
    have hr := rung_lt k1 (by omega : p ≤ 971)
    have hfi : fI n = rungOf d p := by unfold fI; exact k4
    rw [word_true] at hw
    rw [hw, if_pos h0, show (-(n : Int)).natAbs = n by omega, hfi]
    clear hw hfi k4 k3 k1
    generalize rungOf d p = R at *
    refine ⟨⟨by omega, by omega⟩, by unfold W64; omega, ?_⟩
    rw [skey_neg (by omega)]; omega
  · obtain ⟨n, rfl⟩ := Int.eq_ofNat_of_zero_le (show 0 ≤ x by omega)
    obtain ⟨d, p, k1, k2, k3, k4⟩ := float_of (n := n) (by omega)
    have hr := rung_lt k1 (by omega : p ≤ 971)
    have hfi : fI n = rungOf d p := by unfold fI; exact k4
    rw [if_neg h0, Int.natAbs_natCast, hfi, k4]
    clear hfi k4 k3 k1
    generalize rungOf d p = R at *
    exact ⟨⟨by omega, by omega⟩, by unfold W64; omega, skey_pos (by omega)⟩
theorem key_sign {b : Bool} {R : Nat} (h : R ≤ 9218868437227405312) : notNan (signN b R) ∧ skey (signN b R) = if b then -(R : Int) else R := by
  cases b
  · rw [sign_pos]
    exact ⟨⟨by omega, by omega⟩, skey_pos (by omega)⟩
  · have e : signN true R = R + 9223372036854775808 := by unfold signN flipN; rw [if_pos rfl, if_pos (by omega)]
    rw [e]
    refine ⟨⟨by omega, by omega⟩, ?_⟩
    rw [skey_neg (by omega), if_pos rfl]; omega
theorem fI_le {k : Nat} (h : k < 9007199254740992) : fI k ≤ 9218868437227405312 := by
  obtain ⟨d, p, k1, k2, k3, k4⟩ := float_of h
  have hr := rung_lt k1 (by omega : p ≤ 971)
  unfold fI; rw [k4]; omega
theorem quoN_fin {p q : Nat} (hq : q ≠ 0) : quoN p q ≤ 9218868437227405312 := by
  by_cases hp : p = 0
  · unfold quoN extW; rw [if_pos (.inl hp), if_neg (by omega)]; omega
  · unfold quoN; rw [if_neg (by omega)]; exact nearQ_le hp hq
/-- A mean is no less than the least and no more than the greatest number. -/
theorem mean_between {s lo hi : Int} {n : Nat} (hn : n ≠ 0) (h1 : lo * n ≤ s) (h2 : s ≤ hi * n) (l1 : -4294967296 ≤ lo) (l2 : hi ≤ 4294967296) (l3 : lo ≤ hi) :
    notNan (signN (meanNeg s n) (quoN s.natAbs n)) ∧ skey (floatOfInt .f64 lo) ≤ skey (signN (meanNeg s n) (quoN s.natAbs n)) ∧ skey (signN (meanNeg s n) (quoN s.natAbs n)) ≤ skey (floatOfInt .f64 hi) := by
  have hk := key_sign (b := meanNeg s n) (quoN_fin (p := s.natAbs) hn)
  have klo := (key_int lo (by omega) (by omega)).2.2
  have khi := (key_int hi (by omega) (by omega)).2.2
  refine ⟨hk.1, ?_⟩
  rw [hk.2, klo, khi]
  have hnn : ¬ (n : Int) < 0 := by omega
  have hnp : (0 : Int) < n := by omega
  rcases Int.lt_trichotomy s 0 with hs | hs | hs
  · have hm : meanNeg s n = true := by unfold meanNeg; simp; omega
    rw [hm, if_pos rfl]
    have hlo : lo < 0 := by
      apply Classical.byContradiction
      intro hh
      have := Int.mul_nonneg (show 0 ≤ lo by omega) (show (0 : Int) ≤ n by omega)
      omega
    obtain ⟨z, j, e, f1, f2⟩ := quo_forms (p := s.natAbs) (q := n) (by omega) hn
    rw [if_pos hlo]
    have hA : s.natAbs ≤ lo.natAbs * n := by
      have h3 : ((lo.natAbs * n : Nat) : Int) = -(lo * n) := by
        rw [Int.natCast_mul, show ((lo.natAbs : Nat) : Int) = -lo by omega, Int.neg_mul]
      omega
    have hz := f1 _ hA
    have hle := near_le (by omega) hz
    rw [← e] at hle
    refine ⟨by omega, ?_⟩
    by_cases hhi : hi < 0
    · rw [if_pos hhi]
      have hB : hi.natAbs * n ≤ s.natAbs := by
        have h3 : ((hi.natAbs * n : Nat) : Int) = -(hi * n) := by
          rw [Int.natCast_mul, show ((hi.natAbs : Nat) : Int) = -hi by omega, Int.neg_mul]
        omega
      have := near_ge (K := lo.natAbs) (by omega) (f2 _ hB) hz
      rw [← e] at this
      omega
    · rw [if_neg hhi]; omega
  · subst hs
    have hm : meanNeg 0 n = false := by unfold meanNeg; simp
    have hq : quoN (0 : Int).natAbs n = 0 := by unfold quoN extW; rw [if_pos (.inl rfl), if_neg (by omega)]
    rw [hm, hq, if_neg (show ¬ (false = true) by decide)]
    have hlo : lo ≤ 0 := by
      apply Classical.byContradiction
      intro hh
      have := Int.mul_pos (show 0 < lo by omega) hnp
      omega
    have hhi : 0 ≤ hi := by
      apply Classical.byContradiction
      intro hh
      have := Int.mul_neg_of_neg_of_pos (show hi < 0 by omega) hnp
      omega
    rw [if_neg (show ¬ hi < 0 by omega)]
    refine ⟨?_, by omega⟩
    by_cases h : lo < 0
    · rw [if_pos h]; omega
    · have : lo = 0 := by omega
      subst this
      have e0 : fI (0 : Int).natAbs = 0 := by decide
      rw [if_neg (show ¬ ((0 : Int) < 0) by decide), e0]; omega
  · have hm : meanNeg s n = false := by unfold meanNeg; simp; omega
    rw [hm, if_neg (show ¬ (false = true) by decide)]
    have hhi : 0 < hi := by
      apply Classical.byContradiction
      intro hh
      have := Int.mul_nonneg (show 0 ≤ -hi by omega) (show (0 : Int) ≤ n by omega)
      rw [Int.neg_mul] at this
      omega
    obtain ⟨z, j, e, f1, f2⟩ := quo_forms (p := s.natAbs) (q := n) (by omega) hn
    rw [if_neg (show ¬ hi < 0 by omega)]
    have hA : s.natAbs ≤ hi.natAbs * n := by
      have h3 : ((hi.natAbs * n : Nat) : Int) = hi * n := by
        rw [Int.natCast_mul, show ((hi.natAbs : Nat) : Int) = hi by omega]
      omega
    have hz := f1 _ hA
    have hle := near_le (by omega) hz
    rw [← e] at hle
    refine ⟨?_, by omega⟩
    by_cases hlo : lo < 0
    · rw [if_pos hlo]; omega
    · rw [if_neg hlo]
      have hB : lo.natAbs * n ≤ s.natAbs := by
        have h3 : ((lo.natAbs * n : Nat) : Int) = lo * n := by
          rw [Int.natCast_mul, show ((lo.natAbs : Nat) : Int) = lo by omega]
        omega
      have := near_ge (K := hi.natAbs) (by omega) (f2 _ hB) hz
      rw [← e] at this
      omega
set_option maxRecDepth 100000
open Go.RowKit
set_option linter.unusedVariables false
/-- The sum of the squares of the distances from y. -/
def away (k : Int) (s1 s2 y : Int) : Int := s2 - 2 * y * s1 + k * (y * y)
def spread (k s1 s2 : Int) : Int := k * s2 - s1 * s1
/-- What holds of k numbers. -/
def Stat (k : Nat) (s1 s2 lo hi : Int) : Prop :=
  lo ≤ hi ∧ lo * k ≤ s1 ∧ s1 ≤ hi * k ∧ (k = 0 → lo = hi) ∧ 0 ≤ spread k s1 s2 ∧ (spread k s1 s2 = 0 ↔ lo = hi) ∧ spread k s1 s2 ≤ (hi - lo) * (hi - lo) * (k * k) ∧
  (∀ y, 0 ≤ away k s1 s2 y ∧ (away k s1 s2 y = 0 → k = 0 ∨ (lo = y ∧ hi = y)) ∧ (lo = y → hi = y → away k s1 s2 y = 0) ∧ (∀ M, 0 ≤ M → -M ≤ lo - y → hi - y ≤ M → away k s1 s2 y ≤ k * (M * M)))
theorem Stat.start (x : Int) : Stat 0 0 0 x x := by
  have e1 : spread (0 : Nat) 0 0 = 0 := by decide
  have e2 : ∀ y, away (0 : Nat) 0 0 y = 0 := fun y => by unfold away; simp
  refine ⟨Int.le_refl _, by simp, by simp, fun _ => rfl, by omega, ⟨fun _ => rfl, fun _ => e1⟩, by rw [e1]; simp, fun y => ?_⟩
  rw [e2]
  exact ⟨by omega, fun _ => .inl rfl, fun _ _ => rfl, fun M _ _ _ => by simp⟩
theorem away_step (k s1 s2 x y : Int) : away (k + 1) (s1 + x) (s2 + x * x) y = away k s1 s2 y + (x - y) * (x - y) := by unfold away; grind
theorem spread_step (k s1 s2 x : Int) : spread (k + 1) (s1 + x) (s2 + x * x) = spread k s1 s2 + away k s1 s2 x := by unfold spread away; grind
theorem sq_zero {a : Int} (h : a * a = 0) : a = 0 := by rcases Int.mul_eq_zero.1 h with h | h <;> exact h
theorem sq_nonneg (a : Int) : 0 ≤ a * a := by
  have := Int.natAbs_mul_self (a := a)
  omega
theorem sq_le {a M : Int} (h1 : -M ≤ a) (h2 : a ≤ M) : a * a ≤ M * M := by
  have h3 : a.natAbs ≤ M.natAbs := by omega
  have h4 := Nat.mul_le_mul h3 h3
  have e1 := Int.natAbs_mul_self (a := a)
  have e2 := Int.natAbs_mul_self (a := M)
  omega
theorem Stat.step {k : Nat} {s1 s2 lo hi x : Int} (h : Stat k s1 s2 lo hi) (hx : k = 0 → x = lo) : Stat (k + 1) (s1 + x) (s2 + x * x) (min lo x) (max hi x) := by
  obtain ⟨h1, h2, h3, h0, h4, h5, h6, h7⟩ := h
  have hk : ((k + 1 : Nat) : Int) = (k : Int) + 1 := by omega
  obtain ⟨a1, a2, a3, a4⟩ := h7 x
  have hmin : min lo x ≤ lo ∧ min lo x ≤ x := by omega
  have hmax : hi ≤ max hi x ∧ x ≤ max hi x := by omega
  have hk0 : (0 : Int) ≤ k := by omega
  refine ⟨by omega, ?_, ?_, fun e => by omega, ?_, ?_, ?_, fun y => ?_⟩
  · rw [hk, Int.mul_add, Int.mul_one]
    have := Int.mul_le_mul_of_nonneg_right hmin.1 hk0
    omega
  · rw [hk, Int.mul_add, Int.mul_one]
    have := Int.mul_le_mul_of_nonneg_right hmax.1 hk0
    omega
  · rw [hk, spread_step]; omega
  · rw [hk, spread_step]
    constructor
    · intro e
      have e1 : lo = hi := h5.1 (by omega)
      rcases a2 (by omega) with e2 | ⟨e2, e3⟩
      · have := hx e2; omega
      · omega
    · intro e
      have e1 : lo = hi := by omega
      have e2 : lo = x := by omega
      have := h5.2 e1
      have := a3 e2 (by omega)
      omega
  · rw [hk, spread_step]
    have hW : 0 ≤ max hi x - min lo x := by omega
    have b1 := a4 (max hi x - min lo x) hW (by omega) (by omega)
    have b2 : (hi - lo) * (hi - lo) ≤ (max hi x - min lo x) * (max hi x - min lo x) := Int.mul_le_mul (by omega) (by omega) (by omega) hW
    have b3 := Int.mul_le_mul_of_nonneg_right b2 (Int.mul_nonneg hk0 hk0)
    have b4 : (max hi x - min lo x) * (max hi x - min lo x) * (((k : Int) + 1) * (k + 1)) = (max hi x - min lo x) * (max hi x - min lo x) * (k * k) + k * ((max hi x - min lo x) * (max hi x - min lo x)) + k * ((max hi x - min lo x) * (max hi x - min lo x)) + (max hi x - min lo x) * (max hi x - min lo x) := by grind
    have b5 := sq_nonneg (max hi x - min lo x)
    have b6 := Int.mul_nonneg hk0 b5
    omega
  · rw [hk, away_step]
    obtain ⟨c1, c2, c3, c4⟩ := h7 y
    have d1 := sq_nonneg (x - y)
    refine ⟨by omega, fun e => .inr ?_, fun e1 e2 => ?_, fun M m0 m1 m2 => ?_⟩
    · have e1 := sq_zero (a := x - y) (by omega)
      rcases c2 (by omega) with e2 | ⟨e2, e3⟩
      · have := hx e2
        have := h0 e2
        omega
      · omega
    · have e3 : lo = y := by omega
      have e4 : hi = y := by omega
      have e5 : x - y = 0 := by omega
      rw [c3 e3 e4, e5]; rfl
    · have f1 := c4 M m0 (by omega) (by omega)
      have f2 := sq_le (a := x - y) (M := M) (by omega) (by omega)
      rw [Int.add_mul, Int.one_mul]
      omega
set_option maxRecDepth 100000
open Go.RowKit
set_option linter.unusedVariables false
theorem third_val : quoN 1 3 = 4599676419421066581 := by
  have h := near_quo (p := 1) (q := 3) (s := 55) (A := 36028797018963968) (B := 3) (.inl ⟨by decide, by decide, rfl⟩) (by decide) (by decide)
  unfold quoN
  rw [if_neg (by decide), ← h]
  decide +kernel
theorem half3_val : quoN 3 2 = 4609434218613702656 := by
  have h := near_quo (p := 3) (q := 2) (s := 55) (A := 108086391056891904) (B := 2) (.inl ⟨by decide, by decide, rfl⟩) (by decide) (by decide)
  unfold quoN
  rw [if_neg (by decide), ← h]
  decide +kernel
theorem dev_one {R : Nat} (h : DevRes 2 4 10 R) : R = 4607182418800017408 := by
  have e1 : fI 1 = 4607182418800017408 := by decide
  rcases h with ⟨h, -⟩ | ⟨-, -, h, -⟩ | ⟨-, -, D, hD, h⟩
  · rcases h with h | h
    · omega
    · exact absurd h (by decide)
  · omega
  · obtain rfl : D = 4 := by omega
    rcases h with ⟨h, -⟩ | ⟨-, -, h⟩
    · exact absurd h (by decide)
    · rw [← e1]; exact root_eq (by decide) h (by decide) (by decide)
theorem one_list (x : Nat) (hx : x ≤ 4294967295) : wv [(x : Int)] = (x : Int) := by simp [wv, wvN]
end Go.Proofs.YtflhicfbojmjbaaDoor
