/- The nearest float to a root of a quotient: by one bit for what is left over. Plain facts. -/
import Derived.Test.YtflhicfbojmjbaaDoorFloq
namespace Go.Proofs.YtflhicfbojmjbaaDoor
set_option maxRecDepth 100000
open Go.RowKit
set_option linter.unusedVariables false
/-- Is anything left over? -/
def leftB (A B : Nat) : Nat := if A % B = 0 then 0 else 1
theorem scale_rnd {P Q : Nat} (c : Nat) (hc : 0 < c) : rndQ (c * P) (c * Q) = rndQ P Q := by
  unfold rndQ
  rw [Nat.mul_div_mul_left _ _ hc, Nat.mul_mod_mul_left]
  have h1 : c * Q < 2 * (c * (P % Q)) ↔ Q < 2 * (P % Q) := by
    rw [show 2 * (c * (P % Q)) = c * (2 * (P % Q)) by rw [← Nat.mul_assoc, Nat.mul_comm 2 c, Nat.mul_assoc]]
    exact Nat.mul_lt_mul_left hc
  have h2 : c * Q = 2 * (c * (P % Q)) ↔ Q = 2 * (P % Q) := by
    rw [show 2 * (c * (P % Q)) = c * (2 * (P % Q)) by rw [← Nat.mul_assoc, Nat.mul_comm 2 c, Nat.mul_assoc]]
    exact ⟨fun h => Nat.eq_of_mul_eq_mul_left hc h, fun h => by rw [← h]⟩
  simp only [h1, h2]
/-- The remainder's bit serves for the remainder. -/
theorem sticky_rnd {A B : Nat} (hB : 0 < B) (m : Nat) : rndQ A (B * 2 ^ (m + 1)) = rndN (2 * (A / B) + leftB A B) (m + 2) := by
  have hp := n_pow_pos m
  have e1 : 2 ^ (m + 1) = 2 * 2 ^ m := by rw [Nat.pow_succ, Nat.mul_comm]
  have e2 : 2 ^ (m + 2) = 4 * 2 ^ m := by rw [Nat.pow_succ, Nat.pow_succ]; omega
  unfold rndQ rndN
  rw [← Nat.div_div_eq_div_mul, Nat.mod_mul, e1, e2]
  have hx : leftB A B = 0 ∧ A % B = 0 ∨ leftB A B = 1 ∧ 0 < A % B := by
    unfold leftB
    by_cases h : A % B = 0
    · exact .inl ⟨if_pos h, h⟩
    · exact .inr ⟨if_neg h, by omega⟩
  have hr := Nat.mod_lt A hB
  generalize leftB A B = x at *
  generalize A % B = ρ at *
  generalize A / B = N at *
  generalize 2 ^ m = h at *
  have q1 : (2 * N + x) / (4 * h) = N / (2 * h) := by
    rw [show 4 * h = 2 * (2 * h) by omega, ← Nat.div_div_eq_div_mul]
    congr 1; omega
  have q2 : (2 * N + x) % (4 * h) = 2 * (N % (2 * h)) + x := by
    rw [show 4 * h = 2 * (2 * h) by omega, Nat.mod_mul, show (2 * N + x) / 2 = N by omega]
    omega
  rw [q1, q2]
  generalize N % (2 * h) = t
  generalize N / (2 * h) = q
  have c1 : B * (2 * h) < 2 * (ρ + B * t) ↔ 4 * h < 2 * (2 * t + x) := by
    rw [show B * (2 * h) = 2 * (B * h) by rw [← Nat.mul_assoc, Nat.mul_comm B 2, Nat.mul_assoc]]
    rcases Nat.lt_trichotomy t h with g | g | g
    · have : B * (t + 1) ≤ B * h := Nat.mul_le_mul_left _ g
      rw [Nat.mul_add] at this
      constructor <;> intro <;> omega
    · subst g
      constructor <;> intro <;> omega
    · have : B * (h + 1) ≤ B * t := Nat.mul_le_mul_left _ g
      rw [Nat.mul_add] at this
      constructor <;> intro <;> omega
  have c2 : B * (2 * h) = 2 * (ρ + B * t) ↔ 4 * h = 2 * (2 * t + x) := by
    rw [show B * (2 * h) = 2 * (B * h) by rw [← Nat.mul_assoc, Nat.mul_comm B 2, Nat.mul_assoc]]
    rcases Nat.lt_trichotomy t h with g | g | g
    · have : B * (t + 1) ≤ B * h := Nat.mul_le_mul_left _ g
      rw [Nat.mul_add] at this
      constructor <;> intro <;> omega
    · subst g
      constructor <;> intro <;> omega
    · have : B * (h + 1) ≤ B * t := Nat.mul_le_mul_left _ g
      rw [Nat.mul_add] at this
      constructor <;> intro <;> omega
  simp only [c1, c2]
/-- The nearest float, in one formula. -/
theorem nearW_one {z : Nat} (e : Int) (h0 : z ≠ 0) : nearW z e = if 971 < (bitsZ z : Int) + e - 53 then 9218868437227405312 else Ieee.double.nearest false (rN z (bitsZ z) e) (rU (bitsZ z) e) := by
  have hlt := bits_lt_nat h0
  unfold nearW
  by_cases h1 : e + bitsZ z < -1074
  · rw [if_pos (.inr h1), if_neg (by omega), near_low hlt h1, nearest_zero]; rfl
  · rw [if_neg (by omega)]
    by_cases h2 : 1024 < e + bitsZ z
    · rw [if_pos h2, if_pos (by omega)]
    · rw [if_neg h2, if_neg (by omega)]
theorem bits_twice {N x : Nat} (h0 : N ≠ 0) (hx : x ≤ 1) : bitsZ ((2 * N + x : Nat) : Int) = bitsZ (N : Int) + 1 := by
  have h1 := bits_lt_nat h0
  have h2 := bits_le (z := (N : Int)) (by omega)
  have h3 := bitsZ_pos (z := (N : Int)) (by omega)
  have e1 : ((2 ^ (bitsZ (N : Int) - 1) : Nat) : Int) = (2 : Int) ^ (bitsZ (N : Int) - 1) := by simp
  have h4 : 2 ^ (bitsZ (N : Int) - 1) ≤ N := by omega
  unfold bitsZ
  rw [if_neg (by omega), if_neg (by omega), Int.toNat_natCast, Int.toNat_natCast]
  congr 1
  rw [Nat.log2_eq_iff (by omega)]
  have h5 := Nat.log2_self_le h0
  have h6 := @Nat.lt_log2_self N
  rw [Nat.pow_succ] at h6
  constructor
  · rw [Nat.pow_succ]; omega
  · rw [Nat.pow_succ, Nat.pow_succ]; omega
theorem lt_two_iff {N : Nat} (h0 : N ≠ 0) (k : Nat) : N < 2 ^ k ↔ bitsZ (N : Int) ≤ k := by
  have := two_lt_iff (z := N) (N := k) h0
  have e : ((2 ^ k : Nat) : Int) = (2 : Int) ^ k := by simp
  constructor
  · intro h; exact this.1 (by omega)
  · intro h; have := this.2 h; omega
/-- p by q, s bits on: A by B. -/
def Shifted (p q : Nat) (s : Int) (A B : Nat) : Prop := (0 ≤ s ∧ A = p * 2 ^ s.toNat ∧ B = q) ∨ (s < 0 ∧ A = p ∧ B = q * 2 ^ (-s).toNat)
theorem shifted_lt {p q A B : Nat} {s k : Int} (h : Shifted p q s A B) (hk : 0 ≤ k + s) : ltQ p q 0 k = decide (A < B * 2 ^ (k + s).toNat) := by
  unfold ltQ
  rcases h with ⟨h1, hA, hB⟩ | ⟨h1, hA, hB⟩
  · by_cases h2 : 0 ≤ k
    · rw [if_pos h2, decide_eq_decide, hA, hB, show (k - 0).toNat = k.toNat by omega, show (k + s).toNat = k.toNat + s.toNat by omega, Nat.pow_add, ← Nat.mul_assoc]
      exact (Nat.mul_lt_mul_right (n_pow_pos _)).symm
    · rw [if_neg h2, decide_eq_decide, hA, hB, show (0 - k).toNat = (-k).toNat by omega]
      have e : 2 ^ s.toNat = 2 ^ (-k).toNat * 2 ^ (k + s).toNat := by rw [← Nat.pow_add]; congr 1; omega
      rw [e, ← Nat.mul_assoc]
      exact (Nat.mul_lt_mul_right (n_pow_pos _)).symm
  · have h2 : 0 ≤ k := by omega
    rw [if_pos h2, decide_eq_decide, hA, hB, show (k - 0).toNat = (-s).toNat + (k + s).toNat by omega, Nat.pow_add, ← Nat.mul_assoc]
theorem shifted_rnd {p q A B : Nat} {s u : Int} (h : Shifted p q s A B) (hn : 0 ≤ u + s) : (if u ≤ 0 then rndQ (p * 2 ^ (0 - u).toNat) q else rndQ p (q * 2 ^ (u - 0).toNat)) = rndQ A (B * 2 ^ (u + s).toNat) := by
  rcases h with ⟨h1, hA, hB⟩ | ⟨h1, hA, hB⟩
  · rw [hA, hB]
    by_cases h2 : u ≤ 0
    · rw [if_pos h2]
      have e : 2 ^ s.toNat = 2 ^ (u + s).toNat * 2 ^ (0 - u).toNat := by rw [← Nat.pow_add]; congr 1; omega
      rw [← scale_rnd (2 ^ (u + s).toNat) (n_pow_pos _), e]
      congr 1
      · exact Nat.mul_left_comm _ _ _
      · exact Nat.mul_comm _ _
    · rw [if_neg h2, show (u - 0).toNat = u.toNat by omega, show (u + s).toNat = s.toNat + u.toNat by omega, Nat.pow_add, ← scale_rnd (2 ^ s.toNat) (n_pow_pos _)]
      congr 1
      · exact Nat.mul_comm _ _
      · exact Nat.mul_left_comm _ _ _
  · have h2 : ¬ u ≤ 0 := by omega
    rw [if_neg h2, hA, hB, show (u - 0).toNat = (-s).toNat + (u + s).toNat by omega, Nat.pow_add, ← Nat.mul_assoc]
theorem shifted_ge {p q A B : Nat} {s k : Int} (h : Shifted p q s A B) (hAB : B ≤ A) (hk : k + s < 0) : ltQ p q 0 k = false := by
  unfold ltQ
  rcases h with ⟨h1, hA, hB⟩ | ⟨h1, hA, hB⟩
  · rw [if_neg (by omega), decide_eq_false_iff_not, show (0 - k).toNat = (-k).toNat by omega]
    have h2 : 2 ^ s.toNat ≤ 2 ^ (-k).toNat := Nat.pow_le_pow_right (by decide) (by omega)
    have h3 := Nat.mul_le_mul_left p h2
    omega
  · by_cases h2 : 0 ≤ k
    · rw [if_pos h2, decide_eq_false_iff_not, show (k - 0).toNat = k.toNat by omega]
      have h2 : 2 ^ k.toNat ≤ 2 ^ (-s).toNat := Nat.pow_le_pow_right (by decide) (by omega)
      have h3 := Nat.mul_le_mul_left q h2
      omega
    · rw [if_neg h2, decide_eq_false_iff_not]
      have h3 : q * 1 ≤ q * 2 ^ (-s).toNat := Nat.mul_le_mul_left _ (n_pow_pos _)
      have h4 : p * 1 ≤ p * 2 ^ (0 - k).toNat := Nat.mul_le_mul_left _ (n_pow_pos _)
      omega
theorem quo_bits {A B : Nat} (hN : 2 ^ 53 ≤ A / B) : 54 ≤ bitsZ ((A / B : Nat) : Int) := by
  have h53 : (2 : Nat) ^ 53 = 9007199254740992 := by decide
  have h1 := lt_two_iff (N := A / B) (by omega) 53
  apply Classical.byContradiction
  intro hh
  have := h1.2 (by omega)
  omega
/-- The unit of a quotient, where its bits are known. -/
theorem unit_quo {p q A B : Nat} {s : Int} (h : Shifted p q s A B) (hB : 0 < B) (hN : 2 ^ 53 ≤ A / B) : uQ p q 0 = min (max ((bitsZ ((A / B : Nat) : Int) : Int) - s - 53) (-1074)) 1024 := by
  have h53 : (2 : Nat) ^ 53 = 9007199254740992 := by decide
  have hN0 : A / B ≠ 0 := by omega
  have hL := quo_bits hN
  have hAB : B ≤ A := Nat.le_of_not_lt fun hh => hN0 (Nat.div_eq_of_lt hh)
  have hlt : ∀ mid : Int, (ltQ p q 0 (mid + 53) = true ↔ (bitsZ ((A / B : Nat) : Int) : Int) - s - 53 ≤ mid) := fun mid => by
    by_cases hm : 0 ≤ mid + 53 + s
    · have h1 := lt_two_iff hN0 (mid + 53 + s).toNat
      rw [shifted_lt h hm, decide_eq_true_eq, Nat.mul_comm B, ← Nat.div_lt_iff_lt_mul hB, h1]
      omega
    · rw [shifted_ge h hAB (by omega)]
      constructor
      · intro hh; cases hh
      · intro hh; omega
  obtain ⟨u1, u2, u3⟩ := uQ_facts p q 0
  generalize bitsZ ((A / B : Nat) : Int) = L at *
  have yes : ∀ mid : Int, -1074 ≤ mid → mid + 1 ≤ 1024 → (L : Int) - s - 53 ≤ mid → uQ p q 0 ≤ mid := fun mid k1 k2 k3 => (u3 mid k1 k2).1 ((hlt mid).2 k3)
  have no : ∀ mid : Int, -1074 ≤ mid → mid + 1 ≤ 1024 → ¬ (L : Int) - s - 53 ≤ mid → mid + 1 ≤ uQ p q 0 := fun mid k1 k2 k3 => (u3 mid k1 k2).2 (Bool.eq_false_iff.2 fun hh => k3 ((hlt mid).1 hh))
  by_cases c1 : (L : Int) - s - 53 ≤ -1074
  · have := yes (-1074) (by omega) (by omega) c1
    omega
  · by_cases c2 : (L : Int) - s - 53 ≤ 1023
    · have k1 := yes ((L : Int) - s - 53) (by omega) (by omega) (by omega)
      have k2 := no ((L : Int) - s - 53 - 1) (by omega) (by omega) (by omega)
      omega
    · have k2 := no 1023 (by omega) (by omega) (by omega)
      omega
/-- A quotient of at least 54 bits and one bit for what is left over: its nearest float is that of the quotient. -/
theorem near_quo {p q A B : Nat} {s : Int} (h : Shifted p q s A B) (hB : 0 < B) (hN : 2 ^ 53 ≤ A / B) : nearW (2 * (A / B) + leftB A B) (-s - 1) = nearQ p q 0 := by
  have hx : leftB A B ≤ 1 := by unfold leftB; split <;> omega
  have h53 : (2 : Nat) ^ 53 = 9007199254740992 := by decide
  have hN0 : A / B ≠ 0 := by omega
  have hbt := bits_twice hN0 hx
  have hL := quo_bits hN
  have hu := unit_quo h hB hN
  have hz0 : 2 * (A / B) + leftB A B ≠ 0 := by omega
  have e1 : 0 ≤ uQ p q 0 + s → _ := shifted_rnd h (u := uQ p q 0)
  rw [nearW_one _ hz0, hbt]
  unfold nearQ rQ
  generalize uQ p q 0 = u at *
  generalize Ieee.double.nearest = g
  by_cases c : 971 < (bitsZ ((A / B : Nat) : Int) : Int) - s - 53
  · rw [if_pos (by omega), if_pos (by omega)]
  · rw [if_neg (by omega), if_neg (by omega)]
    have hU : rU (bitsZ ((A / B : Nat) : Int) + 1) (-s - 1) = u := by unfold rU; omega
    obtain ⟨m, hm⟩ : ∃ m : Nat, u + s = (m : Int) + 1 := ⟨(u + s - 1).toNat, by omega⟩
    have n1 : (u + s).toNat = m + 1 := by omega
    have n2 : (u - (-s - 1)).toNat = m + 2 := by omega
    have hR : rN (2 * (A / B) + leftB A B) (bitsZ ((A / B : Nat) : Int) + 1) (-s - 1) = rndN (2 * (A / B) + leftB A B) (m + 2) := by
      unfold rN
      rw [hU, if_neg (by omega), n2]
    rw [hR, hU, e1 (by omega), n1, sticky_rnd hB]
set_option maxRecDepth 100000
open Go.RowKit
set_option linter.unusedVariables false
/-- Is m 2^u at most the root of p by q? -/
def fitsB (m : Nat) (u : Int) (p q : Nat) : Bool := if 0 ≤ u then decide (m * m * q * 2 ^ (2 * u).toNat ≤ p) else decide (m * m * q ≤ p * 2 ^ (-2 * u).toNat)
/-- Is it just the root? -/
def justB (m : Nat) (u : Int) (p q : Nat) : Bool := if 0 ≤ u then decide (m * m * q * 2 ^ (2 * u).toNat = p) else decide (m * m * q = p * 2 ^ (-2 * u).toNat)
theorem fitsB_less {m n : Nat} {u : Int} {p q : Nat} (h : fitsB n u p q = true) (hm : m ≤ n) : fitsB m u p q = true := by
  unfold fitsB at *
  have h1 : m * m ≤ n * n := Nat.mul_le_mul hm hm
  by_cases hu : 0 ≤ u
  · rw [if_pos hu] at h ⊢
    simp only [decide_eq_true_eq] at h ⊢
    exact Nat.le_trans (Nat.mul_le_mul_right _ (Nat.mul_le_mul_right _ h1)) h
  · rw [if_neg hu] at h ⊢
    simp only [decide_eq_true_eq] at h ⊢
    exact Nat.le_trans (Nat.mul_le_mul_right _ h1) h
theorem fitsB_down {m : Nat} {u : Int} {p q : Nat} (h : fitsB m (u + 1) p q = true) : fitsB m u p q = true := by
  unfold fitsB at *
  have h4 : (2 : Nat) ^ 2 = 4 := by decide
  by_cases hu : 0 ≤ u
  · rw [if_pos (by omega)] at h
    rw [if_pos hu]
    simp only [decide_eq_true_eq] at h ⊢
    rw [show (2 * (u + 1)).toNat = (2 * u).toNat + 2 by omega, Nat.pow_add, h4, ← Nat.mul_assoc] at h
    omega
  · rw [if_neg hu]
    simp only [decide_eq_true_eq]
    by_cases h1 : 0 ≤ u + 1
    · rw [if_pos h1] at h
      simp only [decide_eq_true_eq] at h
      rw [show (2 * (u + 1)).toNat = 0 by omega, Nat.pow_zero, Nat.mul_one] at h
      rw [show (-2 * u).toNat = 2 by omega, h4]
      omega
    · rw [if_neg h1] at h
      simp only [decide_eq_true_eq] at h
      rw [show (-2 * u).toNat = (-2 * (u + 1)).toNat + 2 by omega, Nat.pow_add, h4, ← Nat.mul_assoc]
      omega
theorem fitsB_zero (u : Int) (p q : Nat) : fitsB 0 u p q = true := by
  unfold fitsB
  by_cases hu : 0 ≤ u
  · rw [if_pos hu]; simp
  · rw [if_neg hu]; simp
/-- Not even 2^53 units of 2^1600 fit where p has at most 3000 bits. -/
theorem fitsB_far {p q N : Nat} (hq : 0 < q) (hN : N ≤ 3000) (hp : p < 2 ^ N) : fitsB (2 ^ 53) 1600 p q = false := by
  have key : ∀ a b : Nat, a = 2 ^ 53 → b = (2 * (1600 : Int)).toNat → fitsB a 1600 p q = false := fun a b ha hb => by
    have hb2 : N ≤ b := by omega
    unfold fitsB
    rw [if_pos (by decide), ← hb]
    simp only [decide_eq_false_iff_not]
    intro h
    have h1 : 2 ^ N ≤ 2 ^ b := Nat.pow_le_pow_right (by decide) hb2
    have ha0 : 0 < a := by rw [ha]; exact n_pow_pos 53
    have h2 : 1 ≤ a * a * q := Nat.mul_pos (Nat.mul_pos ha0 ha0) hq
    have h3 := Nat.mul_le_mul_right (2 ^ b) h2
    omega
  exact key _ _ rfl rfl
def leastFit (p q : Nat) : Nat → Int → Int
  | 0, k => k
  | n + 1, k => if fitsB (2 ^ 53) k p q then leastFit p q n (k + 1) else k
theorem fitsB_up {p q m : Nat} {k : Int} (h : fitsB m k p q = false) : ∀ j : Nat, fitsB m (k + j) p q = false
  | 0 => by simpa using h
  | j + 1 => by
    have h1 := fitsB_up h j
    cases h2 : fitsB m (k + ((j + 1 : Nat) : Int)) p q with
    | false => rfl
    | true =>
      rw [show k + ((j + 1 : Nat) : Int) = k + j + 1 by omega] at h2
      rw [fitsB_down h2] at h1; cases h1
theorem fit_facts (p q : Nat) : ∀ (n : Nat) (k : Int), k ≤ leastFit p q n k ∧ leastFit p q n k ≤ k + n ∧ ∀ mid : Int, k ≤ mid → mid < k + n → (fitsB (2 ^ 53) mid p q = true → mid + 1 ≤ leastFit p q n k) ∧ (fitsB (2 ^ 53) mid p q = false → leastFit p q n k ≤ mid)
  | 0, k => ⟨Int.le_refl _, by simp [leastFit], fun mid h1 h2 => by omega⟩
  | n + 1, k => by
    unfold leastFit
    cases h : fitsB (2 ^ 53) k p q with
    | false =>
      rw [if_neg (by decide)]
      refine ⟨Int.le_refl _, by omega, fun mid h1 h2 => ⟨fun ht => ?_, fun _ => h1⟩⟩
      have := fitsB_up h (mid - k).toNat
      rw [show k + ((mid - k).toNat : Int) = mid by omega, ht] at this
      cases this
    | true =>
      rw [if_pos rfl]
      obtain ⟨a, b, c⟩ := fit_facts p q n (k + 1)
      refine ⟨by omega, by omega, fun mid h1 h2 => ?_⟩
      by_cases hm : mid = k
      · subst hm
        exact ⟨(fun _ => by omega), (fun hf => by rw [h] at hf; cases hf)⟩
      · exact c mid (by omega) (by omega)
/-- The unit of a root. -/
def uF (p q : Nat) : Int := leastFit p q 2674 (-1074)
theorem uF_facts (p q : Nat) : -1074 ≤ uF p q ∧ uF p q ≤ 1600 ∧ ∀ mid : Int, -1074 ≤ mid → mid < 1600 → (fitsB (2 ^ 53) mid p q = true → mid + 1 ≤ uF p q) ∧ (fitsB (2 ^ 53) mid p q = false → uF p q ≤ mid) := by
  obtain ⟨a, b, c⟩ := fit_facts p q 2674 (-1074)
  exact ⟨a, by unfold uF; omega, fun mid h1 h2 => c mid h1 (by omega)⟩
theorem uF_top {p q N : Nat} (hq : 0 < q) (hN : N ≤ 3000) (hp : p < 2 ^ N) : fitsB (2 ^ 53) (uF p q) p q = false := by
  obtain ⟨a, b, c⟩ := uF_facts p q
  cases h : fitsB (2 ^ 53) (uF p q) p q with
  | false => rfl
  | true =>
    by_cases h2 : uF p q < 1600
    · have := (c (uF p q) a h2).1 h; omega
    · have e : uF p q = 1600 := by omega
      rw [e, fitsB_far hq hN hp] at h; cases h
/-- The units that fit: all of them and no more. -/
def IsFit (p q m : Nat) : Prop := fitsB m (uF p q) p q = true ∧ fitsB (m + 1) (uF p q) p q = false
theorem IsFit.unique {p q m n : Nat} (h : IsFit p q m) (k : IsFit p q n) : m = n := by
  rcases Nat.lt_trichotomy m n with g | g | g
  · have := fitsB_less k.1 (show m + 1 ≤ n by omega); rw [h.2] at this; cases this
  · exact g
  · have := fitsB_less h.1 (show n + 1 ≤ m by omega); rw [k.2] at this; cases this
/-- The units, to the nearest. -/
def upFit (p q m : Nat) : Nat := if fitsB (2 * m + 1) (uF p q) (p * 4) q && (decide (m % 2 = 1) || !justB (2 * m + 1) (uF p q) (p * 4) q) then m + 1 else m
set_option maxRecDepth 100000
open Go.RowKit
set_option linter.unusedVariables false
/-- r is the root of p 4^h by q, rounded down; x tells whether anything is left over. -/
def IsRoo (p q h r x : Nat) : Prop := r * r * q ≤ p * 2 ^ (2 * h) ∧ p * 2 ^ (2 * h) < (r + 1) * (r + 1) * q ∧ ((x = 0 ∧ r * r * q = p * 2 ^ (2 * h)) ∨ (x = 1 ∧ r * r * q < p * 2 ^ (2 * h)))
theorem IsRoo.sq {p q h r x : Nat} (g : IsRoo p q h r x) (a : Nat) : a * a * q ≤ p * 2 ^ (2 * h) ↔ a ≤ r := by
  constructor
  · intro h1
    apply Classical.byContradiction
    intro h2
    have h3 : r + 1 ≤ a := by omega
    have h4 := Nat.mul_le_mul_right q (Nat.mul_le_mul h3 h3)
    have := g.2.1
    omega
  · intro h1
    exact Nat.le_trans (Nat.mul_le_mul_right q (Nat.mul_le_mul h1 h1)) g.1
theorem IsRoo.just {p q h r x : Nat} (g : IsRoo p q h r x) (hq : 0 < q) (a : Nat) : a * a * q = p * 2 ^ (2 * h) ↔ a = r ∧ x = 0 := by
  constructor
  · intro h1
    have h2 := (g.sq a).1 (by omega)
    rcases g.2.2 with ⟨hx, h3⟩ | ⟨hx, h3⟩
    · refine ⟨?_, hx⟩
      have h4 : a * a = r * r := Nat.eq_of_mul_eq_mul_right hq (by omega)
      apply Classical.byContradiction
      intro h5
      have h6 : a + 1 ≤ r := by omega
      have h7 := Nat.mul_le_mul h6 h6
      have h8 : (a + 1) * (a + 1) = a * a + 2 * a + 1 := by rw [Nat.mul_add, Nat.add_mul]; omega
      omega
    · have h4 := Nat.mul_le_mul_right q (Nat.mul_le_mul h2 h2)
      omega
  · rintro ⟨rfl, rfl⟩
    rcases g.2.2 with ⟨hx, h3⟩ | ⟨hx, h3⟩
    · exact h3
    · cases hx
theorem two_split {a b c : Nat} (h : c = a + b) : (2 : Nat) ^ c = 2 ^ a * 2 ^ b := by rw [h, Nat.pow_add]
theorem mm_pow (m q k : Nat) : m * 2 ^ k * (m * 2 ^ k) * q = m * m * q * 2 ^ (2 * k) := by
  rw [two_split (show 2 * k = k + k by omega)]
  generalize 2 ^ k = t
  rw [show m * t * (m * t) = m * m * (t * t) by rw [Nat.mul_assoc, Nat.mul_left_comm t m t, ← Nat.mul_assoc], Nat.mul_assoc (m * m) (t * t) q, Nat.mul_comm (t * t) q, ← Nat.mul_assoc]
theorem fits_iff {p q h m k : Nat} {u : Int} (hu : u + h = k) : fitsB m u p q = decide (m * 2 ^ k * (m * 2 ^ k) * q ≤ p * 2 ^ (2 * h)) := by
  unfold fitsB
  rw [mm_pow]
  by_cases h0 : 0 ≤ u
  · rw [if_pos h0, decide_eq_decide, two_split (show 2 * k = (2 * u).toNat + 2 * h by omega), ← Nat.mul_assoc]
    exact (Nat.mul_le_mul_right_iff (n_pow_pos _)).symm
  · rw [if_neg h0, decide_eq_decide, two_split (show 2 * h = (-2 * u).toNat + 2 * k by omega), ← Nat.mul_assoc]
    exact (Nat.mul_le_mul_right_iff (n_pow_pos _)).symm
theorem just_iff {p q h m k : Nat} {u : Int} (hu : u + h = k) : justB m u p q = decide (m * 2 ^ k * (m * 2 ^ k) * q = p * 2 ^ (2 * h)) := by
  unfold justB
  rw [mm_pow]
  by_cases h0 : 0 ≤ u
  · rw [if_pos h0, decide_eq_decide, two_split (show 2 * k = (2 * u).toNat + 2 * h by omega), ← Nat.mul_assoc]
    exact ⟨fun g => by rw [g], fun g => Nat.eq_of_mul_eq_mul_right (n_pow_pos _) g⟩
  · rw [if_neg h0, decide_eq_decide, two_split (show 2 * h = (-2 * u).toNat + 2 * k by omega), ← Nat.mul_assoc]
    exact ⟨fun g => by rw [g], fun g => Nat.eq_of_mul_eq_mul_right (n_pow_pos _) g⟩
/-- Which units fit, by the root. -/
theorem fits_root {p q h r x m k : Nat} {u : Int} (g : IsRoo p q h r x) (hu : u + h = k) : fitsB m u p q = decide (m * 2 ^ k ≤ r) := by
  rw [fits_iff hu, decide_eq_decide]; exact g.sq _
theorem four_eq {a q t : Nat} : 2 * a * (2 * a) * q = 4 * (a * a * q) := by
  rw [show 2 * a * (2 * a) = 4 * (a * a) by rw [Nat.mul_assoc 2 a, Nat.mul_left_comm a 2 a]; omega, Nat.mul_assoc]
theorem half_pow (m k : Nat) : m * 2 ^ (k + 1) = 2 * (m * 2 ^ k) := by rw [Nat.pow_succ, ← Nat.mul_assoc, Nat.mul_comm]
theorem four_le {p q h m k : Nat} {u : Int} (hu : u + h = (k + 1 : Nat)) : fitsB m u (p * 4) q = decide (m * 2 ^ k * (m * 2 ^ k) * q ≤ p * 2 ^ (2 * h)) := by
  rw [fits_iff hu, decide_eq_decide, half_pow, four_eq (t := 0), Nat.mul_right_comm p 4]
  omega
theorem four_just {p q h m k : Nat} {u : Int} (hu : u + h = (k + 1 : Nat)) : justB m u (p * 4) q = decide (m * 2 ^ k * (m * 2 ^ k) * q = p * 2 ^ (2 * h)) := by
  rw [just_iff hu, decide_eq_decide, half_pow, four_eq (t := 0), Nat.mul_right_comm p 4]
  omega
theorem root_bits {r : Nat} (hr : 2 ^ 53 ≤ r) : 54 ≤ bitsZ (r : Int) := by
  have h53 : (2 : Nat) ^ 53 = 9007199254740992 := by decide
  have h1 := lt_two_iff (N := r) (by omega) 53
  apply Classical.byContradiction
  intro hh
  have := h1.2 (by omega)
  omega
/-- The unit of a root, where its bits are known. -/
theorem unit_root {p q h r x : Nat} (g : IsRoo p q h r x) (hr : 2 ^ 53 ≤ r) (hb : (bitsZ (r : Int) : Int) - h - 53 ≤ 1600) : uF p q = max ((bitsZ (r : Int) : Int) - h - 53) (-1074) := by
  have h53 : (2 : Nat) ^ 53 = 9007199254740992 := by decide
  have hL := root_bits hr
  have hr0 : r ≠ 0 := by omega
  have hlt : ∀ mid : Int, (fitsB (2 ^ 53) mid p q = true ↔ mid < (bitsZ (r : Int) : Int) - h - 53) := fun mid => by
    by_cases hm : 0 ≤ mid + h
    · obtain ⟨k, hk⟩ := Int.eq_ofNat_of_zero_le hm
      rw [fits_root g hk, decide_eq_true_eq, ← Nat.pow_add]
      have h1 := lt_two_iff hr0 (53 + k)
      omega
    · constructor
      · intro _; omega
      · intro _
        cases hf : fitsB (2 ^ 53) mid p q with
        | true => rfl
        | false =>
          have h1 := fitsB_up hf (-(h : Int) - mid).toNat
          rw [show mid + ((-(h : Int) - mid).toNat : Int) = -(h : Int) by omega, fits_root g (k := 0) (by omega), Nat.pow_zero, Nat.mul_one] at h1
          simp only [decide_eq_false_iff_not] at h1
          exact absurd hr h1
  obtain ⟨u1, u2, u3⟩ := uF_facts p q
  generalize uF p q = u at *
  generalize bitsZ (r : Int) = L at *
  have no : ∀ mid : Int, -1074 ≤ mid → mid < 1600 → ¬ mid < (L : Int) - h - 53 → u ≤ mid := fun mid k1 k2 k3 => (u3 mid k1 k2).2 (Bool.eq_false_iff.2 fun hh => k3 ((hlt mid).1 hh))
  have yes : ∀ mid : Int, -1074 ≤ mid → mid < 1600 → mid < (L : Int) - h - 53 → mid + 1 ≤ u := fun mid k1 k2 k3 => (u3 mid k1 k2).1 ((hlt mid).2 k3)
  by_cases c1 : (L : Int) - h - 53 ≤ -1074
  · have := no (-1074) (by omega) (by omega) (by omega)
    omega
  · have k1 := yes ((L : Int) - h - 53 - 1) (by omega) (by omega) (by omega)
    by_cases c2 : (L : Int) - h - 53 < 1600
    · have k2 := no ((L : Int) - h - 53) (by omega) (by omega) (by omega)
      omega
    · omega
/-- The root's units to the nearest, by the bit for what is left over. -/
theorem rnd_root {p q h r x k : Nat} (g : IsRoo p q h r x) (hq : 0 < q) (hu : uF p q + h = (k + 1 : Nat)) {m : Nat} (hm : IsFit p q m) : m = r / 2 ^ (k + 1) ∧ upFit p q m = rndN (2 * r + x) (k + 2) := by
  have hp := n_pow_pos k
  have e1 : 2 ^ (k + 1) = 2 * 2 ^ k := by rw [Nat.pow_succ, Nat.mul_comm]
  have e2 : 2 ^ (k + 2) = 4 * 2 ^ k := by rw [Nat.pow_succ, Nat.pow_succ]; omega
  obtain ⟨m1, m2⟩ := hm
  rw [fits_root g hu, decide_eq_true_eq] at m1
  rw [fits_root g hu, decide_eq_false_iff_not] at m2
  have hmr : m = r / 2 ^ (k + 1) := by
    have a1 : m ≤ r / 2 ^ (k + 1) := (Nat.le_div_iff_mul_le (n_pow_pos _)).2 m1
    have a2 : r / 2 ^ (k + 1) < m + 1 := (Nat.div_lt_iff_lt_mul (n_pow_pos _)).2 (by omega)
    omega
  refine ⟨hmr, ?_⟩
  have hx : x = 0 ∨ x = 1 := by rcases g.2.2 with ⟨h1, _⟩ | ⟨h1, _⟩ <;> omega
  unfold upFit
  rw [four_le hu, four_just hu]
  have s1 := g.sq ((2 * m + 1) * 2 ^ k)
  have s2 := g.just hq ((2 * m + 1) * 2 ^ k)
  simp only [s1, s2]
  have hdm := Nat.div_add_mod r (2 ^ (k + 1))
  have hlt := Nat.mod_lt r (n_pow_pos (k + 1))
  rw [← hmr, e1] at hdm
  rw [e1] at hlt
  have q1 : (2 * r + x) / (4 * 2 ^ k) = m := by
    rw [show 4 * 2 ^ k = 2 * (2 * 2 ^ k) by omega, ← Nat.div_div_eq_div_mul, show (2 * r + x) / 2 = r by omega, hmr, e1]
  have q2 : (2 * r + x) % (4 * 2 ^ k) = 2 * (r % (2 * 2 ^ k)) + x := by
    rw [show 4 * 2 ^ k = 2 * (2 * 2 ^ k) by omega, Nat.mod_mul, show (2 * r + x) / 2 = r by omega]
    omega
  unfold rndN
  rw [e2, q1, q2]
  have hmm : (2 * m + 1) * 2 ^ k = 2 * (m * 2 ^ k) + 2 ^ k := by rw [Nat.add_mul, Nat.mul_assoc, Nat.one_mul]
  have hmn : 2 * 2 ^ k * m = 2 * (m * 2 ^ k) := by rw [Nat.mul_assoc, Nat.mul_comm (2 ^ k)]
  rw [hmm]
  rw [hmn] at hdm
  generalize r % (2 * 2 ^ k) = t at *
  generalize m * 2 ^ k = M at *
  generalize 2 ^ k = H at *
  have c0 : (2 * M + H ≤ r) ↔ H ≤ t := by omega
  have c1 : (2 * M + H = r ∧ x = 0) ↔ (t = H ∧ x = 0) := by omega
  simp only [c0, c1]
  by_cases k1 : H ≤ t <;> by_cases k2 : t = H <;> rcases hx with rfl | rfl <;> by_cases k3 : m % 2 = 1 <;> simp [k1, k2, k3] <;> omega
theorem bits_upto {M N : Nat} (h0 : M ≠ 0) (h : M < 2 ^ N) : bitsZ (M : Int) ≤ N := (lt_two_iff h0 N).1 h
/-- A float of few units is exact. -/
theorem near_units {M : Nat} {u : Int} (hM : M ≤ 9007199254740992) (h1 : -1074 ≤ u) (h2 : u ≤ 971) : nearW M u = Ieee.double.nearest false M u := by
  by_cases h0 : M = 0
  · subst h0
    rw [nearest_zero]
    unfold nearW
    rw [if_pos (.inl rfl)]; rfl
  · have hfl := isFl_near hM h1 h2
    have h54 : (2 : Nat) ^ 54 = 18014398509481984 := by decide
    have h53 : (2 : Nat) ^ 53 = 9007199254740992 := by decide
    have hL : bitsZ (M : Int) ≤ 54 := bits_upto h0 (by omega)
    have hL1 := bitsZ_pos (z := (M : Int)) (by omega)
    have hL53 : M < 9007199254740992 → bitsZ (M : Int) ≤ 53 := fun hh => bits_upto h0 (by omega)
    have hLb : M = 9007199254740992 → bitsZ (M : Int) = 54 := fun hh => by subst hh; decide +kernel
    rw [nearW_one u h0]
    by_cases hov : M = 9007199254740992
    · have hL54 := hLb hov
      subst hov
      have hs : SameD 9007199254740992 u 4503599627370496 (u + 1) := ⟨1, .inr ⟨rfl, rfl⟩⟩
      have hc : Canon 4503599627370496 (u + 1) := ⟨by decide, by omega, .inl (by decide)⟩
      rw [hL54]
      by_cases hu : u = 971
      · subst hu
        rw [if_pos (by decide), nearest_canon false hs hc (by decide)]; decide
      · rw [if_neg (by omega)]
        have hU : rU 54 u = u + 1 := by unfold rU; omega
        have hR : rN 9007199254740992 54 u = 4503599627370496 := by
          unfold rN
          rw [hU, if_neg (by omega), show (u + 1 - u).toNat = 1 by omega]
          decide
        rw [hR, hU]
        have hf := (fvc hc (by omega)).same hs
        rw [hf.nearest (SameD.refl _ _), hf.nearest hs.symm]
    · have hL2 := hL53 (by omega)
      generalize bitsZ (M : Int) = L at *
      rw [if_neg (by omega)]
      have hU : rU L u ≤ u := by unfold rU; omega
      have hU2 : -1074 ≤ rU L u := by unfold rU; omega
      have hR : rN M L u = M * 2 ^ (u - rU L u).toNat := by unfold rN; rw [if_pos hU]
      rw [hR]
      rcases hfl with ⟨g1, g2⟩ | ⟨g1, g2⟩ | ⟨g1, g2, g3⟩
      · exact absurd g1 h0
      · exact g2.nearest ⟨(u - rU L u).toNat, .inr ⟨by omega, rfl⟩⟩
      · exact absurd g1 hov
/-- The root of at least 54 bits and one bit for what is left over: its nearest float is that of the root. -/
theorem near_root {p q h r x : Nat} (g : IsRoo p q h r x) (hq : 0 < q) (hr : 2 ^ 53 ≤ r) (hb : (bitsZ (r : Int) : Int) - h - 53 ≤ 1600) {m : Nat} (hm : IsFit p q m) : nearW (2 * r + x) (-(h : Int) - 1) = nearW (upFit p q m) (uF p q) := by
  have h53 : (2 : Nat) ^ 53 = 9007199254740992 := by decide
  have hx : x ≤ 1 := by rcases g.2.2 with ⟨h1, _⟩ | ⟨h1, _⟩ <;> omega
  have hL := root_bits hr
  have hr0 : r ≠ 0 := by omega
  have hu := unit_root g hr hb
  have hbt := bits_twice hr0 hx
  have hr1 : r < 2 ^ bitsZ (r : Int) := bits_lt_nat hr0
  have hr2 : 2 ^ (bitsZ (r : Int) - 1) ≤ r := by
    have h1 := lt_two_iff hr0 (bitsZ (r : Int) - 1)
    apply Classical.byContradiction
    intro hh
    have := h1.1 (by omega)
    omega
  obtain ⟨k, hk⟩ : ∃ k : Nat, uF p q + h = (k + 1 : Nat) := ⟨(uF p q + h - 1).toNat, by omega⟩
  obtain ⟨hmr, hup⟩ := rnd_root g hq hk hm
  rw [nearW_one _ (show 2 * r + x ≠ 0 by omega), hbt]
  have hU : rU (bitsZ (r : Int) + 1) (-(h : Int) - 1) = uF p q := by unfold rU; omega
  have hR : rN (2 * r + x) (bitsZ (r : Int) + 1) (-(h : Int) - 1) = upFit p q m := by
    unfold rN
    rw [hU, if_neg (by omega), show (uF p q - (-(h : Int) - 1)).toNat = k + 2 by omega, hup]
  rw [hR, hU]
  have hM : upFit p q m ≤ 9007199254740992 := by
    rw [hup]
    apply rnd_le
    rw [Nat.div_lt_iff_lt_mul (n_pow_pos _)]
    have h1 : 2 * r + x < 2 ^ (bitsZ (r : Int) + 1) := by rw [Nat.pow_succ]; omega
    have h2 : 2 ^ (bitsZ (r : Int) + 1) ≤ 2 ^ (53 + (k + 2)) := Nat.pow_le_pow_right (by decide) (by omega)
    rw [Nat.pow_add 2 53 (k + 2), h53] at h2
    omega
  have hge : 971 < (bitsZ (r : Int) : Int) - h - 53 → 4503599627370496 ≤ upFit p q m := fun hh => by
    have h1 : m ≤ upFit p q m := by unfold upFit; split <;> omega
    have h2 : 2 ^ 52 ≤ r / 2 ^ (k + 1) := by
      rw [Nat.le_div_iff_mul_le (n_pow_pos _), ← Nat.pow_add]
      exact Nat.le_trans (Nat.pow_le_pow_right (by decide) (by omega)) hr2
    have h52 : (2 : Nat) ^ 52 = 4503599627370496 := by decide
    omega
  generalize upFit p q m = M at *
  generalize uF p q = u at *
  generalize bitsZ (r : Int) = L at *
  by_cases hov : 971 < (L : Int) - h - 53
  · rw [if_pos (by omega)]
    have h1 := hge hov
    have h2 : 53 ≤ bitsZ (M : Int) := by
      have h3 := lt_two_iff (N := M) (by omega) 52
      have h52 : (2 : Nat) ^ 52 = 4503599627370496 := by decide
      apply Classical.byContradiction
      intro hh
      have := h3.2 (by omega)
      omega
    rw [near_over (by omega) (by omega)]
  · rw [if_neg (by omega), near_units hM (by omega) (by omega)]
end Go.Proofs.YtflhicfbojmjbaaDoor
