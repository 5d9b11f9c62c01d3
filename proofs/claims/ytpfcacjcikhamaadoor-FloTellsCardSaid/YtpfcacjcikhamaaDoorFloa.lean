/- Numbers as the words of IEEE 754 have them: what a word is, and which is nearest to what. -/
import Derived.Laws.FloatArith
namespace Go.Proofs.YtpfcacjcikhamaaDoor
open Ieee
theorem f_least : Ieee.double.leastPlace = -1074 := by decide
theorem f_binade : Ieee.double.binade = 4503599627370496 := by decide
theorem f_inf : Ieee.double.infRung = 9218868437227405312 := by decide
theorem f_sign : Ieee.double.signWeight = 9223372036854775808 := by decide
/-- m 2^p and c 2^q are one number. -/
def SameD (m : Nat) (p : Int) (c : Nat) (q : Int) : Prop := ∃ k : Nat, (p = q + k ∧ c = m * 2 ^ k) ∨ (q = p + k ∧ m = c * 2 ^ k)
theorem SameD.refl (m : Nat) (p : Int) : SameD m p m p := ⟨0, .inl ⟨by simp, by simp⟩⟩
theorem SameD.symm {m c : Nat} {p q : Int} (h : SameD m p c q) : SameD c q m p := by
  obtain ⟨k, h | h⟩ := h
  · exact ⟨k, .inr h⟩
  · exact ⟨k, .inl h⟩
theorem n_pow_pos (k : Nat) : 0 < 2 ^ k := Nat.two_pow_pos k
theorem SameD.zero {m c : Nat} {p q : Int} (h : SameD m p c q) : m = 0 ↔ c = 0 := by
  obtain ⟨k, ⟨_, rfl⟩ | ⟨_, rfl⟩⟩ := h
  · have := n_pow_pos k
    exact ⟨fun h => by simp [h], fun h => by rcases Nat.mul_eq_zero.1 h with h | h <;> omega⟩
  · have := n_pow_pos k
    exact ⟨fun h => by rcases Nat.mul_eq_zero.1 h with h | h <;> omega, fun h => by simp [h]⟩
theorem SameD.trans {m c d : Nat} {p q r : Int} (h : SameD m p c q) (k : SameD c q d r) : SameD m p d r := by
  obtain ⟨a, ⟨h1, h2⟩ | ⟨h1, h2⟩⟩ := h <;> obtain ⟨b, ⟨k1, k2⟩ | ⟨k1, k2⟩⟩ := k
  · exact ⟨a + b, .inl ⟨by omega, by rw [k2, h2, Nat.pow_add, Nat.mul_assoc]⟩⟩
  · -- c = m 2^a, c = d 2^b, p = q + a, r = q + b
    by_cases hab : a ≤ b
    · obtain ⟨e, rfl⟩ := Nat.exists_eq_add_of_le hab
      refine ⟨e, .inr ⟨by omega, ?_⟩⟩
      have : m * 2 ^ a = d * 2 ^ e * 2 ^ a := by rw [← h2, k2, Nat.pow_add, Nat.mul_assoc, Nat.mul_comm (2 ^ a)]
      exact Nat.eq_of_mul_eq_mul_right (n_pow_pos a) this
    · obtain ⟨e, rfl⟩ := Nat.exists_eq_add_of_le (show b ≤ a by omega)
      refine ⟨e, .inl ⟨by omega, ?_⟩⟩
      have : d * 2 ^ b = m * 2 ^ e * 2 ^ b := by rw [← k2, h2, Nat.pow_add, Nat.mul_assoc, Nat.mul_comm (2 ^ b)]
      exact Nat.eq_of_mul_eq_mul_right (n_pow_pos b) this
  · by_cases hab : a ≤ b
    · obtain ⟨e, rfl⟩ := Nat.exists_eq_add_of_le hab
      exact ⟨e, .inl ⟨by omega, by rw [k2, h2, Nat.pow_add, Nat.mul_assoc]⟩⟩
    · obtain ⟨e, rfl⟩ := Nat.exists_eq_add_of_le (show b ≤ a by omega)
      exact ⟨e, .inr ⟨by omega, by rw [h2, k2, Nat.pow_add, Nat.mul_assoc]⟩⟩
  · exact ⟨a + b, .inr ⟨by omega, by rw [h2, k2, Nat.pow_add, Nat.mul_assoc, Nat.mul_comm (2 ^ b)]⟩⟩
theorem log2_mul_pow {c : Nat} (hc : c ≠ 0) (k : Nat) : (c * 2 ^ k).log2 = c.log2 + k := by
  have hp := n_pow_pos k
  have hne : c * 2 ^ k ≠ 0 := Nat.mul_ne_zero hc (by omega)
  rw [Nat.log2_eq_iff hne]
  have h1 := Nat.log2_self_le hc
  have h2 := @Nat.lt_log2_self c
  refine ⟨?_, ?_⟩
  · rw [Nat.pow_add]; exact Nat.mul_le_mul_right _ h1
  · rw [show c.log2 + k + 1 = (c.log2 + 1) + k by omega, Nat.pow_add]; exact Nat.mul_lt_mul_of_pos_right h2 hp
theorem SameD.log2 {m c : Nat} {p q : Int} (h : SameD m p c q) (hc : c ≠ 0) : p + m.log2 = q + c.log2 := by
  have hm : m ≠ 0 := fun e => hc (h.zero.1 e)
  obtain ⟨k, ⟨h1, h2⟩ | ⟨h1, h2⟩⟩ := h
  · rw [h2, log2_mul_pow hm]; omega
  · rw [h2, log2_mul_pow hc]; omega
/-- c 2^q as a word has it: the highest bit at 2^52, but where the power can't be less. -/
def Canon (c : Nat) (q : Int) : Prop := c < 9007199254740992 ∧ -1074 ≤ q ∧ (4503599627370496 ≤ c ∨ q = -1074)
def rungOf (c : Nat) (q : Int) : Nat := (q + 1074).toNat * 4503599627370496 + c
theorem cut_zero (neg : Bool) (n : Nat) : Toward.even.cut neg n 0 = n := by
  simp [Toward.cut, Nat.mod_one]
theorem cut_exact (neg : Bool) (c k : Nat) (hc : c ≠ 0) : Toward.even.cut neg (c * 2 ^ k) k = c := by
  have h1 : min k ((c * 2 ^ k).log2 + 2) = k := by rw [log2_mul_pow hc]; omega
  have hp := n_pow_pos k
  simp [Toward.cut, h1, Nat.one_shiftLeft, Nat.mul_div_cancel _ hp]
theorem nearest_canon (neg : Bool) {m c : Nat} {p q : Int} (h : SameD m p c q) (hc : Canon c q) (h0 : c ≠ 0) :
    Ieee.double.nearest neg m p = Ieee.double.word neg (min (rungOf c q) 9218868437227405312) := by
  have hm : m ≠ 0 := fun e => h0 (h.zero.1 e)
  have hl := h.log2 h0
  obtain ⟨c1, c2, c3⟩ := hc
  have hcl : c.log2 ≤ 52 := by have := (Nat.log2_lt h0 (k := 53)).2 c1; omega
  have hlast : max (p + (m.log2 : Int) - 52) (-1074) = q := by
    rcases c3 with c3 | c3
    · have : ¬ c.log2 < 52 := by rw [Nat.log2_lt h0]; omega
      omega
    · omega
  unfold Format.nearest
  rw [if_neg hm]
  have e1 : (Ieee.double.fractionBits : Int) = 52 := rfl
  rw [f_least, e1, f_binade, f_inf]
  simp only [hlast]
  congr 2
  unfold rungOf
  congr 1
  obtain ⟨k, ⟨h1, h2⟩ | ⟨h1, h2⟩⟩ := h
  · rw [show (p - q).toNat = k by omega, show (q - p).toNat = 0 by omega, cut_zero, Nat.shiftLeft_eq, h2]
  · rw [show (p - q).toNat = 0 by omega, show (q - p).toNat = k by omega, Nat.shiftLeft_zero, h2, cut_exact _ _ _ h0]
theorem word_read (neg : Bool) {r : Nat} (hr : r < 9223372036854775808) : (Ieee.double.word neg r / 9223372036854775808 % 2 == 1) = neg ∧ Ieee.double.word neg r % 9223372036854775808 = r := by
  unfold Format.word
  rw [f_sign]
  cases neg
  · simp only [Bool.false_eq_true, if_false]
    rw [Nat.div_eq_of_lt hr]
    exact ⟨rfl, Nat.mod_eq_of_lt hr⟩
  · simp only [if_true]
    rw [show (9223372036854775808 + r) / 9223372036854775808 = 1 by omega]
    exact ⟨rfl, by omega⟩
theorem canon_rung {r : Nat} (hr : r < 9218868437227405312) : ∃ c q, Canon c q ∧ q ≤ 971 ∧ rungOf c q = r ∧ ∀ neg, Ieee.double.read (Ieee.double.word neg r) = .number neg c q := by
  have h2 : r < 9223372036854775808 := by omega
  by_cases h : r < 4503599627370496
  · refine ⟨r, -1074, ⟨by omega, by omega, .inr rfl⟩, by omega, by simp [rungOf], fun neg => ?_⟩
    unfold Format.read
    rw [f_sign, f_binade, f_least, (word_read neg h2).1, (word_read neg h2).2, if_pos h]
  · refine ⟨4503599627370496 + r % 4503599627370496, -1074 + ((r / 4503599627370496 - 1 : Nat) : Int), ⟨by omega, by omega, .inl (by omega)⟩, by omega, by unfold rungOf; omega, fun neg => ?_⟩
    unfold Format.read
    rw [f_sign, f_binade, f_least, f_inf, (word_read neg h2).1, (word_read neg h2).2, if_neg h, if_pos hr]
theorem canon_same {c d : Nat} {q p : Int} (h : SameD c q d p) (hc : Canon c q) (hd : Canon d p) : c = d ∧ (c ≠ 0 → q = p) := by
  by_cases h0 : c = 0
  · have := h.zero.1 h0
    exact ⟨by omega, fun e => absurd h0 e⟩
  · have hd0 : d ≠ 0 := fun e => h0 (h.zero.2 e)
    have hl := h.log2 hd0
    obtain ⟨c1, c2, c3⟩ := hc
    obtain ⟨d1, d2, d3⟩ := hd
    have k1 : c.log2 ≤ 52 := by have := (Nat.log2_lt h0 (k := 53)).2 c1; omega
    have k2 : d.log2 ≤ 52 := by have := (Nat.log2_lt hd0 (k := 53)).2 d1; omega
    have k3 : 4503599627370496 ≤ c → ¬ c.log2 < 52 := fun g => by rw [Nat.log2_lt h0]; omega
    have k4 : 4503599627370496 ≤ d → ¬ d.log2 < 52 := fun g => by rw [Nat.log2_lt hd0]; omega
    have hq : q = p := by
      rcases c3 with c3 | c3 <;> rcases d3 with d3 | d3
      · have := k3 c3; have := k4 d3; omega
      · have := k3 c3; omega
      · have := k4 d3; omega
      · omega
    obtain ⟨k, ⟨g1, g2⟩ | ⟨g1, g2⟩⟩ := h
    · obtain rfl : k = 0 := by omega
      exact ⟨by simp [g2], fun _ => hq⟩
    · obtain rfl : k = 0 := by omega
      exact ⟨by simp [g2], fun _ => hq⟩
theorem canon_zero {q : Int} (h : Canon 0 q) : q = -1074 := by
  obtain ⟨_, _, h | h⟩ := h
  · omega
  · exact h
theorem canon_same2 {c d : Nat} {q p : Int} (h : SameD c q d p) (hc : Canon c q) (hd : Canon d p) : c = d ∧ q = p := by
  obtain ⟨h1, h2⟩ := canon_same h hc hd
  subst h1
  refine ⟨rfl, ?_⟩
  by_cases e : c = 0
  · subst e; rw [canon_zero hc, canon_zero hd]
  · exact h2 e
theorem rung_lt {c : Nat} {q : Int} (hc : Canon c q) (hq : q ≤ 971) : rungOf c q < 9218868437227405312 := by
  obtain ⟨c1, c2, c3⟩ := hc
  unfold rungOf
  omega
/-- x is the word of c 2^q, with a minus where neg. -/
def FV (neg : Bool) (x : Nat) (c : Nat) (q : Int) : Prop := ∃ d p, SameD c q d p ∧ Canon d p ∧ p ≤ 971 ∧ x = Ieee.double.word neg (rungOf d p)
theorem FV.read {neg : Bool} {x c : Nat} {q : Int} (h : FV neg x c q) : ∃ d p, SameD c q d p ∧ Canon d p ∧ p ≤ 971 ∧ x = Ieee.double.word neg (rungOf d p) ∧ Ieee.double.read x = .number neg d p := by
  obtain ⟨d, p, h1, h2, h3, h4⟩ := h
  refine ⟨d, p, h1, h2, h3, h4, ?_⟩
  obtain ⟨c', q', k1, k2, k3, k4⟩ := canon_rung (rung_lt h2 h3)
  obtain ⟨e1, e2⟩ : c' = d ∧ q' = p := by
    obtain ⟨a1, a2, a3⟩ := h2
    obtain ⟨b1, b2, b3⟩ := k1
    unfold rungOf at k3
    omega
  subst e1 e2
  rw [h4]; exact k4 neg
theorem FV.same {neg : Bool} {x c d : Nat} {q p : Int} (h : FV neg x c q) (hs : SameD d p c q) : FV neg x d p := by
  obtain ⟨e, r, h1, h2⟩ := h
  exact ⟨e, r, hs.trans h1, h2⟩
theorem word_zero (neg : Bool) : Ieee.double.word neg 0 = if neg then 9223372036854775808 else 0 := by cases neg <;> rfl
theorem FV.nearest {neg : Bool} {x c m : Nat} {q p : Int} (h : FV neg x c q) (hs : SameD m p c q) : Ieee.double.nearest neg m p = x := by
  obtain ⟨d, r, h1, h2, h3, h4⟩ := h.same hs
  by_cases h0 : m = 0
  · have hd := h1.zero.1 h0
    subst hd
    rw [canon_zero h2] at h4
    unfold Format.nearest
    rw [if_pos h0, h4]; rfl
  · have hd : d ≠ 0 := fun e => h0 (h1.zero.2 e)
    rw [nearest_canon neg h1 h2 hd, Nat.min_eq_left (Nat.le_of_lt (rung_lt h2 h3)), h4]
theorem FV.unique {neg : Bool} {x y c : Nat} {q : Int} (h : FV neg x c q) (k : FV neg y c q) : x = y := by
  rw [← h.nearest (SameD.refl c q), ← k.nearest (SameD.refl c q)]
theorem FV.canon {c : Nat} {q : Int} (h : Canon c q) (hq : q ≤ 971) (neg : Bool) : FV neg (Ieee.double.word neg (rungOf c q)) c q := ⟨c, q, SameD.refl _ _, h, hq, rfl⟩
/-- Every word that is no infinity and no NaN. -/
theorem fv_of {x : Nat} (h : x % 9223372036854775808 < 9218868437227405312) (hx : x < 18446744073709551616) : ∃ c q, Canon c q ∧ q ≤ 971 ∧ x = Ieee.double.word (decide (9223372036854775808 ≤ x)) (rungOf c q) ∧ rungOf c q = x % 9223372036854775808 := by
  obtain ⟨c, q, h1, h2, h3, -⟩ := canon_rung h
  refine ⟨c, q, h1, h2, ?_, h3⟩
  rw [h3]; unfold Format.word; rw [f_sign]
  by_cases k : 9223372036854775808 ≤ x
  · simp [k]; omega
  · simp [k]; omega
theorem canon_ex : ∀ (n c : Nat) (q : Int), (q + 1074).toNat ≤ n → c < 9007199254740992 → -1074 ≤ q → ∃ d p, SameD c q d p ∧ Canon d p ∧ p ≤ q
  | 0, c, q, h, hc, hq => ⟨c, q, SameD.refl _ _, ⟨hc, hq, .inr (by omega)⟩, Int.le_refl _⟩
  | n + 1, c, q, h, hc, hq => by
    by_cases h1 : 4503599627370496 ≤ c ∨ q = -1074
    · exact ⟨c, q, SameD.refl _ _, ⟨hc, hq, h1⟩, Int.le_refl _⟩
    · obtain ⟨d, p, k1, k2, k3⟩ := canon_ex n (c * 2) (q - 1) (by omega) (by omega) (by omega)
      exact ⟨d, p, SameD.trans ⟨1, .inl ⟨by omega, by simp⟩⟩ k1, k2, by omega⟩
theorem FV.make (neg : Bool) {c : Nat} {q : Int} (hc : c < 9007199254740992) (hq : -1074 ≤ q) (hm : q ≤ 971) : ∃ x, FV neg x c q := by
  obtain ⟨d, p, h1, h2, h3⟩ := canon_ex _ c q (Nat.le_refl _) hc hq
  exact ⟨_, d, p, h1, h2, by omega, rfl⟩
end Go.Proofs.YtpfcacjcikhamaaDoor
