/- Exact results of the operations on words of IEEE 754, and their order. -/
import Derived.Test.YtpfcacjcikhamaaDoorFloa
namespace Go.Proofs.YtpfcacjcikhamaaDoor
open Ieee
theorem SameD.mul {m c n d : Nat} {p q i j : Int} (h : SameD m p c q) (k : SameD n i d j) : SameD (m * n) (p + i) (c * d) (q + j) := by
  have h1 : SameD (m * n) (p + i) (c * n) (q + i) := by
    obtain ⟨a, ⟨h1, h2⟩ | ⟨h1, h2⟩⟩ := h
    · exact ⟨a, .inl ⟨by omega, by rw [h2, Nat.mul_assoc, Nat.mul_assoc, Nat.mul_comm n]⟩⟩
    · exact ⟨a, .inr ⟨by omega, by rw [h2, Nat.mul_assoc, Nat.mul_assoc, Nat.mul_comm n]⟩⟩
  have h2 : SameD (c * n) (q + i) (c * d) (q + j) := by
    obtain ⟨a, ⟨h1, h2⟩ | ⟨h1, h2⟩⟩ := k
    · exact ⟨a, .inl ⟨by omega, by rw [h2, Nat.mul_assoc]⟩⟩
    · exact ⟨a, .inr ⟨by omega, by rw [h2, Nat.mul_assoc]⟩⟩
  exact h1.trans h2
theorem fv_mul {s t : Bool} {x y r c d : Nat} {q p : Int} (hx : FV s x c q) (hy : FV t y d p) (hr : FV (s ^^ t) r (c * d) (q + p)) : floatBits .mul .f64 x y = some r := by
  obtain ⟨m, i, h1, -, -, -, h2⟩ := hx.read
  obtain ⟨n, j, k1, -, -, -, k2⟩ := hy.read
  show Ieee.double.mul x y = some r
  unfold Format.mul
  rw [h2, k2]
  simp only [Datum.product, Option.map_some, Format.write]
  rw [hr.nearest (h1.mul k1).symm]
theorem one_log2 (j : Nat) : (2 ^ j).log2 = j := by simp
theorem nearest_zero (s : Bool) (p : Int) : Ieee.double.nearest s 0 p = Ieee.double.word s 0 := by
  unfold Format.nearest
  rw [if_pos rfl]
theorem fv_zero_word {s : Bool} {r : Nat} {q : Int} (h : FV s r 0 q) : r = Ieee.double.word s 0 := by
  obtain ⟨d, p, k1, k2, k3, k4⟩ := h
  have h0 := k1.zero.1 rfl
  subst h0
  rw [canon_zero k2] at k4
  have e : rungOf 0 (-1074) = 0 := by decide
  rw [k4, e]
theorem quo_two (s : Bool) {m M : Nat} (i : Int) (h : m.log2 ≤ 52) (hM : M = 106 - m.log2) : Datum.quotient 54 (.number s m i) (.number false 4503599627370496 (-51)) = some (.number s (m * 2 ^ (M - 51)) (i + 51 - M - 1)) := by
  have e1 : (4503599627370496 : Nat).log2 = 52 := by decide +kernel
  unfold Datum.quotient
  simp only [e1]
  rw [if_neg (by decide)]
  rw [show 54 + 52 - m.log2 = M by omega]
  obtain ⟨N, hN⟩ : ∃ N, M = 52 + N := ⟨M - 52, by omega⟩
  have e3 : m <<< M = m * 2 ^ N * 4503599627370496 := by
    have e4 : (2 : Nat) ^ 52 = 4503599627370496 := by decide
    rw [hN, Nat.shiftLeft_eq, Nat.pow_add, e4, ← Nat.mul_assoc, Nat.mul_assoc, Nat.mul_comm 4503599627370496, ← Nat.mul_assoc]
  rw [e3, Nat.mul_div_cancel _ (by decide), Nat.mul_mod_left]
  have e4 : ((0 : Nat) != 0).toNat = 0 := by decide
  rw [e4, Nat.add_zero, Bool.xor_false, show M - 51 = N + 1 by omega, Nat.pow_succ, Nat.mul_comm 2, Nat.mul_assoc]
  congr 2
theorem div_words {x y m n : Nat} {s t : Bool} {i j : Int} (hx : Ieee.double.read x = .number s m i) (hy : Ieee.double.read y = .number t n j) : Ieee.double.div x y = ((Datum.number s m i).quotient 54 (.number t n j)).map Ieee.double.write := by
  unfold Format.div
  rw [hx, hy]; rfl
theorem read_two : Ieee.double.read 4611686018427387904 = .number false 4503599627370496 (-51) := by decide +kernel
theorem quo_is_div (x y : Nat) : floatBits .quo .f64 x y = Ieee.double.div x y := rfl
theorem fv_half {s : Bool} {x r c : Nat} {q : Int} (hx : FV s x c q) (hr : FV s r c (q - 1)) : floatBits .quo .f64 x 4611686018427387904 = some r := by
  obtain ⟨m, i, h1, k1, -, -, h2⟩ := hx.read
  have hm : m.log2 ≤ 52 := by
    by_cases h0 : m = 0
    · subst h0; simp
    · have := (Nat.log2_lt h0 (k := 53)).2 k1.1
      omega
  rw [quo_is_div, div_words h2 read_two, quo_two s i hm rfl]
  simp only [Option.map_some, Format.write]
  refine congrArg some (hr.nearest ?_)
  have h3 := SameD.mul h1.symm (SameD.refl 1 (-1))
  rw [Nat.mul_one, Nat.mul_one] at h3
  refine SameD.trans ⟨106 - m.log2 - 51, .inr ⟨?_, rfl⟩⟩ h3
  omega
theorem fv_int {n r : Nat} (hr : FV false r n 0) : floatOfInt .f64 (n : Int) = r := by
  show Ieee.double.write (.number (decide ((n : Int) < 0)) (n : Int).natAbs 0) = r
  have : decide ((n : Int) < 0) = false := by simp
  rw [this]
  exact hr.nearest (SameD.refl _ _)
theorem cut_down {neg : Bool} (n k : Nat) : Toward.zero.cut neg n k = n / 2 ^ k := by
  simp only [Toward.cut, Nat.one_shiftLeft, Bool.toNat_false, Nat.add_zero]
  by_cases h : k ≤ n.log2 + 2
  · rw [Nat.min_eq_left h]
  · rw [Nat.min_eq_right (by omega)]
    have h1 : n < 2 ^ (n.log2 + 1) := Nat.lt_log2_self
    have h2 : 2 ^ (n.log2 + 1) ≤ 2 ^ (n.log2 + 2) := Nat.pow_le_pow_right (by decide) (by omega)
    have h3 : 2 ^ (n.log2 + 1) ≤ 2 ^ k := Nat.pow_le_pow_right (by decide) (by omega)
    rw [Nat.div_eq_of_lt (by omega), Nat.div_eq_of_lt (by omega)]
/-- A float cut to a whole number: c 2^q as the word has it. -/
theorem fv_cut {x c : Nat} {q : Int} (hc : Canon c q) (hq : q ≤ 971) (hx : x = Ieee.double.word false (rungOf c q)) (n : Nat) (hn : n = c * 2 ^ q.toNat / 2 ^ (-q).toNat) (h64 : n < 18446744073709551616) : floatToIntVal .f64 x .u64 = some (n : Int) := by
  obtain ⟨d, p, h1, h2, h3, h4, h5⟩ := FV.read ⟨c, q, SameD.refl _ _, hc, hq, hx⟩
  obtain ⟨rfl, rfl⟩ := canon_same2 h1 hc h2
  unfold floatToIntVal
  have e : FloatKind.f64.decode x = .number false c q := h5
  rw [e]
  simp only [Datum.toInt, Datum.integral, cut_down, Nat.shiftLeft_eq, ← hn, signed, Bool.false_eq_true, if_false, Nat.pow_zero, Nat.mul_one]
  rw [if_pos]
  simp [IntKind.min, IntKind.max, IntKind.signed, IntKind.bits]; omega
/-- The order of the words that are no NaN. -/
def skey (x : Nat) : Int := if x < 9223372036854775808 then x else 9223372036854775808 - x
def notNan (x : Nat) : Prop := x < 18446744073709551616 ∧ x % 9223372036854775808 ≤ 9218868437227405312
theorem canon_cmp {m n : Nat} {i j : Int} (hm : Canon m i) (hn : Canon n j) (base : Int) (hb : base = min i j) : m * 2 ^ (i - base).toNat < n * 2 ^ (j - base).toNat ↔ rungOf m i < rungOf n j := by
  obtain ⟨m1, m2, m3⟩ := hm
  obtain ⟨n1, n2, n3⟩ := hn
  rcases Int.lt_trichotomy i j with h | h | h
  · rw [show (i - base).toNat = 0 by omega, Nat.pow_zero, Nat.mul_one]
    obtain ⟨k, hk⟩ : ∃ k : Nat, (j - base).toNat = k + 1 := ⟨(j - base).toNat - 1, by omega⟩
    rw [hk, Nat.pow_succ]
    have hp := n_pow_pos k
    have : n * 1 ≤ n * 2 ^ k := Nat.mul_le_mul_left _ hp
    rw [← Nat.mul_assoc]
    unfold rungOf
    constructor <;> intro <;> omega
  · rw [show (i - base).toNat = 0 by omega, show (j - base).toNat = 0 by omega, Nat.pow_zero, Nat.mul_one, Nat.mul_one]
    unfold rungOf
    constructor <;> intro <;> omega
  · rw [show (j - base).toNat = 0 by omega, Nat.pow_zero, Nat.mul_one]
    obtain ⟨k, hk⟩ : ∃ k : Nat, (i - base).toNat = k + 1 := ⟨(i - base).toNat - 1, by omega⟩
    rw [hk, Nat.pow_succ]
    have hp := n_pow_pos k
    have : m * 1 ≤ m * 2 ^ k := Nat.mul_le_mul_left _ hp
    rw [← Nat.mul_assoc]
    unfold rungOf
    constructor <;> intro <;> omega
theorem cmp_int {a b : Int} {c d : Int} (h1 : a < b ↔ c < d) (h2 : b < a ↔ d < c) : compare a b = compare c d := by
  show compareOfLessAndEq a b = compareOfLessAndEq c d
  unfold compareOfLessAndEq
  by_cases k1 : a < b
  · rw [if_pos k1, if_pos (h1.1 k1)]
  · have k1' : ¬ c < d := fun h => k1 (h1.2 h)
    rw [if_neg k1, if_neg k1']
    by_cases k2 : b < a
    · have := h2.1 k2
      rw [if_neg (by omega), if_neg (by omega)]
    · have : ¬ d < c := fun h => k2 (h2.2 h)
      rw [if_pos (by omega), if_pos (by omega)]
theorem skey_word (s : Bool) {r : Nat} (hr : r < 9223372036854775808) : skey (Ieee.double.word s r) = if s then -(r : Int) else r := by
  unfold skey Format.word
  rw [f_sign]
  cases s
  · simp [hr]
  · simp only [if_true]; rw [if_neg (by omega)]; omega
/-- What a word stands for: a number or an infinity. -/
theorem word_forms {x : Nat} (h : notNan x) : (∃ s c q, Canon c q ∧ q ≤ 971 ∧ Ieee.double.read x = .number s c q ∧ skey x = if s then -(rungOf c q : Int) else rungOf c q) ∨ (∃ s, Ieee.double.read x = .infinity s ∧ skey x = if s then -9218868437227405312 else 9218868437227405312) := by
  obtain ⟨h1, h2⟩ := h
  by_cases e : x % 9223372036854775808 < 9218868437227405312
  · obtain ⟨c, q, k1, k2, k3, k4⟩ := fv_of e h1
    obtain ⟨d, p, l1, l2, l3, l4, l5⟩ := FV.read ⟨c, q, SameD.refl _ _, k1, k2, k3⟩
    obtain ⟨rfl, rfl⟩ := canon_same2 l1 k1 l2
    refine .inl ⟨_, c, q, k1, k2, l5, ?_⟩
    have := rung_lt k1 k2
    have e2 := skey_word (decide (9223372036854775808 ≤ x)) (show rungOf c q < 9223372036854775808 by omega)
    rw [← k3] at e2
    exact e2
  · refine .inr ⟨decide (9223372036854775808 ≤ x), ?_, ?_⟩
    · unfold Format.read
      rw [f_sign, f_binade, f_inf]
      rw [if_neg (by omega), if_neg e, if_pos (by omega)]
      congr 1
      by_cases k : 9223372036854775808 ≤ x
      · rw [show x / 9223372036854775808 = 1 by omega]; simp [k]
      · rw [show x / 9223372036854775808 = 0 by omega]; simp [k]
    · unfold skey
      by_cases k : 9223372036854775808 ≤ x
      · simp only [k, decide_true, if_true]; rw [if_neg (by omega)]; omega
      · simp only [k, decide_false, Bool.false_eq_true, if_false]; rw [if_pos (by omega)]; omega
theorem signed_cmp {s t : Bool} {m n : Nat} {i j : Int} (hm : Canon m i) (hn : Canon n j) (base : Int) (hb : base = min i j) :
    compare (signed s m (i - base).toNat) (signed t n (j - base).toNat) = compare (if s then -(rungOf m i : Int) else rungOf m i) (if t then -(rungOf n j : Int) else rungOf n j) := by
  have h1 := canon_cmp hm hn base hb
  have h2 := canon_cmp hn hm base (by omega)
  have z1 : m * 2 ^ (i - base).toNat = 0 ↔ rungOf m i = 0 := by
    have hp := n_pow_pos (i - base).toNat
    constructor
    · intro h
      rcases Nat.mul_eq_zero.1 h with h | h
      · subst h; rw [canon_zero hm]; rfl
      · omega
    · intro h
      have : m = 0 := by unfold rungOf at h; omega
      simp [this]
  have z2 : n * 2 ^ (j - base).toNat = 0 ↔ rungOf n j = 0 := by
    have hp := n_pow_pos (j - base).toNat
    constructor
    · intro h
      rcases Nat.mul_eq_zero.1 h with h | h
      · subst h; rw [canon_zero hn]; rfl
      · omega
    · intro h
      have : n = 0 := by unfold rungOf at h; omega
      simp [this]
  unfold signed
  rw [Nat.shiftLeft_eq, Nat.shiftLeft_eq]
  generalize m * 2 ^ (i - base).toNat = A at *
  generalize n * 2 ^ (j - base).toNat = B at *
  generalize rungOf m i = C at *
  generalize rungOf n j = D at *
  cases s <;> cases t <;> simp only [Bool.false_eq_true, if_false, if_true] <;> apply cmp_int <;> omega
theorem order_key {x y : Nat} (hx : notNan x) (hy : notNan y) : Ieee.double.order x y = some (compare (skey x) (skey y)) := by
  unfold Format.order
  rcases word_forms hx with ⟨s, m, i, h1, h2, h3, h4⟩ | ⟨s, h3, h4⟩ <;> rcases word_forms hy with ⟨t, n, j, k1, k2, k3, k4⟩ | ⟨t, k3, k4⟩ <;> rw [h3, k3, h4, k4]
  · simp only [Datum.order]
    rw [signed_cmp h1 k1 _ rfl]
  · have r := rung_lt h1 h2
    simp only [Datum.order]
    generalize rungOf m i = R at *
    congr 1
    show _ = compareOfLessAndEq _ _
    unfold compareOfLessAndEq
    cases s <;> cases t <;> simp only [Bool.false_eq_true, if_false, if_true]
    · rw [if_pos (by omega)]
    · rw [if_neg (by omega), if_neg (by omega)]
    · rw [if_pos (by omega)]
    · rw [if_neg (by omega), if_neg (by omega)]
  · have r := rung_lt k1 k2
    simp only [Datum.order]
    generalize rungOf n j = R at *
    congr 1
    show _ = compareOfLessAndEq _ _
    unfold compareOfLessAndEq
    cases s <;> cases t <;> simp only [Bool.false_eq_true, if_false, if_true]
    · rw [if_neg (by omega), if_neg (by omega)]
    · rw [if_neg (by omega), if_neg (by omega)]
    · rw [if_pos (by omega)]
    · rw [if_pos (by omega)]
  · cases s <;> cases t <;> rfl
theorem nan_read {x : Nat} (h : ¬ x % 9223372036854775808 ≤ 9218868437227405312) : ∃ s t, Ieee.double.read x = .nan s t := by
  refine ⟨x / 9223372036854775808 % 2 == 1, x % 9223372036854775808 - 9218868437227405312, ?_⟩
  unfold Format.read
  rw [f_sign, f_binade, f_inf]
  rw [if_neg (by omega), if_neg (by omega), if_neg (by omega)]
theorem order_nan_left {x : Nat} (h : ¬ x % 9223372036854775808 ≤ 9218868437227405312) (y : Nat) : Ieee.double.order x y = none := by
  obtain ⟨s, t, e⟩ := nan_read h
  unfold Format.order
  rw [e]; rfl
theorem order_nan_right {y : Nat} (h : ¬ y % 9223372036854775808 ≤ 9218868437227405312) (x : Nat) : Ieee.double.order x y = none := by
  obtain ⟨s, t, e⟩ := nan_read h
  unfold Format.order
  rw [e]; cases Ieee.double.read x <;> rfl
end Go.Proofs.YtpfcacjcikhamaaDoor
