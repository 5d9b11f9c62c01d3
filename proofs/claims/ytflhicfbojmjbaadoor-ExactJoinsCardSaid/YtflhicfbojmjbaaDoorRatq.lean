/- Package ratio: quotients, roots, means and deviations. -/
import Derived.Test.YtflhicfbojmjbaaDoorRoob
import Derived.Test.YtflhicfbojmjbaaDoorLongf
import Derived.Test.YtflhicfbojmjbaaDoorFlon
import Derived.Deep.RegionWith
import Derived.Outline
namespace Go.Proofs.YtflhicfbojmjbaaDoor
set_option maxRecDepth 100000
open Go.RowKit
set_option linter.unusedVariables false
theorem bits_nil {z : Int} (h : 0 ≤ z) : bitsZ z = 0 ↔ z = 0 := by
  constructor
  · intro h1
    apply Classical.byContradiction
    intro h2
    have := bitsZ_pos (z := z) (by omega)
    omega
  · intro h1; rw [h1]; rfl
/-- The float of a quotient that isn't worked out, and whether it is one. -/
def extW (a b : Int) : Nat := if b = 0 then (if a = 0 then 9221120237041090561 else 9218868437227405312) else 0
def extB (a b : Int) : Bool := decide (a = 0) || decide (b = 0)
theorem ret_fb {a b : Nat} {c d : Bool} (h : a = b) (k : c = d) : Ending.returned (.tuple #[.float .f64 a, .bool c]) = .returned (.tuple #[.float .f64 b, .bool d]) := by rw [h, k]
theorem isNat_len {w : World} {p : Option Addr} {l c : Nat} {z : Int} (h : IsNat w (.slice p l c) z) : l = 0 ↔ z = 0 := by
  obtain ⟨a, h1, h2, h3⟩ := h
  obtain ⟨p', c', e⟩ := h1.shape
  simp only [Value.slice.injEq] at e
  have el : l = a.length := e.2.1
  constructor
  · intro h0
    have : a = [] := List.length_eq_zero_iff.1 (by omega)
    subst this; rw [← h3]; rfl
  · intro h0
    apply Classical.byContradiction
    intro hh
    have hne : a ≠ [] := fun e => hh (by rw [el, e]; rfl)
    have h4 := h2.wsize h1.2.1 hne
    have := q_pos (a.length - 1)
    omega
theorem isNat_shape {w : World} {v : Value} {z : Int} (h : IsNat w v z) : ∃ p l c, v = .slice p l c := by
  obtain ⟨a, h1, _⟩ := h
  obtain ⟨p, c, e⟩ := h1.shape
  exact ⟨p, _, c, e⟩
def DivideP (w : World) (z : Int) (ex : Bool) (e : Ending) (w' : World) : Prop := ∃ q, e = .returned (.tuple #[q, .bool ex]) ∧ IsNat w' q z ∧ Below w.heap.size w w'
theorem ret_vb {a : Value} {c d : Bool} (k : c = d) : Ending.returned (.tuple #[a, .bool c]) = .returned (.tuple #[a, .bool d]) := by rw [k]
theorem sign_pos (x : Nat) : signN false x = x := by unfold signN; exact if_neg (by decide)
def halfB (x : Bool) : Nat := if x then 0 else 1
set_option maxRecDepth 100000
open Go.RowKit
set_option linter.unusedVariables false
theorem nat_list {w : World} {v : Value} {z : Int} (h : IsNat w v z) {n : Nat} (hz : z < 4294967296 ^ n) : ∃ a, WList w v a ∧ a.length ≤ n ∧ wv a = z := by
  obtain ⟨a, h1, h2, rfl⟩ := h
  exact ⟨a, h1, h2.wlen h1.2.1 hz, rfl⟩
theorem words_two (n : Nat) : (4294967296 : Int) ^ n = 2 ^ (32 * n) := by
  rw [show (4294967296 : Int) = 2 ^ 32 by decide, ← Int.pow_mul]
theorem nat_list2 {w : World} {v : Value} {z : Nat} (h : IsNat w v (z : Int)) {n : Nat} (hz : z < 2 ^ (32 * n)) : ∃ a, WList w v a ∧ a.length ≤ n ∧ wv a = (z : Int) := by
  refine nat_list h ?_
  rw [words_two]
  have : ((2 ^ (32 * n) : Nat) : Int) = (2 : Int) ^ (32 * n) := by simp
  omega
theorem bits_low {z : Nat} (h0 : z ≠ 0) : 2 ^ (bitsZ (z : Int) - 1) ≤ z := by
  have h1 := lt_two_iff h0 (bitsZ (z : Int) - 1)
  have h2 := bitsZ_pos (z := (z : Int)) (by omega)
  apply Classical.byContradiction
  intro hh
  have := h1.1 (by omega)
  omega
/-- The quotient is long enough. -/
theorem quo_long {p q s n : Nat} (hp : p ≠ 0) (hq : q ≠ 0) (hs : (n : Int) + 1 + bitsZ (q : Int) - bitsZ (p : Int) ≤ s) : 2 ^ n ≤ p * 2 ^ s / q := by
  rw [Nat.le_div_iff_mul_le (by omega)]
  have h1 := bits_low hp
  have h2 := Nat.le_of_lt (bits_lt_nat hq)
  have h3 := bitsZ_pos (z := (p : Int)) (by omega)
  have h4 : 2 ^ n * q ≤ 2 ^ n * 2 ^ bitsZ (q : Int) := Nat.mul_le_mul_left _ h2
  have h5 : 2 ^ (bitsZ (p : Int) - 1) * 2 ^ s ≤ p * 2 ^ s := Nat.mul_le_mul_right _ h1
  rw [← Nat.pow_add] at h4 h5
  have h6 : 2 ^ (n + bitsZ (q : Int)) ≤ 2 ^ (bitsZ (p : Int) - 1 + s) := Nat.pow_le_pow_right (by decide) (by omega)
  omega
theorem lt_bits {p N : Nat} (hb : bitsZ (p : Int) ≤ N) : p < 2 ^ N := by
  by_cases h0 : p = 0
  · rw [h0]; exact n_pow_pos _
  · exact (lt_two_iff h0 N).2 hb
theorem div_short {p q s N K : Nat} (hb : bitsZ (p : Int) ≤ N) (hs : N + s ≤ K) : p * 2 ^ s / q < 2 ^ K := by
  have h1 := lt_bits hb
  have h2 : p * 2 ^ s < 2 ^ N * 2 ^ s := Nat.mul_lt_mul_of_pos_right h1 (n_pow_pos s)
  rw [← Nat.pow_add] at h2
  have h3 : 2 ^ (N + s) ≤ 2 ^ K := Nat.pow_le_pow_right (by decide) hs
  have h4 := Nat.div_le_self (p * 2 ^ s) q
  omega
def quoN (p q : Nat) : Nat := if p = 0 ∨ q = 0 then extW (p : Int) (q : Int) else nearQ p q 0
theorem ext_le (a b : Int) : extW a b ≤ 9221120237041090561 := by unfold extW; split <;> (try split) <;> omega
theorem div_cast (p q s : Nat) : (p : Int) * 2 ^ s / (q : Int) = ((p * 2 ^ s / q : Nat) : Int) ∧ (p : Int) * 2 ^ s % (q : Int) = ((p * 2 ^ s % q : Nat) : Int) := by
  have e : (p : Int) * 2 ^ s = ((p * 2 ^ s : Nat) : Int) := by simp
  rw [e, Int.natCast_ediv, Int.natCast_emod]; exact ⟨rfl, rfl⟩
theorem half_left (A B : Nat) : halfB (decide (((A % B : Nat) : Int) = 0)) = leftB A B := by
  unfold halfB leftB
  by_cases h : A % B = 0
  · rw [if_pos (by simp [h]), if_pos h]
  · rw [if_neg (by simp; omega), if_neg h]
theorem nearQ_le {p q : Nat} (hp : p ≠ 0) (hq : q ≠ 0) : nearQ p q 0 ≤ 9218868437227405312 := by
  obtain ⟨s, hs⟩ : ∃ s : Nat, (53 : Nat) + 1 + (bitsZ (q : Int) : Int) - bitsZ (p : Int) ≤ s := ⟨54 + bitsZ (q : Int), by omega⟩
  rw [← near_quo (s := (s : Int)) (.inl ⟨by omega, by rw [Int.toNat_natCast], rfl⟩) (by omega) (quo_long hp hq hs)]
  exact nearW_le _ _
theorem quoN_le (p q : Nat) : quoN p q ≤ 9221120237041090561 := by
  unfold quoN
  by_cases h : p = 0 ∨ q = 0
  · rw [if_pos h]; exact ext_le _ _
  · rw [if_neg h]; have := nearQ_le (p := p) (q := q) (fun e => h (.inl e)) (fun e => h (.inr e)); omega
end Go.Proofs.YtflhicfbojmjbaaDoor
