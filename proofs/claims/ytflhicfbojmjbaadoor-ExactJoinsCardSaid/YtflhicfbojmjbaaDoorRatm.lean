/- Package ratio: means and deviations. -/
import Derived.Test.YtflhicfbojmjbaaDoorRatq
import Derived.Test.YtflhicfbojmjbaaDoorNatr
import Derived.Test.YtflhicfbojmjbaaDoorRefs
namespace Go.Proofs.YtflhicfbojmjbaaDoor
set_option maxRecDepth 100000
open Go.RowKit
set_option linter.unusedVariables false
theorem isRoo_of {p q h N r x : Nat} (hq : 0 < q) (hN : N = p * 2 ^ (2 * h) / q) (h1 : r * r ≤ N) (h2 : N < (r + 1) * (r + 1)) (hx : x = if p * 2 ^ (2 * h) % q = 0 ∧ r * r = N then 0 else 1) : IsRoo p q h r x := by
  unfold IsRoo
  have hdm := Nat.div_add_mod (p * 2 ^ (2 * h)) q
  have hlt := Nat.mod_lt (p * 2 ^ (2 * h)) hq
  rw [← hN] at hdm
  generalize p * 2 ^ (2 * h) = A at *
  generalize A % q = t at *
  have k1 : r * r * q ≤ q * N := by rw [Nat.mul_comm]; exact Nat.mul_le_mul_left q h1
  have k2 : q * (N + 1) ≤ (r + 1) * (r + 1) * q := by rw [Nat.mul_comm]; exact Nat.mul_le_mul_right q h2
  rw [Nat.mul_add] at k2
  refine ⟨by omega, by omega, ?_⟩
  by_cases hc : t = 0 ∧ r * r = N
  · rw [if_pos hc] at hx
    refine .inl ⟨hx, ?_⟩
    rw [hc.2, Nat.mul_comm]; omega
  · rw [if_neg hc] at hx
    refine .inr ⟨hx, ?_⟩
    by_cases ht : t = 0
    · have h3 : r * r < N := by
        have : r * r ≠ N := fun e => hc ⟨ht, e⟩
        omega
      have h4 : r * r * q < N * q := Nat.mul_lt_mul_of_pos_right h3 hq
      rw [Nat.mul_comm N q] at h4
      omega
    · omega
theorem isRoot_nat {N : Nat} {s : Int} (h : IsRoot (N : Int) s) : ∃ r : Nat, s = r ∧ r * r ≤ N ∧ N < (r + 1) * (r + 1) := by
  obtain ⟨h0, h1, h2⟩ := h
  obtain ⟨r, rfl⟩ := Int.eq_ofNat_of_zero_le h0
  refine ⟨r, rfl, by rw [← Int.natCast_mul] at h1; omega, ?_⟩
  have e : ((r : Int) + 1) * (r + 1) = (((r + 1) * (r + 1) : Nat) : Int) := by simp
  rw [e] at h2; omega
theorem root_long {N r : Nat} (hN : 2 ^ 106 ≤ N) (h : N < (r + 1) * (r + 1)) : 2 ^ 53 ≤ r := by
  apply Classical.byContradiction
  intro hh
  have h1 : r + 1 ≤ 2 ^ 53 := by omega
  have h2 := Nat.mul_le_mul h1 h1
  rw [← Nat.pow_add] at h2
  omega
theorem root_short {p q h r x K N : Nat} (g : IsRoo p q h r x) (hq : 0 < q) (lp : bitsZ (p : Int) ≤ N) (hK : N ≤ 2 * K) : r < 2 ^ (K + h) := by
  have hp : p < 2 ^ (2 * K) := lt_bits (Nat.le_trans lp hK)
  apply Classical.byContradiction
  intro hh
  have h1 : 2 ^ (K + h) ≤ r := by omega
  have h2 := Nat.mul_le_mul h1 h1
  rw [← Nat.pow_add] at h2
  have h3 : r * r * 1 ≤ r * r * q := Nat.mul_le_mul_left _ hq
  have h4 : p * 2 ^ (2 * h) < 2 ^ (2 * K) * 2 ^ (2 * h) := Nat.mul_lt_mul_of_pos_right hp (n_pow_pos _)
  rw [← Nat.pow_add, show 2 * K + 2 * h = K + h + (K + h) by omega] at h4
  have := g.1
  omega
/-- What Root answers where it works the root out. -/
def RootAns (p q R : Nat) : Prop := ∃ h r x, IsRoo p q h r x ∧ 2 ^ 53 ≤ r ∧ (bitsZ (r : Int) : Int) - h - 53 ≤ 1600 ∧ R = nearW (2 * r + x) (-(h : Int) - 1)
def RootRes (p q R : Nat) : Prop := ((p = 0 ∨ q = 0) ∧ R = extW (p : Int) (q : Int)) ∨ (p ≠ 0 ∧ q ≠ 0 ∧ RootAns p q R)
def RootPost4 (p q : Nat) (w : World) (r : Ending) (w' : World) : Prop := (∃ R, RootRes p q R ∧ r = .returned (.float .f64 R)) ∧ Below w.heap.size w w'
theorem half_root (t N r : Nat) : halfB (decide ((t : Int) = 0) && (cmpI ((r : Int) * r) (N : Int) == 0)) = if t = 0 ∧ r * r = N then 0 else 1 := by
  rw [← Int.natCast_mul, cmp_eq_zero]
  unfold halfB
  by_cases h1 : t = 0 <;> by_cases h2 : r * r = N <;> simp [h1, h2]
set_option maxRecDepth 100000
open Go.RowKit
set_option linter.unusedVariables false
def meanNeg (s n : Int) : Bool := decide (s ≠ 0) && (decide (s < 0) != decide (n < 0))
theorem bits64 {x : Int} (h1 : -9223372036854775808 ≤ x) (h2 : x ≤ 9223372036854775807) : bitsZ (x.natAbs : Int) ≤ 64 := by
  by_cases h0 : x.natAbs = 0
  · rw [h0]; decide
  · have h64 : (2 : Nat) ^ 64 = 18446744073709551616 := by decide
    exact bits_upto h0 (by omega)
/-- What Dev answers. -/
def DevRes (n s : Int) (S R : Nat) : Prop := ((n < 1 ∨ 1000 < bitsZ (S : Int)) ∧ R = 9221120237041090561) ∨ (1 ≤ n ∧ bitsZ (S : Int) ≤ 1000 ∧ n * S < s * s ∧ R = 9221120237041090561) ∨ (1 ≤ n ∧ bitsZ (S : Int) ≤ 1000 ∧ ∃ D : Nat, (D : Int) = n * S - s * s ∧ RootRes D (n.natAbs * n.natAbs) R)
def DevPost (n s : Int) (S : Nat) (w : World) (r : Ending) (w' : World) : Prop := (∃ R, DevRes n s S R ∧ r = .returned (.float .f64 R)) ∧ Below w.heap.size w w'
theorem bits_prod {a b M N K : Nat} (ha : bitsZ (a : Int) ≤ M) (hb : bitsZ (b : Int) ≤ N) (hK : M + N ≤ K) : bitsZ ((a * b : Nat) : Int) ≤ K := by
  by_cases h0 : a * b = 0
  · rw [h0]; exact Nat.zero_le _
  · have h1 := lt_bits ha
    have h2 := lt_bits hb
    refine bits_upto h0 ?_
    have h3 : a * b < 2 ^ M * 2 ^ N := Nat.mul_lt_mul'' h1 h2
    rw [← Nat.pow_add] at h3
    exact Nat.lt_of_lt_of_le h3 (Nat.pow_le_pow_right (by decide) hK)
theorem bits_mono {a b : Nat} (h : a ≤ b) : bitsZ (a : Int) ≤ bitsZ (b : Int) := by
  by_cases h0 : a = 0
  · rw [h0]; exact Nat.zero_le _
  · exact bits_upto h0 (Nat.lt_of_le_of_lt h (bits_lt_nat (by omega)))
theorem sq_abs (s : Int) : ((s.natAbs : Int) * (s.natAbs : Int)) = s * s := Int.natAbs_mul_self
end Go.Proofs.YtflhicfbojmjbaaDoor
