/- Contracts that the law leans on, pruned and merged: Awake4. -/
import Derived.Test.YtigikgphipebiaaGreatDoorOn12
import Derived.Test.YtigikgphipebiaaGreatDoorOn13
import Derived.Test.YtigikgphipebiaaGreatDoorOn16
/- The examples of the chapter on ratio. -/
namespace Go.Proofs.YtigikgphipebiaaGreatDoor
set_option maxRecDepth 100000
open Go.RowKit
set_option linter.unusedVariables false
theorem same_val {c d : Nat} {q p b : Int} (h : SameD c q d p) (hq : b ≤ q) (hp : b ≤ p) : c * 2 ^ (q - b).toNat = d * 2 ^ (p - b).toNat := by
  obtain ⟨k, ⟨h1, h2⟩ | ⟨h1, h2⟩⟩ := h
  · rw [h2, show (q - b).toNat = k + (p - b).toNat by omega, Nat.pow_add, Nat.mul_assoc]
  · rw [h2, show (p - b).toNat = k + (q - b).toNat by omega, Nat.pow_add, Nat.mul_assoc]
theorem FV.mono {R S c d : Nat} {q : Int} (h : FV false R c q) (k : FV false S d q) (hcd : c ≤ d) : R ≤ S := by
  obtain ⟨c1, q1, s1, k1, l1, rfl⟩ := h
  obtain ⟨d1, p1, s2, k2, l2, rfl⟩ := k
  show rungOf c1 q1 ≤ rungOf d1 p1
  apply Nat.le_of_not_lt
  intro hlt
  obtain ⟨b, hb⟩ : ∃ b : Int, b = min (min p1 q1) q := ⟨_, rfl⟩
  obtain ⟨m, hm⟩ : ∃ m : Int, m = min p1 q1 := ⟨_, rfl⟩
  have h1 := (canon_cmp k2 k1 m hm).2 hlt
  have h2 := same_val s1 (b := b) (by omega) (by omega)
  have h3 := same_val s2 (b := b) (by omega) (by omega)
  obtain ⟨t, ht⟩ := Int.eq_ofNat_of_zero_le (a := m - b) (by omega)
  have h4 : d1 * 2 ^ (p1 - b).toNat < c1 * 2 ^ (q1 - b).toNat := by
    rw [show (p1 - b).toNat = (p1 - m).toNat + t by omega, show (q1 - b).toNat = (q1 - m).toNat + t by omega, Nat.pow_add, Nat.pow_add, ← Nat.mul_assoc, ← Nat.mul_assoc]
    exact Nat.mul_lt_mul_of_pos_right h1 (n_pow_pos t)
  rw [← h2, ← h3] at h4
  have := Nat.mul_le_mul_right (2 ^ (q - b).toNat) hcd
  omega
set_option maxRecDepth 100000
open Go.RowKit
set_option linter.unusedVariables false
/-- The sum of the squares of the distances from y. -/
def away (k : Int) (s1 s2 y : Int) : Int := s2 - 2 * y * s1 + k * (y * y)
def spread (k s1 s2 : Int) : Int := k * s2 - s1 * s1
/-- What holds of k numbers. -/
def Stat (k : Nat) (s1 s2 lo hi : Int) : Prop :=
  lo ≤ hi ∧ lo * k ≤ s1 ∧ s1 ≤ hi * k ∧ (k = 0 → lo = hi) ∧ 0 ≤ spread k s1 s2 ∧ (spread k s1 s2 = 0 ↔ lo = hi) ∧ spread k s1 s2 ≤ (hi - lo) * (hi - lo) * (k * k) ∧
  (∀ y, 0 ≤ away k s1 s2 y ∧ (away k s1 s2 y = 0 → k = 0 ∨ (lo = y ∧ hi = y)) ∧ (lo = y → hi = y → away k s1 s2 y = 0) ∧ (∀ M, 0 ≤ M → -M ≤ lo - y → hi - y ≤ M → away k s1 s2 y ≤ k * (M * M)))
theorem Stat.start (x : Int) : Stat 0 0 0 x x := by
  have e1 : spread (0 : Nat) 0 0 = 0 := by decide
  have e2 : ∀ y, away (0 : Nat) 0 0 y = 0 := fun y => by unfold away; simp
  refine ⟨Int.le_refl _, by simp, by simp, fun _ => rfl, by omega, ⟨fun _ => rfl, fun _ => e1⟩, by rw [e1]; simp, fun y => ?_⟩
  rw [e2]
  exact ⟨by omega, fun _ => .inl rfl, fun _ _ => rfl, fun M _ _ _ => by simp⟩
theorem away_step (k s1 s2 x y : Int) : away (k + 1) (s1 + x) (s2 + x * x) y = away k s1 s2 y + (x - y) * (x - y) := by unfold away; grind
theorem spread_step (k s1 s2 x : Int) : spread (k + 1) (s1 + x) (s2 + x * x) = spread k s1 s2 + away k s1 s2 x := by unfold spread away; grind
theorem sq_zero {a : Int} (h : a * a = 0) : a = 0 := by rcases Int.mul_eq_zero.1 h with h | h <;> exact h
theorem sq_nonneg (a : Int) : 0 ≤ a * a := by
  have := Int.natAbs_mul_self (a := a)
  omega
theorem sq_le {a M : Int} (h1 : -M ≤ a) (h2 : a ≤ M) : a * a ≤ M * M := by
  have h3 : a.natAbs ≤ M.natAbs := by omega
  have h4 := Nat.mul_le_mul h3 h3
  have e1 := Int.natAbs_mul_self (a := a)
  have e2 := Int.natAbs_mul_self (a := M)
  omega
theorem Stat.step {k : Nat} {s1 s2 lo hi x : Int} (h : Stat k s1 s2 lo hi) (hx : k = 0 → x = lo) : Stat (k + 1) (s1 + x) (s2 + x * x) (min lo x) (max hi x) := by
  obtain ⟨h1, h2, h3, h0, h4, h5, h6, h7⟩ := h
  have hk : ((k + 1 : Nat) : Int) = (k : Int) + 1 := by omega
  obtain ⟨a1, a2, a3, a4⟩ := h7 x
  have hmin : min lo x ≤ lo ∧ min lo x ≤ x := by omega
  have hmax : hi ≤ max hi x ∧ x ≤ max hi x := by omega
  have hk0 : (0 : Int) ≤ k := by omega
  refine ⟨by omega, ?_, ?_, fun e => by omega, ?_, ?_, ?_, fun y => ?_⟩
  · rw [hk, Int.mul_add, Int.mul_one]
    have := Int.mul_le_mul_of_nonneg_right hmin.1 hk0
    omega
  · rw [hk, Int.mul_add, Int.mul_one]
    have := Int.mul_le_mul_of_nonneg_right hmax.1 hk0
    omega
  · rw [hk, spread_step]; omega
  · rw [hk, spread_step]
    constructor
    · intro e
      have e1 : lo = hi := h5.1 (by omega)
      rcases a2 (by omega) with e2 | ⟨e2, e3⟩
      · have := hx e2; omega
      · omega
    · intro e
      have e1 : lo = hi := by omega
      have e2 : lo = x := by omega
      have := h5.2 e1
      have := a3 e2 (by omega)
      omega
  · rw [hk, spread_step]
    have hW : 0 ≤ max hi x - min lo x := by omega
    have b1 := a4 (max hi x - min lo x) hW (by omega) (by omega)
    have b2 : (hi - lo) * (hi - lo) ≤ (max hi x - min lo x) * (max hi x - min lo x) := Int.mul_le_mul (by omega) (by omega) (by omega) hW
    have b3 := Int.mul_le_mul_of_nonneg_right b2 (Int.mul_nonneg hk0 hk0)
    have b4 : (max hi x - min lo x) * (max hi x - min lo x) * (((k : Int) + 1) * (k + 1)) = (max hi x - min lo x) * (max hi x - min lo x) * (k * k) + k * ((max hi x - min lo x) * (max hi x - min lo x)) + k * ((max hi x - min lo x) * (max hi x - min lo x)) + (max hi x - min lo x) * (max hi x - min lo x) := by grind
    have b5 := sq_nonneg (max hi x - min lo x)
    have b6 := Int.mul_nonneg hk0 b5
    omega
  · rw [hk, away_step]
    obtain ⟨c1, c2, c3, c4⟩ := h7 y
    have d1 := sq_nonneg (x - y)
    refine ⟨by omega, fun e => .inr ?_, fun e1 e2 => ?_, fun M m0 m1 m2 => ?_⟩
    · have e1 := sq_zero (a := x - y) (by omega)
      rcases c2 (by omega) with e2 | ⟨e2, e3⟩
      · have := hx e2
        have := h0 e2
        omega
      · omega
    · have e3 : lo = y := by omega
      have e4 : hi = y := by omega
      have e5 : x - y = 0 := by omega
      rw [c3 e3 e4, e5]; rfl
    · have f1 := c4 M m0 (by omega) (by omega)
      have f2 := sq_le (a := x - y) (M := M) (by omega) (by omega)
      rw [Int.add_mul, Int.one_mul]
      omega
set_option maxRecDepth 100000
open Go.RowKit
set_option linter.unusedVariables false
end Go.Proofs.YtigikgphipebiaaGreatDoor
