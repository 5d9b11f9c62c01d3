/- The mean of numbers that are all the same. -/
import Derived.Test.YtboinjkeaffboaaDoorExk
namespace Go.Proofs.YtboinjkeaffboaaDoor
set_option maxRecDepth 100000
open Go.RowKit
set_option linter.unusedVariables false
theorem ord_one {x y : Nat} (hx : W64 x) (hy : W64 y) (kx : kindI x = 1) (ky : kindI y = 1) : (FloatKind.f64.format.order x y == some .eq) = decide (x = y) := by
  obtain ⟨n1, -, -, p1, -⟩ := kind_one hx kx
  obtain ⟨n2, -, -, p2, -⟩ := kind_one hy ky
  rw [ord_eq (notNan_of hx n1) (notNan_of hy n2), decide_eq_decide]
  unfold W64 at hx hy
  unfold skey
  split <;> split <;> omega
theorem totT_rep (x : Nat) : ∀ n : Nat, totT (List.replicate n x) = n * unitsI x
  | 0 => by simp [totT]
  | n + 1 => by rw [List.replicate_succ', totT_snoc, totT_rep x n]; push_cast; rw [Int.add_mul, Int.one_mul]
theorem totF_rep (x : Nat) : ∀ n : Nat, totF (List.replicate (n + 1) x) = flagN x
  | 0 => by simp [totF]
  | n + 1 => by rw [List.replicate_succ', totF_snoc, totF_rep x n, Nat.or_self]
theorem all_same {xs : List Nat} (h : ∀ j, j < xs.length → xs.getD j 0 = xs.getD 0 0) : xs = List.replicate xs.length (xs.getD 0 0) := by
  apply List.ext_getElem
  · simp
  · intro i h1 h2
    have := h i h1
    rw [List.getD, List.getElem?_eq_getElem h1] at this
    simpa using this
theorem mean_equal {x n : Nat} (hx : W64 x) (hk : kindI x = 1) (hn : 0 < n) : meanW (totF (List.replicate n x)) (totT (List.replicate n x)) n = x := by
  obtain ⟨m, rfl⟩ : ∃ m, n = m + 1 := ⟨n - 1, by omega⟩
  rw [totT_rep, totF_rep, flag_one hx hk]
  obtain ⟨-, -, -, p1, p2⟩ := kind_one hx hk
  obtain ⟨e1, e2⟩ := near_float (by omega) p2
  have hu : unitsI x = signed (negB x) (unitsN (x % 9223372036854775808) : Nat) := by unfold unitsI; rw [if_pos hk]
  generalize hU : unitsN (x % 9223372036854775808) = U at *
  have hab : (((m + 1 : Nat) : Int) * unitsI x).natAbs = (m + 1) * U := by rw [Int.natAbs_mul, hu, signed_abs, Int.natAbs_natCast]
  have hne : ((m + 1 : Nat) : Int) * unitsI x ≠ 0 := by
    intro e
    rw [e] at hab
    have h0 : 0 < (m + 1) * U := Nat.mul_pos (by omega) (by omega)
    simp at hab
    omega
  have hsg : decide (((m + 1 : Nat) : Int) * unitsI x < 0) = negB x := by
    rw [hu]
    cases negB x
    · have : (0 : Int) ≤ ((m + 1 : Nat) : Int) * signed false U := Int.mul_nonneg (by omega) (by simp [signed])
      rw [decide_eq_false_iff_not]; omega
    · have : ((m + 1 : Nat) : Int) * signed true U < 0 := Int.mul_neg_of_pos_of_neg (by omega) (by simp [signed]; omega)
      rw [decide_eq_true_eq]; exact this
  have hq : nearQ ((m + 1) * U) (m + 1) (-1074) = x % 9223372036854775808 := by
    have h1 := nearQ_scale (c := m + 1) (p := U) (q := 1) (e := -1074) (by omega)
    rw [Nat.mul_one] at h1
    rw [h1, nearQ_one (by omega), e1]
  unfold meanW
  rw [if_neg (by omega), if_neg (by rintro (h | h) <;> first | exact hne h | exact absurd h (by decide)), hab, hsg, Int.natAbs_natCast, hq]
  unfold W64 at hx
  unfold signN negB flipN
  by_cases c : 9223372036854775808 ≤ x
  · rw [decide_eq_true c, if_pos rfl, if_pos (by omega)]; omega
  · rw [decide_eq_false c, if_neg (by decide)]; omega
end Go.Proofs.YtboinjkeaffboaaDoor
