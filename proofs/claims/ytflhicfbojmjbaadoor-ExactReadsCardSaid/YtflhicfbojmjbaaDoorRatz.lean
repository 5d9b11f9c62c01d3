/- What package ratio and its reference answer is the same. -/
import Derived.Test.YtflhicfbojmjbaaDoorRefv
import Derived.Test.YtflhicfbojmjbaaDoorAwake4
namespace Go.Proofs.YtflhicfbojmjbaaDoor
set_option maxRecDepth 100000
open Go.RowKit
set_option linter.unusedVariables false
theorem same_self (x : Nat) : sameB x x = true := by unfold sameB; simp
theorem nan_same {x y : Nat} (hx : W64 x) (hy : W64 y) (h : isNaNB x = true) (k : isNaNB y = true) : sameB x y = true := by
  rw [same_nan hx hy (.inl h), h, k]; rfl
theorem nan_w64 : W64 9221120237041090561 := by decide
theorem nan_is : isNaNB 9221120237041090561 = true := by decide
theorem ext_w64 (a b : Int) : W64 (extW a b) := by have := ext_le a b; unfold W64; omega
theorem float_inj {x y : Nat} (h : Ending.returned (.float .f64 x) = .returned (.float .f64 y)) : x = y := by
  simp only [Ending.returned.injEq, Value.float.injEq] at h
  exact h.2
theorem root_same {p q R1 R2 : Nat} {w w' : World} (h1 : RootRes p q R1) (h2 : RRootPost p q w (.returned (.float .f64 R2)) w') : sameB R1 R2 = true ∧ W64 R1 ∧ W64 R2 := by
  rcases h1 with ⟨k1, rfl⟩ | ⟨k1, k2, h, r, x, g, g1, g2, rfl⟩
  · rcases h2.1 with ⟨rfl, rfl, X, x1, x2, e⟩ | ⟨m1, m2, e⟩ | ⟨m1, m2, -⟩
    · obtain rfl := float_inj e
      have e1 : extW ((0 : Nat) : Int) ((0 : Nat) : Int) = 9221120237041090561 := by decide
      rw [e1]
      exact ⟨nan_same nan_w64 x2 nan_is x1, nan_w64, x2⟩
    · obtain rfl := float_inj e
      exact ⟨same_self _, ext_w64 _ _, ext_w64 _ _⟩
    · rcases k1 with k | k
      · exact absurd k m1
      · exact absurd k m2
  · rcases h2.1 with ⟨m1, -⟩ | ⟨-, m, e⟩ | ⟨-, -, m, hm, e⟩
    · exact absurd m1 k1
    · rcases m with m | m
      · exact absurd m k1
      · exact absurd m k2
    · obtain rfl := float_inj e
      rw [near_root g (by omega) g1 g2 hm]
      exact ⟨same_self _, nearW_w64 _ _, nearW_w64 _ _⟩
theorem sign_fits4 (b : Bool) {R : Nat} (h : W64 R) : W64 (signN b R) := by
  unfold signN
  cases b with
  | false => rw [if_neg (by decide)]; exact h
  | true => rw [if_pos rfl]; exact flip_w64 h
theorem mean_w64 (b : Bool) (p q : Nat) : W64 (signN b (quoN p q)) := sign_fits4 b (by have := quoN_le p q; unfold W64; omega)
theorem mean_same {s n : Int} {R2 : Nat} {w w' : World} (h : MeanPost s n w (.returned (.float .f64 R2)) w') : sameB (signN (meanNeg s n) (quoN s.natAbs n.natAbs)) R2 = true ∧ W64 R2 := by
  rcases h.1 with ⟨rfl, rfl, X, x1, x2, e⟩ | ⟨-, e⟩
  · obtain rfl := float_inj e
    have e1 : signN (meanNeg 0 0) (quoN (0 : Int).natAbs (0 : Int).natAbs) = 9221120237041090561 := by decide
    rw [e1]
    exact ⟨nan_same nan_w64 x2 nan_is x1, x2⟩
  · obtain rfl := float_inj e
    exact ⟨same_self _, mean_w64 _ _ _⟩
theorem mean_is_float {s n : Int} {w : World} {e : Ending} {w' : World} (h : MeanPost s n w e w') : ∃ R, e = .returned (.float .f64 R) := by
  rcases h.1 with ⟨-, -, X, -, -, h⟩ | ⟨-, h⟩ <;> exact ⟨_, h⟩
theorem dev_same {n s : Int} {S R1 R2 : Nat} {w w' : World} (h1 : DevRes n s S R1) (h2 : RDevPost n s S w (.returned (.float .f64 R2)) w') : sameB R1 R2 = true ∧ W64 R1 ∧ W64 R2 := by
  rcases h2.1 with ⟨k, X, x1, x2, e⟩ | ⟨k1, k2, D, hD, w1, hr⟩
  · obtain rfl := float_inj e
    rcases h1 with ⟨m, rfl⟩ | ⟨m1, m2, m3, rfl⟩ | ⟨m1, m2, D, hD, -⟩
    · exact ⟨nan_same nan_w64 x2 nan_is x1, nan_w64, x2⟩
    · exact ⟨nan_same nan_w64 x2 nan_is x1, nan_w64, x2⟩
    · exfalso
      rcases k with k | k | k <;> omega
  · rcases h1 with ⟨m, rfl⟩ | ⟨m1, m2, m3, rfl⟩ | ⟨m1, m2, D', hD', hq⟩
    · exfalso; omega
    · exfalso; omega
    · obtain rfl : D = D' := by omega
      exact root_same hq hr
theorem dev_is_float {n s : Int} {S : Nat} {w : World} {e : Ending} {w' : World} (h : RDevPost n s S w e w') : ∃ R, e = .returned (.float .f64 R) := by
  rcases h.1 with ⟨-, X, -, -, h⟩ | ⟨-, -, D, -, w1, h⟩
  · exact ⟨_, h⟩
  · exact root_is_float h
theorem words_nat4 {a : List Int} (hd : Wd a) : ∃ z : Nat, wv a = (z : Int) := Int.eq_ofNat_of_zero_le (wv_range hd).1
theorem bits_words4 {a : List Int} {z n : Nat} (hd : Wd a) (hz : wv a = (z : Int)) (hn : a.length ≤ n) : bitsZ (z : Int) ≤ n * 32 := by
  by_cases h : z = 0
  · subst h; exact Nat.zero_le _
  · have := bits_words hd (by omega)
    rw [hz] at this
    have := Nat.mul_le_mul_right 32 hn
    omega
end Go.Proofs.YtflhicfbojmjbaaDoor
