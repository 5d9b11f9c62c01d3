/- Join of package flo, and the examples of its chapter. -/
import Derived.Test.YtdnbjaeeebodkaaGreatFlom
import Derived.Test.YtdnbjaeeebodkaaGreatLaid2
namespace Go.Proofs.YtdnbjaeeebodkaaGreat
set_option maxRecDepth 100000
open Go.RowKit Go.ChangeShapes Go.WideShapes Go.ChangeAt
set_option linter.unusedVariables false
theorem nearW_le (z : Nat) (e : Int) : nearW z e ≤ 9218868437227405312 := by
  unfold nearW
  by_cases h1 : z = 0 ∨ e + bitsZ z < -1074
  · rw [if_pos h1]; omega
  · rw [if_neg h1]
    by_cases h2 : 1024 < e + bitsZ z
    · rw [if_pos h2]; omega
    · rw [if_neg h2]
      obtain ⟨f1, f2, f3, -, -⟩ := near_facts (z := z) (L := bitsZ z) (e := e) (bits_lt_nat (fun h => h1 (.inl h))) (by omega) (by omega)
      rcases isFl_near f1 f2 f3 with ⟨q1, q2⟩ | ⟨q1, d, p, k1, k2, k3, k4⟩ | ⟨q1, q2, q3⟩
      · rw [q2]; omega
      · rw [k4]; have := rung_lt k2 k3; exact Nat.le_of_lt this
      · rw [q3]; omega
theorem six_canon : Canon 6755399441055744 (-50) := ⟨by decide, by decide, .inl (by decide)⟩
theorem six_split : IsSplit 6755399441055744 (-50) 3 1 := ⟨by decide, by decide, ⟨51, .inl ⟨by decide, by decide⟩⟩, by decide⟩
end Go.Proofs.YtdnbjaeeebodkaaGreat
