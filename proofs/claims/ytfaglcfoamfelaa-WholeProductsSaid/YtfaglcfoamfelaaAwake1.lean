/- The chapter's own examples: the helper that every statement of layer 1 asks at its end answers true. -/
import Derived.Test.YtfaglcfoamfelaaWhole
import Derived.WalkSmall
namespace Go.Proofs.Ytfaglcfoamfelaa
open Go.RowKit
theorem ints_awake (w : World) : Ints .i64 (w.alloc (.cells #[.int .i64 9223372036854775807, .int .i64 1, .int .i64 (-1)] 2)) (.slice (some ⟨w.heap.size, 0, none⟩) 3 3) [9223372036854775807, 1, -1] := by
  refine ⟨_, 3, rfl, by decide, .inr ⟨w.heap.size, 0, rfl, by simp, ?_⟩⟩
  intro i hi
  have : i = 0 ∨ i = 1 ∨ i = 2 := by simp at hi; omega
  rcases this with rfl | rfl | rfl <;> simp [go_sem]
theorem sum_awake (w : World) : Calls Try.prog 20 #[.slice (some ⟨w.heap.size, 0, none⟩) 3 3] (w.alloc (.cells #[.int .i64 9223372036854775807, .int .i64 1, .int .i64 (-1)] 2)) fun e w' => e = .returned (.tuple #[.int .i64 9223372036854775807, .bool true]) ∧ w.alloc (.cells #[.int .i64 9223372036854775807, .int .i64 1, .int .i64 (-1)] 2) = w' :=
  sum_any _ _ _ (ints_awake w) (by decide) (by decide)
theorem div_awake (w : World) : Calls Try.prog 6 #[.int .i64 (-7), .int .i64 2] w fun e w' => e = .returned (.tuple #[.int .i64 (-4), .int .i64 1, .bool true]) ∧ ∃ n, w' = w.drewN n :=
  div_any (-7) 2 (by decide) (by decide) (by decide) (by decide) (by decide) (by decide) w
theorem half_awake (w : World) : Calls Try.prog 21 #[.int .i64 (-3), .int .i64 0] w fun e w' => e = .returned (.int .i64 (-2)) ∧ w = w' :=
  half_any (-3) 0 (by decide) (by decide) (by decide) (by decide) w
set_option maxHeartbeats 400000 in
theorem awake_any (w : World) : Calls Try.prog 9 #[] w fun e w' => e = .returned (.bool true) ∧ Below w.heap.size w w' := by
  go_enter Try.func9, Try.ntmps9
  go_wp2_with fail
  refine (sum_awake _).mono ?_; rintro e w' ⟨rfl, rfl⟩
  go_wp2_with fail
  refine (div_awake _).mono ?_; rintro e w' ⟨rfl, n, rfl⟩
  go_wp2_with fail
  refine (half_awake _).mono ?_; rintro e w' ⟨rfl, rfl⟩
  go_wp2_with fail
  go_ret
  exact ⟨rfl, below_drewN ((Below.refl _ _).alloc (Nat.le_refl _) _) n⟩
end Go.Proofs.Ytfaglcfoamfelaa
