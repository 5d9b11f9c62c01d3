/- The program's spans. -/
import Derived.Test.YtdlebcjkokabjaaCodec
namespace Go.Proofs.Ytdlebcjkokabjaa
set_option maxRecDepth 100000
open Go.RowKit
set_option linter.unusedVariables false
theorem great_any (n : Nat) (w : World) (hn : n ≤ 8) : Calls Try.prog 102 #[.int .i64 n] w fun e w' => e = .returned (.int .u64 (grN n)) ∧ w = w' := by
  have h : n = 0 ∨ n = 1 ∨ n = 2 ∨ n = 3 ∨ n = 4 ∨ n = 5 ∨ n = 6 ∨ n = 7 ∨ n = 8 := by omega
  rcases h with rfl | rfl | rfl | rfl | rfl | rfl | rfl | rfl | rfl
  all_goals
    go_enter Try.func102, Try.ntmps102
    go_wp2_with fail
    go_ret
    exact ⟨ret_int (by decide), rfl⟩
def spanV (first last : Int) : Value := .agg #[.int .u64 first, .int .u64 last]
theorem gr_range {n : Nat} (hn : n ≤ 8) : 0 ≤ grN n ∧ grN n ≤ 18446744073709551615 := by
  have h : n = 0 ∨ n = 1 ∨ n = 2 ∨ n = 3 ∨ n = 4 ∨ n = 5 ∨ n = 6 ∨ n = 7 ∨ n = 8 := by omega
  rcases h with rfl | rfl | rfl | rfl | rfl | rfl | rfl | rfl | rfl <;> decide
theorem gr_step {n : Nat} (hn : n < 8) : grN n + 1 ≤ 18446744073709551615 := by
  have h : n = 0 ∨ n = 1 ∨ n = 2 ∨ n = 3 ∨ n = 4 ∨ n = 5 ∨ n = 6 ∨ n = 7 := by omega
  rcases h with rfl | rfl | rfl | rfl | rfl | rfl | rfl | rfl <;> decide
set_option maxHeartbeats 2000000 in
theorem need_any (n : Nat) (most : Int) (w : World) (hn : n ≤ 8) (h0 : 0 ≤ most) (h1 : most ≤ 18446744073709551615) :
    Calls Try.prog 95 #[.int .i64 n, .int .u64 most] w fun e w' => e = .returned (spanV (needF n) (needL n most)) ∧ Below w.heap.size w w' := by
  by_cases hz : n = 0
  · subst hz
    go_enter Try.func95, Try.ntmps95
    go_wp2_with fail
    exact bodyPost_ret (v := .agg #[.int .u64 0, .int .u64 0]) (by simp [results, Try.results95, go_sem]) rfl ⟨rfl, below_one _ _⟩
  · have HG := Lib.hid (fun w => great_any n w hn)
    have hc : (((n - 1 : Nat) : Int)) = (n : Int) - 1 := by omega
    have HG1 := Lib.hid (fun w => great_any (n - 1) w (by omega))
    rw [hc] at HG1
    have r0 := gr_range hn
    have r1 := gr_step (n := n - 1) (by omega)
    have r2 := gr_range (n := n - 1) (by omega)
    have hR := Lib.hid (show needF n = grN (n - 1) + 1 ∧ needL n most = min (grN n) most from ⟨by unfold needF; rw [if_neg hz], by unfold needL; rw [if_neg hz]⟩)
    generalize needF n = F at *
    generalize needL n most = L at *
    generalize grN (n - 1) = a at *
    generalize grN n = b at *
    have i1 : IntKind.u64.wrap (a + 1) = a + 1 := by rw [IntKind.wrap_u64]; omega
    have i2 : ((n : Int) == 0) = false := by simp; omega
    have i3 : IntKind.i64.wrap ((n : Int) - 1) = (n : Int) - 1 := IntWalk.i64_in _ (by omega)
    go_enter Try.func95, Try.ntmps95
    go_wp2_with fail
    refine (HG1.out _).mono ?_; rintro e w1 ⟨rfl, rfl⟩
    go_wp2_with fail
    refine (HG.out _).mono ?_; rintro e w1 ⟨rfl, rfl⟩
    go_wp2_with fail
    exact bodyPost_ret (v := .agg #[.int .u64 (a + 1), .int .u64 (min b most)]) (by simp [results, Try.results95, go_sem]) rfl ⟨by rw [hR.out.1, hR.out.2]; rfl, below_one _ _⟩
set_option maxHeartbeats 2000000 in
theorem meets_any (a b c d : Int) (w : World) :
    Calls Try.prog 105 #[spanV a b, spanV c d] w fun e w' => e = .returned (.bool (meetB a b c d)) ∧ Below w.heap.size w w' := by
  unfold spanV meetB
  have hB := Lib.hid (fun o1 o2 => ((below_one w o1).alloc (by simp) o2))
  by_cases h : a ≤ d
  · go_enter Try.func105, Try.ntmps105
    go_wp2_with fail
    go_ret
    exact ⟨by simp [h], hB.out _ _⟩
  · go_enter Try.func105, Try.ntmps105
    go_wp2_with fail
    go_ret
    exact ⟨by simp; intro h'; omega, hB.out _ _⟩
end Go.Proofs.Ytdlebcjkokabjaa
