/- The chapter's example. -/
import Derived.Test.YtojbgbledhcnnaaNamf
namespace Go.Proofs.Ytojbgbledhcnnaa
set_option maxRecDepth 100000
open Go.RowKit
set_option linter.unusedVariables false
theorem below_then {w W W' : World} (h : Below w.heap.size w W) (hb : Below W.heap.size W W') : Below w.heap.size w W' := h.trans (hb.mono h.size)
def four : List ByteArray := [⟨#[97]⟩, ⟨#[98]⟩, ⟨#[97]⟩, ⟨#[98]⟩]
theorem four_twice : twiceL four = 2 := by decide +kernel
theorem four_small : ∀ s ∈ four, s.size ≤ maxLen := by
  intro s h
  simp only [four, List.mem_cons, List.not_mem_nil, or_false] at h
  rcases h with rfl | rfl | rfl | rfl <;> decide
theorem is_price : nameB ⟨#[112, 114, 105, 99, 101, 95, 50]⟩ = true := by decide +kernel
theorem is_sum : nameB ⟨#[115, 117, 109]⟩ = false := by decide +kernel
theorem is_2a : nameB ⟨#[50, 97]⟩ = false := by decide +kernel
theorem is_none : nameB ⟨#[]⟩ = false := by decide +kernel
set_option maxHeartbeats 1000000 in
theorem awake10_any (w : World) : Calls Try.prog 12 #[] w fun e w' => e = .returned (.bool true) ∧ Below w.heap.size w w' := by
  have H1 := Lib.hid (fun w => is_any ⟨#[112, 114, 105, 99, 101, 95, 50]⟩ w (by decide))
  have H2 := Lib.hid (fun w => is_any ⟨#[115, 117, 109]⟩ w (by decide))
  have H3 := Lib.hid (fun w => is_any ⟨#[50, 97]⟩ w (by decide))
  have H4 := Lib.hid (fun w => is_any ⟨#[]⟩ w (by decide))
  have HS := Lib.hid (fun w => strs_new w four 9 (by decide))
  have HT := Lib.hid (fun v w h => twice_any v four w h (by decide) four_small)
  rw [is_price] at H1
  rw [is_sum] at H2
  rw [is_2a] at H3
  rw [is_none] at H4
  rw [four_twice] at HT
  go_enter Try.func12, Try.ntmps12
  go_wp2_with fail
  refine (H1.out _).mono ?_; rintro e w1 ⟨rfl, b1⟩
  have B1 := Lib.hid b1
  clear b1
  go_wp2_with fail
  refine (H2.out _).mono ?_; rintro e w2 ⟨rfl, b1⟩
  have B2 := Lib.hid (below_then B1.out b1)
  clear b1
  go_wp2_with fail
  refine (H3.out _).mono ?_; rintro e w3 ⟨rfl, b1⟩
  have B3 := Lib.hid (below_then B2.out b1)
  clear b1
  go_wp2_with fail
  refine (H4.out _).mono ?_; rintro e w4 ⟨rfl, b1⟩
  have B4 := Lib.hid (below_then B3.out b1)
  clear b1
  go_wp2_with fail
  refine (HT.out _ _ (HS.out w4)).mono ?_; rintro e w5 ⟨rfl, b1⟩
  have B5 := Lib.hid (below_then (below_then B4.out ((Below.refl _ _).alloc (Nat.le_refl _) _)) b1)
  clear b1
  go_wp2_with fail
  go_ret
  exact ⟨rfl, B5.out⟩
end Go.Proofs.Ytojbgbledhcnnaa
