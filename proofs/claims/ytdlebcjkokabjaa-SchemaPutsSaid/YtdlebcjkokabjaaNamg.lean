/- The chapter's example. -/
import Derived.Test.YtdlebcjkokabjaaNamf
import Derived.Test.YtdlebcjkokabjaaCodeb
namespace Go.Proofs.Ytdlebcjkokabjaa
set_option maxRecDepth 100000
open Go.RowKit
set_option linter.unusedVariables false
def four : List ByteArray := [⟨#[97]⟩, ⟨#[98]⟩, ⟨#[97]⟩, ⟨#[98]⟩]
theorem four_twice : twiceL four = 2 := by decide +kernel
theorem four_small : ∀ s ∈ four, s.size ≤ maxLen := by
  intro s h
  simp only [four, List.mem_cons, List.not_mem_nil, or_false] at h
  rcases h with rfl | rfl | rfl | rfl <;> decide
theorem is_price : nameB ⟨#[112, 114, 105, 99, 101, 95, 50]⟩ = true := by decide +kernel
theorem is_sum : nameB ⟨#[115, 117, 109]⟩ = false := by decide +kernel
theorem is_2a : nameB ⟨#[50, 97]⟩ = false := by decide +kernel
theorem is_none : nameB ⟨#[]⟩ = false := by decide +kernel
end Go.Proofs.Ytdlebcjkokabjaa
