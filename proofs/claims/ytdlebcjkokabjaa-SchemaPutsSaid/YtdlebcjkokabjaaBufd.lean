/- What the reader finds as bytes. -/
import Derived.Test.YtdlebcjkokabjaaBufc
namespace Go.Proofs.Ytdlebcjkokabjaa
set_option maxRecDepth 100000
open Go.RowKit
set_option linter.unusedVariables false
theorem bN_ok {most x : Int} {n : Nat} {b : List Int} (hU : getU b = (x, n, 0)) (h1 : ¬ max most 0 < x) (h2 : ¬ ((b.length - n : Nat) : Int) < x) : bN most b = ((b.take (n + x.toNat)).drop n, n + x.toNat, 0) := by
  unfold bN
  rw [hU]
  simp only [ne_eq, not_true, if_false]
  rw [if_neg h1, if_neg h2, List.drop_take, Nat.add_sub_cancel_left]
def ByteP (R : List Int × Nat × Nat) (w : World) (r : Ending) (w' : World) : Prop := (∃ v, r = .returned (.tuple #[v, .int .i64 (R.2.1 : Nat), .int .i64 (R.2.2 : Nat)]) ∧ Ints .u8 w' v R.1 ∧ Typed 5 w' v) ∧ Below w.heap.size w w'
theorem ints_nil {k : IntKind} {w : World} : Ints k w (.slice none 0 0) [] := ⟨none, 0, rfl, by simp, .inl rfl⟩
end Go.Proofs.Ytdlebcjkokabjaa
