/- Layer 11: the reference's Same of a schema and the same. -/
import Derived.Test.YtdnbjaeeebodkaaSchk
namespace Go.Proofs.Ytdnbjaeeebodkaa
set_option maxRecDepth 100000
open Go.RowKit
set_option linter.unusedVariables false
theorem two_boxes (w : World) (D I M V D' I' M' V' : Value) (W : World) (hW : (w.alloc (SchO D I M V)).alloc (SchO D' I' M' V') = W) :
    Below w.heap.size w W ∧ Box W w.heap.size D I M V ∧ Box W (w.heap.size + 1) D' I' M' V' := by
  subst hW
  have hz : (w.alloc (SchO D I M V)).heap.size = w.heap.size + 1 := by simp
  have k2 := box_new (w.alloc (SchO D I M V)) D' I' M' V'
  rw [hz] at k2
  exact ⟨below_then (below_one _ _) (below_one _ _), (box_new w D I M V).below (below_one _ _), k2⟩
end Go.Proofs.Ytdnbjaeeebodkaa
