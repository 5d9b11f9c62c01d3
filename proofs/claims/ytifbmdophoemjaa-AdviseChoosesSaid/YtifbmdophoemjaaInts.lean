/- A slice value that reads as a list of integers; nothing of the program. -/
import Derived.Test.YtifbmdophoemjaaNums
import Derived.WalkKit
namespace Go.Proofs.Ytifbmdophoemjaa
set_option maxRecDepth 100000
open Go.RowKit
/-- A slice value reads as these numbers: where there is one, its cells stand in a block from there on. -/
def Ints (k : IntKind) (w : World) (v : Value) (zs : List Int) : Prop :=
  ∃ a cap, v = .slice a zs.length cap ∧ zs.length ≤ cap ∧ (zs = [] ∨ ∃ b off, a = some ⟨b, off, none⟩ ∧ b < w.heap.size ∧ ∀ i, i < zs.length → w.cell? ⟨b, off + i, none⟩ = some (.int k (zs.getD i 0)))
end Go.Proofs.Ytifbmdophoemjaa
