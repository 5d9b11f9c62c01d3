/- The reference's reading: integers and floats. -/
import Derived.Test.YtdnbjaeeebodkaaBufh
namespace Go.Proofs.Ytdnbjaeeebodkaa
set_option maxRecDepth 100000
open Go.RowKit
set_option linter.unusedVariables false
/-- What the reference's reading returns. -/
def RefP (u i : Int) (t : ByteArray) (n e : Nat) (w : World) (r : Ending) (w' : World) : Prop := r = .returned (gotV u i t n e) ∧ Below w.heap.size w w'
theorem three_below (w : World) (o1 o2 o3 : Obj) : Below w.heap.size w (((w.alloc o1).alloc o2).alloc o3) := below_then (two_below w o1 o2) (below_one _ o3)
set_option maxRecDepth 100000
open Go.RowKit
set_option linter.unusedVariables false
set_option maxRecDepth 100000
open Go.RowKit
set_option linter.unusedVariables false
theorem final_below {w0 w : World} (h : Below w0.heap.size w0 w) (u i : Int) (t : ByteArray) (n e : Int) :
    Below w0.heap.size w0 (((((w.setCell ⟨w0.heap.size + 1, 0, none⟩ (.int .u64 u)).setCell ⟨w0.heap.size + 1, 1, none⟩ (.int .i64 i)).setCell ⟨w0.heap.size + 1, 2, none⟩ (.string t)).setCell ⟨w0.heap.size + 1, 3, none⟩ (.int .i64 n)).setCell ⟨w0.heap.size + 1, 4, none⟩ (.int .i64 e)) :=
  ((((h.setCell (by simp) _).setCell (by simp) _).setCell (by simp) _).setCell (by simp) _).setCell (by simp) _
end Go.Proofs.Ytdnbjaeeebodkaa
