/-
  NARROWER THAN 'FOR EVERY INPUT', by the rows' own cells (each row's printed sentence says how): CellsRight: laid · CellsFold: laid · CellsMerge: laid · CellsRoll: laid · CellsParts: laid · CellsTwice: laid · CellsBoth: laid.
  DERIVED. THE GIVEN ROWS OF THIS SEAT. 7 by the template 'for every input the law returns true; each argument reads behind the call as it read before'; 0 by the template 'total and deterministic' (their statements: YtmnbljijnbhghaaGreatDoorTotals.lean).
  GIVEN WITH THE SEED: the statements are not yours to turn. If you find one false, say at which input.
  Laid BY PROGRAM, IN A SANDBOX (cutbox-rows.mjs): the forced cells as the released guide's own fill.sh prints them over the translation 632e4476325d1f28… (all of the seat's roots in one cut). By AI agents, Wed Nov 11 2026. No macro, syntax, notation, axiom, sorry.
-/
import Derived.Test.YtmnbljijnbhghaaGreatDoorChecked
import GoSem.Claim
import GoSem.ClaimJoined
import GoSem.ClaimMapViews
import Derived.JoinedTies
import Derived.KernelRfl
namespace Go.Proofs.YtmnbljijnbhghaaGreatDoor
/- THE CELL 'sum', in the pinned program and in every row, IS THE sha256 OF THE DUMP (.gsa) THAT YtmnbljijnbhghaaGreatDoorProg.lean LOADS. Nothing in Lean hashes anything: it is a label: what it is worth is what the hold of that sum in a sandbox is worth. -/
noncomputable def Tryz.pinned : Pinned := { name := "ytmnbljijnbhghaagreatdoor", sum := "632e4476325d1f28dbff31e1592ad4211047e4f5e65fdf99af106651f42221dd", checked := Tryz.checked }
namespace Rows
def none {H : Type} : Left H := { results := [], args := [] }

/- WHAT THE LISTED PACKAGE-LEVEL VARIABLES READ AS WHEN THE CALL BEGINS. Each datum BY PROGRAM (the guide's laid-datum.mjs) off the statement by which the dump's own 'gosem.cut.vars' lays the variable. In a bare row this is a premise. The card (YtmnbljijnbhghaaGreatDoorCards.lean) ties it to the program's text. -/
def laid_math_bits_deBruijn32tab {H : Type} : DataW H := .agg [.lit (.int .u8 0), .lit (.int .u8 1), .lit (.int .u8 28), .lit (.int .u8 2), .lit (.int .u8 29), .lit (.int .u8 14), .lit (.int .u8 24), .lit (.int .u8 3), .lit (.int .u8 30), .lit (.int .u8 22), .lit (.int .u8 20), .lit (.int .u8 15), .lit (.int .u8 25), .lit (.int .u8 17), .lit (.int .u8 4), .lit (.int .u8 8), .lit (.int .u8 31), .lit (.int .u8 27), .lit (.int .u8 13), .lit (.int .u8 23), .lit (.int .u8 21), .lit (.int .u8 19), .lit (.int .u8 16), .lit (.int .u8 7), .lit (.int .u8 26), .lit (.int .u8 12), .lit (.int .u8 18), .lit (.int .u8 6), .lit (.int .u8 11), .lit (.int .u8 5), .lit (.int .u8 10), .lit (.int .u8 9)]
def laid_math_bits_deBruijn64tab {H : Type} : DataW H := .agg [.lit (.int .u8 0), .lit (.int .u8 1), .lit (.int .u8 56), .lit (.int .u8 2), .lit (.int .u8 57), .lit (.int .u8 49), .lit (.int .u8 28), .lit (.int .u8 3), .lit (.int .u8 61), .lit (.int .u8 58), .lit (.int .u8 42), .lit (.int .u8 50), .lit (.int .u8 38), .lit (.int .u8 29), .lit (.int .u8 17), .lit (.int .u8 4), .lit (.int .u8 62), .lit (.int .u8 47), .lit (.int .u8 59), .lit (.int .u8 36), .lit (.int .u8 45), .lit (.int .u8 43), .lit (.int .u8 51), .lit (.int .u8 22), .lit (.int .u8 53), .lit (.int .u8 39), .lit (.int .u8 33), .lit (.int .u8 30), .lit (.int .u8 24), .lit (.int .u8 18), .lit (.int .u8 12), .lit (.int .u8 5), .lit (.int .u8 63), .lit (.int .u8 55), .lit (.int .u8 48), .lit (.int .u8 27), .lit (.int .u8 60), .lit (.int .u8 41), .lit (.int .u8 37), .lit (.int .u8 16), .lit (.int .u8 46), .lit (.int .u8 35), .lit (.int .u8 44), .lit (.int .u8 21), .lit (.int .u8 52), .lit (.int .u8 32), .lit (.int .u8 23), .lit (.int .u8 11), .lit (.int .u8 54), .lit (.int .u8 26), .lit (.int .u8 40), .lit (.int .u8 15), .lit (.int .u8 34), .lit (.int .u8 20), .lit (.int .u8 31), .lit (.int .u8 10), .lit (.int .u8 25), .lit (.int .u8 14), .lit (.int .u8 19), .lit (.int .u8 9), .lit (.int .u8 13), .lit (.int .u8 8), .lit (.int .u8 7), .lit (.int .u8 6)]

/-- 'bushellaw15.CellsRight': WHATEVER THE INPUT: true; the input reads as it did. -/
def cellsRightSpec : ChangeSpec := { name := "cellsRight", fn := fun _ => fun
  | [d1, d2, d3] => { results := [.lit (.bool true)], args := [d1, d2, d3] }
  | _ => none }
def cellsRightRow : OpenClaim := { program := "ytmnbljijnbhghaagreatdoor", sum := "632e4476325d1f28dbff31e1592ad4211047e4f5e65fdf99af106651f42221dd", func := "bushel/bushellaw15.CellsRight", spec := "cellsRight", inPlace := ["math.Float64bits", "math.Float64frombits"], unfollowed := true, recurses := true, named := ["math/bits.deBruijn64tab", "math/bits.deBruijn32tab"], apart := false, laid := [("math/bits.deBruijn32tab", laid_math_bits_deBruijn32tab), ("math/bits.deBruijn64tab", laid_math_bits_deBruijn64tab)] }
def CellsRightSaid : Prop := cellsRightRow.holds Tryz.pinned (OpenSpec.ofChange cellsRightSpec)

/-- ITS FALSE NEIGHBOUR: 'it returns false'. Refute it at one input. -/
def cellsRightWrong : ChangeSpec := { name := "cellsRight", fn := fun _ => fun
  | [d1, d2, d3] => { results := [.lit (.bool false)], args := [d1, d2, d3] }
  | _ => none }
def CellsRightWrongFalsely : Prop := cellsRightRow.holds Tryz.pinned (OpenSpec.ofChange cellsRightWrong)

/-- 'bushellaw15.CellsFold': WHATEVER THE INPUT: true; the input reads as it did. -/
def cellsFoldSpec : ChangeSpec := { name := "cellsFold", fn := fun _ => fun
  | [d1, d2, d3] => { results := [.lit (.bool true)], args := [d1, d2, d3] }
  | _ => none }
def cellsFoldRow : OpenClaim := { program := "ytmnbljijnbhghaagreatdoor", sum := "632e4476325d1f28dbff31e1592ad4211047e4f5e65fdf99af106651f42221dd", func := "bushel/bushellaw15.CellsFold", spec := "cellsFold", inPlace := ["math.Float64bits", "math.Float64frombits"], unfollowed := true, recurses := true, named := ["math/bits.deBruijn64tab", "math/bits.deBruijn32tab"], apart := false, laid := [("math/bits.deBruijn32tab", laid_math_bits_deBruijn32tab), ("math/bits.deBruijn64tab", laid_math_bits_deBruijn64tab)] }
def CellsFoldSaid : Prop := cellsFoldRow.holds Tryz.pinned (OpenSpec.ofChange cellsFoldSpec)

/-- ITS FALSE NEIGHBOUR: 'it returns false'. Refute it at one input. -/
def cellsFoldWrong : ChangeSpec := { name := "cellsFold", fn := fun _ => fun
  | [d1, d2, d3] => { results := [.lit (.bool false)], args := [d1, d2, d3] }
  | _ => none }
def CellsFoldWrongFalsely : Prop := cellsFoldRow.holds Tryz.pinned (OpenSpec.ofChange cellsFoldWrong)

/-- 'bushellaw15.CellsMerge': WHATEVER THE INPUT: true; the input reads as it did. -/
def cellsMergeSpec : ChangeSpec := { name := "cellsMerge", fn := fun _ => fun
  | [d1, d2] => { results := [.lit (.bool true)], args := [d1, d2] }
  | _ => none }
def cellsMergeRow : OpenClaim := { program := "ytmnbljijnbhghaagreatdoor", sum := "632e4476325d1f28dbff31e1592ad4211047e4f5e65fdf99af106651f42221dd", func := "bushel/bushellaw15.CellsMerge", spec := "cellsMerge", inPlace := ["math.Float64bits", "math.Float64frombits"], unfollowed := true, recurses := true, named := ["math/bits.deBruijn64tab", "math/bits.deBruijn32tab"], apart := false, laid := [("math/bits.deBruijn32tab", laid_math_bits_deBruijn32tab), ("math/bits.deBruijn64tab", laid_math_bits_deBruijn64tab)] }
def CellsMergeSaid : Prop := cellsMergeRow.holds Tryz.pinned (OpenSpec.ofChange cellsMergeSpec)

/-- ITS FALSE NEIGHBOUR: 'it returns false'. Refute it at one input. -/
def cellsMergeWrong : ChangeSpec := { name := "cellsMerge", fn := fun _ => fun
  | [d1, d2] => { results := [.lit (.bool false)], args := [d1, d2] }
  | _ => none }
def CellsMergeWrongFalsely : Prop := cellsMergeRow.holds Tryz.pinned (OpenSpec.ofChange cellsMergeWrong)

/-- 'bushellaw15.CellsRoll': WHATEVER THE INPUT: true; the input reads as it did. -/
def cellsRollSpec : ChangeSpec := { name := "cellsRoll", fn := fun _ => fun
  | [d1, d2, d3] => { results := [.lit (.bool true)], args := [d1, d2, d3] }
  | _ => none }
def cellsRollRow : OpenClaim := { program := "ytmnbljijnbhghaagreatdoor", sum := "632e4476325d1f28dbff31e1592ad4211047e4f5e65fdf99af106651f42221dd", func := "bushel/bushellaw15.CellsRoll", spec := "cellsRoll", inPlace := ["math.Float64bits", "math.Float64frombits"], unfollowed := true, recurses := true, named := ["math/bits.deBruijn64tab", "math/bits.deBruijn32tab"], apart := false, laid := [("math/bits.deBruijn32tab", laid_math_bits_deBruijn32tab), ("math/bits.deBruijn64tab", laid_math_bits_deBruijn64tab)] }
def CellsRollSaid : Prop := cellsRollRow.holds Tryz.pinned (OpenSpec.ofChange cellsRollSpec)

/-- ITS FALSE NEIGHBOUR: 'it returns false'. Refute it at one input. -/
def cellsRollWrong : ChangeSpec := { name := "cellsRoll", fn := fun _ => fun
  | [d1, d2, d3] => { results := [.lit (.bool false)], args := [d1, d2, d3] }
  | _ => none }
def CellsRollWrongFalsely : Prop := cellsRollRow.holds Tryz.pinned (OpenSpec.ofChange cellsRollWrong)

/-- 'bushellaw15.CellsParts': WHATEVER THE INPUT: true; the input reads as it did. -/
def cellsPartsSpec : ChangeSpec := { name := "cellsParts", fn := fun _ => fun
  | [d1, d2, d3] => { results := [.lit (.bool true)], args := [d1, d2, d3] }
  | _ => none }
def cellsPartsRow : OpenClaim := { program := "ytmnbljijnbhghaagreatdoor", sum := "632e4476325d1f28dbff31e1592ad4211047e4f5e65fdf99af106651f42221dd", func := "bushel/bushellaw15.CellsParts", spec := "cellsParts", inPlace := ["math.Float64bits", "math.Float64frombits"], unfollowed := true, recurses := true, named := ["math/bits.deBruijn64tab", "math/bits.deBruijn32tab"], apart := false, laid := [("math/bits.deBruijn32tab", laid_math_bits_deBruijn32tab), ("math/bits.deBruijn64tab", laid_math_bits_deBruijn64tab)] }
def CellsPartsSaid : Prop := cellsPartsRow.holds Tryz.pinned (OpenSpec.ofChange cellsPartsSpec)

/-- ITS FALSE NEIGHBOUR: 'it returns false'. Refute it at one input. -/
def cellsPartsWrong : ChangeSpec := { name := "cellsParts", fn := fun _ => fun
  | [d1, d2, d3] => { results := [.lit (.bool false)], args := [d1, d2, d3] }
  | _ => none }
def CellsPartsWrongFalsely : Prop := cellsPartsRow.holds Tryz.pinned (OpenSpec.ofChange cellsPartsWrong)

/-- 'bushellaw15.CellsTwice': WHATEVER THE INPUT: true; the input reads as it did. -/
def cellsTwiceSpec : ChangeSpec := { name := "cellsTwice", fn := fun _ => fun
  | [d1, d2, d3] => { results := [.lit (.bool true)], args := [d1, d2, d3] }
  | _ => none }
def cellsTwiceRow : OpenClaim := { program := "ytmnbljijnbhghaagreatdoor", sum := "632e4476325d1f28dbff31e1592ad4211047e4f5e65fdf99af106651f42221dd", func := "bushel/bushellaw15.CellsTwice", spec := "cellsTwice", inPlace := ["math.Float64bits", "math.Float64frombits"], unfollowed := true, recurses := true, named := ["math/bits.deBruijn64tab", "math/bits.deBruijn32tab"], apart := false, laid := [("math/bits.deBruijn32tab", laid_math_bits_deBruijn32tab), ("math/bits.deBruijn64tab", laid_math_bits_deBruijn64tab)] }
def CellsTwiceSaid : Prop := cellsTwiceRow.holds Tryz.pinned (OpenSpec.ofChange cellsTwiceSpec)

/-- ITS FALSE NEIGHBOUR: 'it returns false'. Refute it at one input. -/
def cellsTwiceWrong : ChangeSpec := { name := "cellsTwice", fn := fun _ => fun
  | [d1, d2, d3] => { results := [.lit (.bool false)], args := [d1, d2, d3] }
  | _ => none }
def CellsTwiceWrongFalsely : Prop := cellsTwiceRow.holds Tryz.pinned (OpenSpec.ofChange cellsTwiceWrong)

/-- 'bushellaw15.CellsBoth': WHATEVER THE INPUT: true; the input reads as it did. -/
def cellsBothSpec : ChangeSpec := { name := "cellsBoth", fn := fun _ => fun
  | [d1, d2, d3] => { results := [.lit (.bool true)], args := [d1, d2, d3] }
  | _ => none }
def cellsBothRow : OpenClaim := { program := "ytmnbljijnbhghaagreatdoor", sum := "632e4476325d1f28dbff31e1592ad4211047e4f5e65fdf99af106651f42221dd", func := "bushel/bushellaw15.CellsBoth", spec := "cellsBoth", inPlace := ["math.Float64bits", "math.Float64frombits"], unfollowed := true, recurses := true, named := ["math/bits.deBruijn64tab", "math/bits.deBruijn32tab"], apart := false, laid := [("math/bits.deBruijn32tab", laid_math_bits_deBruijn32tab), ("math/bits.deBruijn64tab", laid_math_bits_deBruijn64tab)] }
def CellsBothSaid : Prop := cellsBothRow.holds Tryz.pinned (OpenSpec.ofChange cellsBothSpec)

/-- ITS FALSE NEIGHBOUR: 'it returns false'. Refute it at one input. -/
def cellsBothWrong : ChangeSpec := { name := "cellsBoth", fn := fun _ => fun
  | [d1, d2, d3] => { results := [.lit (.bool false)], args := [d1, d2, d3] }
  | _ => none }
def CellsBothWrongFalsely : Prop := cellsBothRow.holds Tryz.pinned (OpenSpec.ofChange cellsBothWrong)

/- THE SECOND FORM. 'bulk': how many values and letters a reading holds, each counted each time it is reached (what is shared counts as often as it is met; a slice's spare places count too). A statement '..UptoSaid' is the law's where the arguments, and the package variables that the reading takes, are together of bulk at most 1048576: NARROWER than '..Said'. Prove '..Said' where nothing that the law and all that it calls make is longer than what came in: it says more and counts as full. Else prove '..UptoSaid'. A law counts once. -/
mutual
def uptoBulk {H : Type} : DataW H → Nat
  | .lit (.string bytes) => bytes.length + 1
  | .lit _ => 1
  | .nil => 1
  | .ptr d => uptoBulk d + 1
  | .slice elems spare => uptoBulkAll elems + uptoBulkAll spare + 1
  | .agg parts => uptoBulkAll parts + 1
  | .iface _ d => uptoBulk d + 1
  | .map entries => uptoBulkEntries entries + 1
  | .held _ => 1
def uptoBulkAll {H : Type} : List (DataW H) → Nat
  | [] => 0
  | d :: r => uptoBulk d + uptoBulkAll r
def uptoBulkEntries {H : Type} : List (Lit × DataW H) → Nat
  | [] => 0
  | x :: r => uptoBulkEntry x + uptoBulkEntries r
def uptoBulkEntry {H : Type} : Lit × DataW H → Nat
  | (.string bytes, d) => bytes.length + uptoBulk d + 1
  | (_, d) => uptoBulk d + 1
 end
def uptoSmall : (H : Type) → List (DataW H) → Bool := fun _ ds => decide (uptoBulkAll ds ≤ 1048576)
def OpenSpec.upto (s : _root_.Go.ChangeSpec) : _root_.Go.OpenSpec := { _root_.Go.OpenSpec.ofChange s with cond := some uptoSmall }

/-- 'bushellaw15.CellsRight', WHERE WHAT IT READS IS OF BULK AT MOST 1048576: true; the input reads as it did. -/
def cellsRightUptoRow : OpenClaim := { program := "ytmnbljijnbhghaagreatdoor", sum := "632e4476325d1f28dbff31e1592ad4211047e4f5e65fdf99af106651f42221dd", func := "bushel/bushellaw15.CellsRight", spec := "cellsRight", inPlace := ["math.Float64bits", "math.Float64frombits"], unfollowed := true, recurses := true, named := ["math/bits.deBruijn64tab", "math/bits.deBruijn32tab"], apart := false, laid := [("math/bits.deBruijn32tab", laid_math_bits_deBruijn32tab), ("math/bits.deBruijn64tab", laid_math_bits_deBruijn64tab)], narrowed := true }
def CellsRightUptoSaid : Prop := cellsRightUptoRow.holds Tryz.pinned (OpenSpec.upto cellsRightSpec)

/-- 'bushellaw15.CellsFold', WHERE WHAT IT READS IS OF BULK AT MOST 1048576: true; the input reads as it did. -/
def cellsFoldUptoRow : OpenClaim := { program := "ytmnbljijnbhghaagreatdoor", sum := "632e4476325d1f28dbff31e1592ad4211047e4f5e65fdf99af106651f42221dd", func := "bushel/bushellaw15.CellsFold", spec := "cellsFold", inPlace := ["math.Float64bits", "math.Float64frombits"], unfollowed := true, recurses := true, named := ["math/bits.deBruijn64tab", "math/bits.deBruijn32tab"], apart := false, laid := [("math/bits.deBruijn32tab", laid_math_bits_deBruijn32tab), ("math/bits.deBruijn64tab", laid_math_bits_deBruijn64tab)], narrowed := true }
def CellsFoldUptoSaid : Prop := cellsFoldUptoRow.holds Tryz.pinned (OpenSpec.upto cellsFoldSpec)

/-- 'bushellaw15.CellsMerge', WHERE WHAT IT READS IS OF BULK AT MOST 1048576: true; the input reads as it did. -/
def cellsMergeUptoRow : OpenClaim := { program := "ytmnbljijnbhghaagreatdoor", sum := "632e4476325d1f28dbff31e1592ad4211047e4f5e65fdf99af106651f42221dd", func := "bushel/bushellaw15.CellsMerge", spec := "cellsMerge", inPlace := ["math.Float64bits", "math.Float64frombits"], unfollowed := true, recurses := true, named := ["math/bits.deBruijn64tab", "math/bits.deBruijn32tab"], apart := false, laid := [("math/bits.deBruijn32tab", laid_math_bits_deBruijn32tab), ("math/bits.deBruijn64tab", laid_math_bits_deBruijn64tab)], narrowed := true }
def CellsMergeUptoSaid : Prop := cellsMergeUptoRow.holds Tryz.pinned (OpenSpec.upto cellsMergeSpec)

/-- 'bushellaw15.CellsRoll', WHERE WHAT IT READS IS OF BULK AT MOST 1048576: true; the input reads as it did. -/
def cellsRollUptoRow : OpenClaim := { program := "ytmnbljijnbhghaagreatdoor", sum := "632e4476325d1f28dbff31e1592ad4211047e4f5e65fdf99af106651f42221dd", func := "bushel/bushellaw15.CellsRoll", spec := "cellsRoll", inPlace := ["math.Float64bits", "math.Float64frombits"], unfollowed := true, recurses := true, named := ["math/bits.deBruijn64tab", "math/bits.deBruijn32tab"], apart := false, laid := [("math/bits.deBruijn32tab", laid_math_bits_deBruijn32tab), ("math/bits.deBruijn64tab", laid_math_bits_deBruijn64tab)], narrowed := true }
def CellsRollUptoSaid : Prop := cellsRollUptoRow.holds Tryz.pinned (OpenSpec.upto cellsRollSpec)

/-- 'bushellaw15.CellsParts', WHERE WHAT IT READS IS OF BULK AT MOST 1048576: true; the input reads as it did. -/
def cellsPartsUptoRow : OpenClaim := { program := "ytmnbljijnbhghaagreatdoor", sum := "632e4476325d1f28dbff31e1592ad4211047e4f5e65fdf99af106651f42221dd", func := "bushel/bushellaw15.CellsParts", spec := "cellsParts", inPlace := ["math.Float64bits", "math.Float64frombits"], unfollowed := true, recurses := true, named := ["math/bits.deBruijn64tab", "math/bits.deBruijn32tab"], apart := false, laid := [("math/bits.deBruijn32tab", laid_math_bits_deBruijn32tab), ("math/bits.deBruijn64tab", laid_math_bits_deBruijn64tab)], narrowed := true }
def CellsPartsUptoSaid : Prop := cellsPartsUptoRow.holds Tryz.pinned (OpenSpec.upto cellsPartsSpec)

/-- 'bushellaw15.CellsTwice', WHERE WHAT IT READS IS OF BULK AT MOST 1048576: true; the input reads as it did. -/
def cellsTwiceUptoRow : OpenClaim := { program := "ytmnbljijnbhghaagreatdoor", sum := "632e4476325d1f28dbff31e1592ad4211047e4f5e65fdf99af106651f42221dd", func := "bushel/bushellaw15.CellsTwice", spec := "cellsTwice", inPlace := ["math.Float64bits", "math.Float64frombits"], unfollowed := true, recurses := true, named := ["math/bits.deBruijn64tab", "math/bits.deBruijn32tab"], apart := false, laid := [("math/bits.deBruijn32tab", laid_math_bits_deBruijn32tab), ("math/bits.deBruijn64tab", laid_math_bits_deBruijn64tab)], narrowed := true }
def CellsTwiceUptoSaid : Prop := cellsTwiceUptoRow.holds Tryz.pinned (OpenSpec.upto cellsTwiceSpec)

/-- 'bushellaw15.CellsBoth', WHERE WHAT IT READS IS OF BULK AT MOST 1048576: true; the input reads as it did. -/
def cellsBothUptoRow : OpenClaim := { program := "ytmnbljijnbhghaagreatdoor", sum := "632e4476325d1f28dbff31e1592ad4211047e4f5e65fdf99af106651f42221dd", func := "bushel/bushellaw15.CellsBoth", spec := "cellsBoth", inPlace := ["math.Float64bits", "math.Float64frombits"], unfollowed := true, recurses := true, named := ["math/bits.deBruijn64tab", "math/bits.deBruijn32tab"], apart := false, laid := [("math/bits.deBruijn32tab", laid_math_bits_deBruijn32tab), ("math/bits.deBruijn64tab", laid_math_bits_deBruijn64tab)], narrowed := true }
def CellsBothUptoSaid : Prop := cellsBothUptoRow.holds Tryz.pinned (OpenSpec.upto cellsBothSpec)

end Rows
end Go.Proofs.YtmnbljijnbhghaaGreatDoor
