/-
  DERIVED. GIVEN WITH THE SEED: THE CARDS: each row of YtmnbljijnbhghaaGreatDoorRows.lean that lists a variable, with what it lists TIED to the program's text (the seventh form; the later family's looks); each row that meets fmt, with fmt's text TOLD by the authors' own Lean function (tested against real Go, not proved from fmt's source: count such statements apart). THE CARD IS WHAT COUNTS. Prove the row's statement (the work); the ties are given (YtmnbljijnbhghaaGreatDoorTie.lean); close each card by the builder's one call (the guide's Derived/Test/ToyasCard.lean, 'card_holds'). Laid BY PROGRAM, IN A SANDBOX (cutbox-door.mjs). By AI agents, Wed Nov 11 2026. No macro, syntax, notation, axiom, sorry.
-/
import Derived.Test.YtmnbljijnbhghaaGreatDoorRows
import GoSem.ClaimSeven
namespace Go.Proofs.YtmnbljijnbhghaaGreatDoor
namespace Rows

/-- THE TIED CARD OF 'bushellaw15.CellsRight'. -/
def cellsRightCard : Claim7 := { stood := { row := cellsRightRow, standIns := [], harness := (true, "cc64a0e9c849e6dbe6e8307c2bc05abd976b7624cc23a48b219a2c9b2e29c5ac"), looks := false }, kinds := [], alts := [], laidByText := true, laidKinds := [.data, .data], laidTests := true, laidLooks := .later }
def CellsRightCardSaid : Prop := Claim7.holds Tryz.pinned (.plain (OpenSpec.ofChange cellsRightSpec)) cellsRightCard

/-- THE TIED CARD OF 'bushellaw15.CellsFold'. -/
def cellsFoldCard : Claim7 := { stood := { row := cellsFoldRow, standIns := [], harness := (true, "cc64a0e9c849e6dbe6e8307c2bc05abd976b7624cc23a48b219a2c9b2e29c5ac"), looks := false }, kinds := [], alts := [], laidByText := true, laidKinds := [.data, .data], laidTests := true, laidLooks := .later }
def CellsFoldCardSaid : Prop := Claim7.holds Tryz.pinned (.plain (OpenSpec.ofChange cellsFoldSpec)) cellsFoldCard

/-- THE TIED CARD OF 'bushellaw15.CellsMerge'. -/
def cellsMergeCard : Claim7 := { stood := { row := cellsMergeRow, standIns := [], harness := (true, "cc64a0e9c849e6dbe6e8307c2bc05abd976b7624cc23a48b219a2c9b2e29c5ac"), looks := false }, kinds := [], alts := [], laidByText := true, laidKinds := [.data, .data], laidTests := true, laidLooks := .later }
def CellsMergeCardSaid : Prop := Claim7.holds Tryz.pinned (.plain (OpenSpec.ofChange cellsMergeSpec)) cellsMergeCard

/-- THE TIED CARD OF 'bushellaw15.CellsRoll'. -/
def cellsRollCard : Claim7 := { stood := { row := cellsRollRow, standIns := [], harness := (true, "cc64a0e9c849e6dbe6e8307c2bc05abd976b7624cc23a48b219a2c9b2e29c5ac"), looks := false }, kinds := [], alts := [], laidByText := true, laidKinds := [.data, .data], laidTests := true, laidLooks := .later }
def CellsRollCardSaid : Prop := Claim7.holds Tryz.pinned (.plain (OpenSpec.ofChange cellsRollSpec)) cellsRollCard

/-- THE TIED CARD OF 'bushellaw15.CellsParts'. -/
def cellsPartsCard : Claim7 := { stood := { row := cellsPartsRow, standIns := [], harness := (true, "cc64a0e9c849e6dbe6e8307c2bc05abd976b7624cc23a48b219a2c9b2e29c5ac"), looks := false }, kinds := [], alts := [], laidByText := true, laidKinds := [.data, .data], laidTests := true, laidLooks := .later }
def CellsPartsCardSaid : Prop := Claim7.holds Tryz.pinned (.plain (OpenSpec.ofChange cellsPartsSpec)) cellsPartsCard

/-- THE TIED CARD OF 'bushellaw15.CellsTwice'. -/
def cellsTwiceCard : Claim7 := { stood := { row := cellsTwiceRow, standIns := [], harness := (true, "cc64a0e9c849e6dbe6e8307c2bc05abd976b7624cc23a48b219a2c9b2e29c5ac"), looks := false }, kinds := [], alts := [], laidByText := true, laidKinds := [.data, .data], laidTests := true, laidLooks := .later }
def CellsTwiceCardSaid : Prop := Claim7.holds Tryz.pinned (.plain (OpenSpec.ofChange cellsTwiceSpec)) cellsTwiceCard

/-- THE TIED CARD OF 'bushellaw15.CellsBoth'. -/
def cellsBothCard : Claim7 := { stood := { row := cellsBothRow, standIns := [], harness := (true, "cc64a0e9c849e6dbe6e8307c2bc05abd976b7624cc23a48b219a2c9b2e29c5ac"), looks := false }, kinds := [], alts := [], laidByText := true, laidKinds := [.data, .data], laidTests := true, laidLooks := .later }
def CellsBothCardSaid : Prop := Claim7.holds Tryz.pinned (.plain (OpenSpec.ofChange cellsBothSpec)) cellsBothCard

/-- THE SECOND FORM's CARD OF 'bushellaw15.CellsRight'. -/
def cellsRightUptoCard : Claim7 := { stood := { row := cellsRightUptoRow, standIns := [], harness := (true, "cc64a0e9c849e6dbe6e8307c2bc05abd976b7624cc23a48b219a2c9b2e29c5ac"), looks := false }, kinds := [], alts := [], laidByText := true, laidKinds := [.data, .data], laidTests := true, laidLooks := .later }
def CellsRightUptoCardSaid : Prop := Claim7.holds Tryz.pinned (.plain (OpenSpec.upto cellsRightSpec)) cellsRightUptoCard

/-- THE SECOND FORM's CARD OF 'bushellaw15.CellsFold'. -/
def cellsFoldUptoCard : Claim7 := { stood := { row := cellsFoldUptoRow, standIns := [], harness := (true, "cc64a0e9c849e6dbe6e8307c2bc05abd976b7624cc23a48b219a2c9b2e29c5ac"), looks := false }, kinds := [], alts := [], laidByText := true, laidKinds := [.data, .data], laidTests := true, laidLooks := .later }
def CellsFoldUptoCardSaid : Prop := Claim7.holds Tryz.pinned (.plain (OpenSpec.upto cellsFoldSpec)) cellsFoldUptoCard

/-- THE SECOND FORM's CARD OF 'bushellaw15.CellsMerge'. -/
def cellsMergeUptoCard : Claim7 := { stood := { row := cellsMergeUptoRow, standIns := [], harness := (true, "cc64a0e9c849e6dbe6e8307c2bc05abd976b7624cc23a48b219a2c9b2e29c5ac"), looks := false }, kinds := [], alts := [], laidByText := true, laidKinds := [.data, .data], laidTests := true, laidLooks := .later }
def CellsMergeUptoCardSaid : Prop := Claim7.holds Tryz.pinned (.plain (OpenSpec.upto cellsMergeSpec)) cellsMergeUptoCard

/-- THE SECOND FORM's CARD OF 'bushellaw15.CellsRoll'. -/
def cellsRollUptoCard : Claim7 := { stood := { row := cellsRollUptoRow, standIns := [], harness := (true, "cc64a0e9c849e6dbe6e8307c2bc05abd976b7624cc23a48b219a2c9b2e29c5ac"), looks := false }, kinds := [], alts := [], laidByText := true, laidKinds := [.data, .data], laidTests := true, laidLooks := .later }
def CellsRollUptoCardSaid : Prop := Claim7.holds Tryz.pinned (.plain (OpenSpec.upto cellsRollSpec)) cellsRollUptoCard

/-- THE SECOND FORM's CARD OF 'bushellaw15.CellsParts'. -/
def cellsPartsUptoCard : Claim7 := { stood := { row := cellsPartsUptoRow, standIns := [], harness := (true, "cc64a0e9c849e6dbe6e8307c2bc05abd976b7624cc23a48b219a2c9b2e29c5ac"), looks := false }, kinds := [], alts := [], laidByText := true, laidKinds := [.data, .data], laidTests := true, laidLooks := .later }
def CellsPartsUptoCardSaid : Prop := Claim7.holds Tryz.pinned (.plain (OpenSpec.upto cellsPartsSpec)) cellsPartsUptoCard

/-- THE SECOND FORM's CARD OF 'bushellaw15.CellsTwice'. -/
def cellsTwiceUptoCard : Claim7 := { stood := { row := cellsTwiceUptoRow, standIns := [], harness := (true, "cc64a0e9c849e6dbe6e8307c2bc05abd976b7624cc23a48b219a2c9b2e29c5ac"), looks := false }, kinds := [], alts := [], laidByText := true, laidKinds := [.data, .data], laidTests := true, laidLooks := .later }
def CellsTwiceUptoCardSaid : Prop := Claim7.holds Tryz.pinned (.plain (OpenSpec.upto cellsTwiceSpec)) cellsTwiceUptoCard

/-- THE SECOND FORM's CARD OF 'bushellaw15.CellsBoth'. -/
def cellsBothUptoCard : Claim7 := { stood := { row := cellsBothUptoRow, standIns := [], harness := (true, "cc64a0e9c849e6dbe6e8307c2bc05abd976b7624cc23a48b219a2c9b2e29c5ac"), looks := false }, kinds := [], alts := [], laidByText := true, laidKinds := [.data, .data], laidTests := true, laidLooks := .later }
def CellsBothUptoCardSaid : Prop := Claim7.holds Tryz.pinned (.plain (OpenSpec.upto cellsBothSpec)) cellsBothUptoCard
end Rows
end Go.Proofs.YtmnbljijnbhghaaGreatDoor
