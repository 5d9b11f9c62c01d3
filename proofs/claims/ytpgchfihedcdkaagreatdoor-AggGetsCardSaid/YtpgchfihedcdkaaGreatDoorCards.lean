/-
  DERIVED. GIVEN WITH THE SEED: THE CARDS: each row of YtpgchfihedcdkaaGreatDoorRows.lean that lists a variable, with what it lists TIED to the program's text (the seventh form; the later family's looks); each row that meets fmt, with fmt's text TOLD by the authors' own Lean function (tested against real Go, not proved from fmt's source: count such statements apart). THE CARD IS WHAT COUNTS. Prove the row's statement (the work); the ties are given (YtpgchfihedcdkaaGreatDoorTie.lean); close each card by the builder's one call (the guide's Derived/Test/ToyasCard.lean, 'card_holds'). Laid BY PROGRAM, IN A SANDBOX (cutbox-door.mjs). By AI agents, Wed Nov 11 2026. No macro, syntax, notation, axiom, sorry.
-/
import Derived.Test.YtpgchfihedcdkaaGreatDoorRows
import GoSem.ClaimSeven
namespace Go.Proofs.YtpgchfihedcdkaaGreatDoor
namespace Rows

/-- THE TIED CARD OF 'bushellaw14.AggPuts'. -/
def aggPutsCard : Claim7 := { stood := { row := aggPutsRow, standIns := [], harness := (true, "996aa81ef71a4bd5f8778913231b964ab3a580b72e77a1e60bb2f04d61098ee3"), looks := false }, kinds := [], alts := [], laidByText := true, laidKinds := [.data, .data], laidTests := true, laidLooks := .later }
def AggPutsCardSaid : Prop := Claim7.holds Tryz.pinned (.plain (OpenSpec.ofChange aggPutsSpec)) aggPutsCard

/-- THE TIED CARD OF 'bushellaw14.AggGets'. -/
def aggGetsCard : Claim7 := { stood := { row := aggGetsRow, standIns := [], harness := (true, "996aa81ef71a4bd5f8778913231b964ab3a580b72e77a1e60bb2f04d61098ee3"), looks := false }, kinds := [], alts := [], laidByText := true, laidKinds := [.data, .data], laidTests := true, laidLooks := .later }
def AggGetsCardSaid : Prop := Claim7.holds Tryz.pinned (.plain (OpenSpec.ofChange aggGetsSpec)) aggGetsCard

/-- THE TIED CARD OF 'bushellaw15.CellsRight'. -/
def cellsRightCard : Claim7 := { stood := { row := cellsRightRow, standIns := [], harness := (true, "996aa81ef71a4bd5f8778913231b964ab3a580b72e77a1e60bb2f04d61098ee3"), looks := false }, kinds := [], alts := [], laidByText := true, laidKinds := [.data, .data], laidTests := true, laidLooks := .later }
def CellsRightCardSaid : Prop := Claim7.holds Tryz.pinned (.plain (OpenSpec.ofChange cellsRightSpec)) cellsRightCard

/-- THE TIED CARD OF 'bushellaw15.CellsFold'. -/
def cellsFoldCard : Claim7 := { stood := { row := cellsFoldRow, standIns := [], harness := (true, "996aa81ef71a4bd5f8778913231b964ab3a580b72e77a1e60bb2f04d61098ee3"), looks := false }, kinds := [], alts := [], laidByText := true, laidKinds := [.data, .data], laidTests := true, laidLooks := .later }
def CellsFoldCardSaid : Prop := Claim7.holds Tryz.pinned (.plain (OpenSpec.ofChange cellsFoldSpec)) cellsFoldCard

/-- THE TIED CARD OF 'bushellaw15.CellsMerge'. -/
def cellsMergeCard : Claim7 := { stood := { row := cellsMergeRow, standIns := [], harness := (true, "996aa81ef71a4bd5f8778913231b964ab3a580b72e77a1e60bb2f04d61098ee3"), looks := false }, kinds := [], alts := [], laidByText := true, laidKinds := [.data, .data], laidTests := true, laidLooks := .later }
def CellsMergeCardSaid : Prop := Claim7.holds Tryz.pinned (.plain (OpenSpec.ofChange cellsMergeSpec)) cellsMergeCard

/-- THE TIED CARD OF 'bushellaw15.CellsRoll'. -/
def cellsRollCard : Claim7 := { stood := { row := cellsRollRow, standIns := [], harness := (true, "996aa81ef71a4bd5f8778913231b964ab3a580b72e77a1e60bb2f04d61098ee3"), looks := false }, kinds := [], alts := [], laidByText := true, laidKinds := [.data, .data], laidTests := true, laidLooks := .later }
def CellsRollCardSaid : Prop := Claim7.holds Tryz.pinned (.plain (OpenSpec.ofChange cellsRollSpec)) cellsRollCard

/-- THE SECOND FORM's CARD OF 'bushellaw14.AggPuts'. -/
def aggPutsUptoCard : Claim7 := { stood := { row := aggPutsUptoRow, standIns := [], harness := (true, "996aa81ef71a4bd5f8778913231b964ab3a580b72e77a1e60bb2f04d61098ee3"), looks := false }, kinds := [], alts := [], laidByText := true, laidKinds := [.data, .data], laidTests := true, laidLooks := .later }
def AggPutsUptoCardSaid : Prop := Claim7.holds Tryz.pinned (.plain (OpenSpec.upto aggPutsSpec)) aggPutsUptoCard

/-- THE SECOND FORM's CARD OF 'bushellaw14.AggGets'. -/
def aggGetsUptoCard : Claim7 := { stood := { row := aggGetsUptoRow, standIns := [], harness := (true, "996aa81ef71a4bd5f8778913231b964ab3a580b72e77a1e60bb2f04d61098ee3"), looks := false }, kinds := [], alts := [], laidByText := true, laidKinds := [.data, .data], laidTests := true, laidLooks := .later }
def AggGetsUptoCardSaid : Prop := Claim7.holds Tryz.pinned (.plain (OpenSpec.upto aggGetsSpec)) aggGetsUptoCard

/-- THE SECOND FORM's CARD OF 'bushellaw15.CellsRight'. -/
def cellsRightUptoCard : Claim7 := { stood := { row := cellsRightUptoRow, standIns := [], harness := (true, "996aa81ef71a4bd5f8778913231b964ab3a580b72e77a1e60bb2f04d61098ee3"), looks := false }, kinds := [], alts := [], laidByText := true, laidKinds := [.data, .data], laidTests := true, laidLooks := .later }
def CellsRightUptoCardSaid : Prop := Claim7.holds Tryz.pinned (.plain (OpenSpec.upto cellsRightSpec)) cellsRightUptoCard

/-- THE SECOND FORM's CARD OF 'bushellaw15.CellsFold'. -/
def cellsFoldUptoCard : Claim7 := { stood := { row := cellsFoldUptoRow, standIns := [], harness := (true, "996aa81ef71a4bd5f8778913231b964ab3a580b72e77a1e60bb2f04d61098ee3"), looks := false }, kinds := [], alts := [], laidByText := true, laidKinds := [.data, .data], laidTests := true, laidLooks := .later }
def CellsFoldUptoCardSaid : Prop := Claim7.holds Tryz.pinned (.plain (OpenSpec.upto cellsFoldSpec)) cellsFoldUptoCard

/-- THE SECOND FORM's CARD OF 'bushellaw15.CellsMerge'. -/
def cellsMergeUptoCard : Claim7 := { stood := { row := cellsMergeUptoRow, standIns := [], harness := (true, "996aa81ef71a4bd5f8778913231b964ab3a580b72e77a1e60bb2f04d61098ee3"), looks := false }, kinds := [], alts := [], laidByText := true, laidKinds := [.data, .data], laidTests := true, laidLooks := .later }
def CellsMergeUptoCardSaid : Prop := Claim7.holds Tryz.pinned (.plain (OpenSpec.upto cellsMergeSpec)) cellsMergeUptoCard

/-- THE SECOND FORM's CARD OF 'bushellaw15.CellsRoll'. -/
def cellsRollUptoCard : Claim7 := { stood := { row := cellsRollUptoRow, standIns := [], harness := (true, "996aa81ef71a4bd5f8778913231b964ab3a580b72e77a1e60bb2f04d61098ee3"), looks := false }, kinds := [], alts := [], laidByText := true, laidKinds := [.data, .data], laidTests := true, laidLooks := .later }
def CellsRollUptoCardSaid : Prop := Claim7.holds Tryz.pinned (.plain (OpenSpec.upto cellsRollSpec)) cellsRollUptoCard
end Rows
end Go.Proofs.YtpgchfihedcdkaaGreatDoor
