/-
  DERIVED. GIVEN WITH THE SEED: THE CARDS: each row of YtigikgphipebiaaGreatDoorRows.lean that lists a variable, with what it lists TIED to the program's text (the seventh form; the later family's looks); each row that meets fmt, with fmt's text TOLD by the authors' own Lean function (tested against real Go, not proved from fmt's source: count such statements apart). THE CARD IS WHAT COUNTS. Prove the row's statement (the work); the ties are given (YtigikgphipebiaaGreatDoorTie.lean); close each card by the builder's one call (the guide's Derived/Test/ToyasCard.lean, 'card_holds'). Laid BY PROGRAM, IN A SANDBOX (cutbox-door.mjs). By AI agents, Wed Nov 11 2026. No macro, syntax, notation, axiom, sorry.
-/
import Derived.Test.YtigikgphipebiaaGreatDoorRows
import GoSem.ClaimSeven
namespace Go.Proofs.YtigikgphipebiaaGreatDoor
namespace Rows

/-- THE TIED CARD OF 'bushellaw14.AggOnes'. -/
def aggOnesCard : Claim7 := { stood := { row := aggOnesRow, standIns := [], harness := (true, "f04b168d48a8c8cb3a305a733fd3ca73a7b05c97788978a7925542295f6558f3"), looks := false }, kinds := [], alts := [], laidByText := true, laidKinds := [.data, .data], laidTests := true, laidLooks := .later }
def AggOnesCardSaid : Prop := Claim7.holds Tryz.pinned (.plain (OpenSpec.ofChange aggOnesSpec)) aggOnesCard

/-- THE TIED CARD OF 'bushellaw14.AggJoins'. -/
def aggJoinsCard : Claim7 := { stood := { row := aggJoinsRow, standIns := [], harness := (true, "f04b168d48a8c8cb3a305a733fd3ca73a7b05c97788978a7925542295f6558f3"), looks := false }, kinds := [], alts := [], laidByText := true, laidKinds := [.data, .data], laidTests := true, laidLooks := .later }
def AggJoinsCardSaid : Prop := Claim7.holds Tryz.pinned (.plain (OpenSpec.ofChange aggJoinsSpec)) aggJoinsCard

/-- THE TIED CARD OF 'bushellaw14.AggRight'. -/
def aggRightCard : Claim7 := { stood := { row := aggRightRow, standIns := [], harness := (true, "f04b168d48a8c8cb3a305a733fd3ca73a7b05c97788978a7925542295f6558f3"), looks := false }, kinds := [], alts := [], laidByText := true, laidKinds := [.data, .data], laidTests := true, laidLooks := .later }
def AggRightCardSaid : Prop := Claim7.holds Tryz.pinned (.plain (OpenSpec.ofChange aggRightSpec)) aggRightCard

/-- THE TIED CARD OF 'bushellaw14.AggPuts'. -/
def aggPutsCard : Claim7 := { stood := { row := aggPutsRow, standIns := [], harness := (true, "f04b168d48a8c8cb3a305a733fd3ca73a7b05c97788978a7925542295f6558f3"), looks := false }, kinds := [], alts := [], laidByText := true, laidKinds := [.data, .data], laidTests := true, laidLooks := .later }
def AggPutsCardSaid : Prop := Claim7.holds Tryz.pinned (.plain (OpenSpec.ofChange aggPutsSpec)) aggPutsCard

/-- THE TIED CARD OF 'bushellaw14.AggGets'. -/
def aggGetsCard : Claim7 := { stood := { row := aggGetsRow, standIns := [], harness := (true, "f04b168d48a8c8cb3a305a733fd3ca73a7b05c97788978a7925542295f6558f3"), looks := false }, kinds := [], alts := [], laidByText := true, laidKinds := [.data, .data], laidTests := true, laidLooks := .later }
def AggGetsCardSaid : Prop := Claim7.holds Tryz.pinned (.plain (OpenSpec.ofChange aggGetsSpec)) aggGetsCard

/-- THE SECOND FORM's CARD OF 'bushellaw14.AggOnes'. -/
def aggOnesUptoCard : Claim7 := { stood := { row := aggOnesUptoRow, standIns := [], harness := (true, "f04b168d48a8c8cb3a305a733fd3ca73a7b05c97788978a7925542295f6558f3"), looks := false }, kinds := [], alts := [], laidByText := true, laidKinds := [.data, .data], laidTests := true, laidLooks := .later }
def AggOnesUptoCardSaid : Prop := Claim7.holds Tryz.pinned (.plain (OpenSpec.upto aggOnesSpec)) aggOnesUptoCard

/-- THE SECOND FORM's CARD OF 'bushellaw14.AggJoins'. -/
def aggJoinsUptoCard : Claim7 := { stood := { row := aggJoinsUptoRow, standIns := [], harness := (true, "f04b168d48a8c8cb3a305a733fd3ca73a7b05c97788978a7925542295f6558f3"), looks := false }, kinds := [], alts := [], laidByText := true, laidKinds := [.data, .data], laidTests := true, laidLooks := .later }
def AggJoinsUptoCardSaid : Prop := Claim7.holds Tryz.pinned (.plain (OpenSpec.upto aggJoinsSpec)) aggJoinsUptoCard

/-- THE SECOND FORM's CARD OF 'bushellaw14.AggRight'. -/
def aggRightUptoCard : Claim7 := { stood := { row := aggRightUptoRow, standIns := [], harness := (true, "f04b168d48a8c8cb3a305a733fd3ca73a7b05c97788978a7925542295f6558f3"), looks := false }, kinds := [], alts := [], laidByText := true, laidKinds := [.data, .data], laidTests := true, laidLooks := .later }
def AggRightUptoCardSaid : Prop := Claim7.holds Tryz.pinned (.plain (OpenSpec.upto aggRightSpec)) aggRightUptoCard

/-- THE SECOND FORM's CARD OF 'bushellaw14.AggPuts'. -/
def aggPutsUptoCard : Claim7 := { stood := { row := aggPutsUptoRow, standIns := [], harness := (true, "f04b168d48a8c8cb3a305a733fd3ca73a7b05c97788978a7925542295f6558f3"), looks := false }, kinds := [], alts := [], laidByText := true, laidKinds := [.data, .data], laidTests := true, laidLooks := .later }
def AggPutsUptoCardSaid : Prop := Claim7.holds Tryz.pinned (.plain (OpenSpec.upto aggPutsSpec)) aggPutsUptoCard

/-- THE SECOND FORM's CARD OF 'bushellaw14.AggGets'. -/
def aggGetsUptoCard : Claim7 := { stood := { row := aggGetsUptoRow, standIns := [], harness := (true, "f04b168d48a8c8cb3a305a733fd3ca73a7b05c97788978a7925542295f6558f3"), looks := false }, kinds := [], alts := [], laidByText := true, laidKinds := [.data, .data], laidTests := true, laidLooks := .later }
def AggGetsUptoCardSaid : Prop := Claim7.holds Tryz.pinned (.plain (OpenSpec.upto aggGetsSpec)) aggGetsUptoCard
end Rows
end Go.Proofs.YtigikgphipebiaaGreatDoor
