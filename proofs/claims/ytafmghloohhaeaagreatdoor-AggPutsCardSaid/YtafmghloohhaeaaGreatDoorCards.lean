/-
  DERIVED. GIVEN WITH THE SEED: THE CARDS: each row of YtafmghloohhaeaaGreatDoorRows.lean that lists a variable, with what it lists TIED to the program's text (the seventh form; the later family's looks); each row that meets fmt, with fmt's text TOLD by the authors' own Lean function (tested against real Go, not proved from fmt's source: count such statements apart). THE CARD IS WHAT COUNTS. Prove the row's statement (the work); the ties are given (YtafmghloohhaeaaGreatDoorTie.lean); close each card by the builder's one call (the guide's Derived/Test/ToyasCard.lean, 'card_holds'). Laid BY PROGRAM, IN A SANDBOX (cutbox-door.mjs). By AI agents, Wed Nov 11 2026. No macro, syntax, notation, axiom, sorry.
-/
import Derived.Test.YtafmghloohhaeaaGreatDoorRows
import GoSem.ClaimSeven
namespace Go.Proofs.YtafmghloohhaeaaGreatDoor
namespace Rows

/-- THE TIED CARD OF 'bushellaw14.AggPuts'. -/
def aggPutsCard : Claim7 := { stood := { row := aggPutsRow, standIns := [], harness := (true, "81905b5fd0568a55c5382dde10bdb94f9abe2c1247d1e2539e47b89c88b49316"), looks := false }, kinds := [], alts := [], laidByText := true, laidKinds := [.data, .data], laidTests := true, laidLooks := .later }
def AggPutsCardSaid : Prop := Claim7.holds Tryz.pinned (.plain (OpenSpec.ofChange aggPutsSpec)) aggPutsCard

/-- THE SECOND FORM's CARD OF 'bushellaw14.AggPuts'. -/
def aggPutsUptoCard : Claim7 := { stood := { row := aggPutsUptoRow, standIns := [], harness := (true, "81905b5fd0568a55c5382dde10bdb94f9abe2c1247d1e2539e47b89c88b49316"), looks := false }, kinds := [], alts := [], laidByText := true, laidKinds := [.data, .data], laidTests := true, laidLooks := .later }
def AggPutsUptoCardSaid : Prop := Claim7.holds Tryz.pinned (.plain (OpenSpec.upto aggPutsSpec)) aggPutsUptoCard
end Rows
end Go.Proofs.YtafmghloohhaeaaGreatDoor
