/-
  DERIVED. GIVEN WITH THE SEED: THE CARDS: each row of YtigikgphipebiaaDoorRows.lean that lists a variable, with what it lists TIED to the program's text (the seventh form; the later family's looks); each row that meets fmt, with fmt's text TOLD by the authors' own Lean function (tested against real Go, not proved from fmt's source: count such statements apart). THE CARD IS WHAT COUNTS. Prove the row's statement (the work); the ties are given (YtigikgphipebiaaDoorTie.lean); close each card by the builder's one call (the guide's Derived/Test/ToyasCard.lean, 'card_holds'). Laid BY PROGRAM, IN A SANDBOX (cutbox-door.mjs). By AI agents, Wed Nov 11 2026. No macro, syntax, notation, axiom, sorry.
-/
import Derived.Test.YtigikgphipebiaaDoorRows
import GoSem.ClaimSeven
namespace Go.Proofs.YtigikgphipebiaaDoor
namespace Rows

/-- THE TIED CARD OF 'bushellaw14.AggOrders'. -/
def aggOrdersCard : Claim7 := { stood := { row := aggOrdersRow, standIns := [], harness := (true, "e05eab0e0eb724ba24c22c7b2f9a1ea8bab5dc45e8c0f5bfa29e0d1fc98c35f5"), looks := false }, kinds := [], alts := [], laidByText := true, laidKinds := [.data, .data], laidTests := true, laidLooks := .later }
def AggOrdersCardSaid : Prop := Claim7.holds Tryd.pinned (.plain (OpenSpec.ofChange aggOrdersSpec)) aggOrdersCard

/-- THE SECOND FORM's CARD OF 'bushellaw14.AggOrders'. -/
def aggOrdersUptoCard : Claim7 := { stood := { row := aggOrdersUptoRow, standIns := [], harness := (true, "e05eab0e0eb724ba24c22c7b2f9a1ea8bab5dc45e8c0f5bfa29e0d1fc98c35f5"), looks := false }, kinds := [], alts := [], laidByText := true, laidKinds := [.data, .data], laidTests := true, laidLooks := .later }
def AggOrdersUptoCardSaid : Prop := Claim7.holds Tryd.pinned (.plain (OpenSpec.upto aggOrdersSpec)) aggOrdersUptoCard
end Rows
end Go.Proofs.YtigikgphipebiaaDoor
