/-
  DERIVED. GIVEN WITH THE SEED: THE CARDS: each row of YtjfcnpanodkmnaaDoorRows.lean that lists a variable, with what it lists TIED to the program's text (the seventh form; the later family's looks); each row that meets fmt, with fmt's text TOLD by the authors' own Lean function (tested against real Go, not proved from fmt's source: count such statements apart). THE CARD IS WHAT COUNTS. Prove the row's statement (the work); the ties are given (YtjfcnpanodkmnaaDoorTie.lean); close each card by the builder's one call (the guide's Derived/Test/ToyasCard.lean, 'card_holds'). Laid BY PROGRAM, IN A SANDBOX (cutbox-door.mjs). By AI agents, Wed Nov 11 2026. No macro, syntax, notation, axiom, sorry.
-/
import Derived.Test.YtjfcnpanodkmnaaDoorRows
import GoSem.ClaimSeven
namespace Go.Proofs.YtjfcnpanodkmnaaDoor
namespace Rows

/-- THE TIED CARD OF 'bushellaw04.RatioRoots'. -/
def ratioRootsCard : Claim7 := { stood := { row := ratioRootsRow, standIns := [], harness := (true, "9505260d89cb2dda4cac6e839cbf7c39a9f20dfcdff70f6476731b2e6681b8af"), looks := false }, kinds := [], alts := [], laidByText := true, laidKinds := [.data], laidTests := true, laidLooks := .later }
def RatioRootsCardSaid : Prop := Claim7.holds Tryd.pinned (.plain (OpenSpec.ofChange ratioRootsSpec)) ratioRootsCard

/-- THE TIED CARD OF 'bushellaw04.RatioMeans'. -/
def ratioMeansCard : Claim7 := { stood := { row := ratioMeansRow, standIns := [], harness := (true, "9505260d89cb2dda4cac6e839cbf7c39a9f20dfcdff70f6476731b2e6681b8af"), looks := false }, kinds := [], alts := [], laidByText := true, laidKinds := [.data], laidTests := true, laidLooks := .later }
def RatioMeansCardSaid : Prop := Claim7.holds Tryd.pinned (.plain (OpenSpec.ofChange ratioMeansSpec)) ratioMeansCard

/-- THE TIED CARD OF 'bushellaw04.RatioBetween'. -/
def ratioBetweenCard : Claim7 := { stood := { row := ratioBetweenRow, standIns := [], harness := (true, "9505260d89cb2dda4cac6e839cbf7c39a9f20dfcdff70f6476731b2e6681b8af"), looks := false }, kinds := [], alts := [], laidByText := true, laidKinds := [.data], laidTests := true, laidLooks := .later }
def RatioBetweenCardSaid : Prop := Claim7.holds Tryd.pinned (.plain (OpenSpec.ofChange ratioBetweenSpec)) ratioBetweenCard

/-- THE SECOND FORM's CARD OF 'bushellaw04.RatioRoots'. -/
def ratioRootsUptoCard : Claim7 := { stood := { row := ratioRootsUptoRow, standIns := [], harness := (true, "9505260d89cb2dda4cac6e839cbf7c39a9f20dfcdff70f6476731b2e6681b8af"), looks := false }, kinds := [], alts := [], laidByText := true, laidKinds := [.data], laidTests := true, laidLooks := .later }
def RatioRootsUptoCardSaid : Prop := Claim7.holds Tryd.pinned (.plain (OpenSpec.upto ratioRootsSpec)) ratioRootsUptoCard

/-- THE SECOND FORM's CARD OF 'bushellaw04.RatioMeans'. -/
def ratioMeansUptoCard : Claim7 := { stood := { row := ratioMeansUptoRow, standIns := [], harness := (true, "9505260d89cb2dda4cac6e839cbf7c39a9f20dfcdff70f6476731b2e6681b8af"), looks := false }, kinds := [], alts := [], laidByText := true, laidKinds := [.data], laidTests := true, laidLooks := .later }
def RatioMeansUptoCardSaid : Prop := Claim7.holds Tryd.pinned (.plain (OpenSpec.upto ratioMeansSpec)) ratioMeansUptoCard

/-- THE SECOND FORM's CARD OF 'bushellaw04.RatioBetween'. -/
def ratioBetweenUptoCard : Claim7 := { stood := { row := ratioBetweenUptoRow, standIns := [], harness := (true, "9505260d89cb2dda4cac6e839cbf7c39a9f20dfcdff70f6476731b2e6681b8af"), looks := false }, kinds := [], alts := [], laidByText := true, laidKinds := [.data], laidTests := true, laidLooks := .later }
def RatioBetweenUptoCardSaid : Prop := Claim7.holds Tryd.pinned (.plain (OpenSpec.upto ratioBetweenSpec)) ratioBetweenUptoCard
end Rows
end Go.Proofs.YtjfcnpanodkmnaaDoor
