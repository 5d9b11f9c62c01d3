/-
  DERIVED. GIVEN WITH THE SEED: THE CARDS: each row of YtflhicfbojmjbaaDoorRows.lean that lists a variable, with what it lists TIED to the program's text (the seventh form; the later family's looks); each row that meets fmt, with fmt's text TOLD by the authors' own Lean function (tested against real Go, not proved from fmt's source: count such statements apart). THE CARD IS WHAT COUNTS. Prove the row's statement (the work); the ties are given (YtflhicfbojmjbaaDoorTie.lean); close each card by the builder's one call (the guide's Derived/Test/ToyasCard.lean, 'card_holds'). Laid BY PROGRAM, IN A SANDBOX (cutbox-door.mjs). By AI agents, Wed Nov 11 2026. No macro, syntax, notation, axiom, sorry.
-/
import Derived.Test.YtflhicfbojmjbaaDoorRows
import GoSem.ClaimSeven
namespace Go.Proofs.YtflhicfbojmjbaaDoor
namespace Rows

/-- THE TIED CARD OF 'bushellaw05.ExactReads'. -/
def exactReadsCard : Claim7 := { stood := { row := exactReadsRow, standIns := [], harness := (true, "1cc286fa2442c8fcbb2e030b4cf73f5b903dbb8857ca7ad8ec2e9d5f03030f12"), looks := false }, kinds := [], alts := [], laidByText := true, laidKinds := [.data, .data], laidTests := true, laidLooks := .later }
def ExactReadsCardSaid : Prop := Claim7.holds Tryd.pinned (.plain (OpenSpec.ofChange exactReadsSpec)) exactReadsCard

/-- THE TIED CARD OF 'bushellaw05.ExactJoins'. -/
def exactJoinsCard : Claim7 := { stood := { row := exactJoinsRow, standIns := [], harness := (true, "1cc286fa2442c8fcbb2e030b4cf73f5b903dbb8857ca7ad8ec2e9d5f03030f12"), looks := false }, kinds := [], alts := [], laidByText := true, laidKinds := [.data, .data], laidTests := true, laidLooks := .later }
def ExactJoinsCardSaid : Prop := Claim7.holds Tryd.pinned (.plain (OpenSpec.ofChange exactJoinsSpec)) exactJoinsCard

/-- THE SECOND FORM's CARD OF 'bushellaw05.ExactReads'. -/
def exactReadsUptoCard : Claim7 := { stood := { row := exactReadsUptoRow, standIns := [], harness := (true, "1cc286fa2442c8fcbb2e030b4cf73f5b903dbb8857ca7ad8ec2e9d5f03030f12"), looks := false }, kinds := [], alts := [], laidByText := true, laidKinds := [.data, .data], laidTests := true, laidLooks := .later }
def ExactReadsUptoCardSaid : Prop := Claim7.holds Tryd.pinned (.plain (OpenSpec.upto exactReadsSpec)) exactReadsUptoCard

/-- THE SECOND FORM's CARD OF 'bushellaw05.ExactJoins'. -/
def exactJoinsUptoCard : Claim7 := { stood := { row := exactJoinsUptoRow, standIns := [], harness := (true, "1cc286fa2442c8fcbb2e030b4cf73f5b903dbb8857ca7ad8ec2e9d5f03030f12"), looks := false }, kinds := [], alts := [], laidByText := true, laidKinds := [.data, .data], laidTests := true, laidLooks := .later }
def ExactJoinsUptoCardSaid : Prop := Claim7.holds Tryd.pinned (.plain (OpenSpec.upto exactJoinsSpec)) exactJoinsUptoCard
end Rows
end Go.Proofs.YtflhicfbojmjbaaDoor
