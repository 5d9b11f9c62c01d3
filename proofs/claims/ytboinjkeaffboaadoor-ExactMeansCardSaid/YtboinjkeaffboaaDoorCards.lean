/-
  DERIVED. GIVEN WITH THE SEED: THE CARDS: each row of YtboinjkeaffboaaDoorRows.lean that lists a variable, with what it lists TIED to the program's text (the seventh form; the later family's looks); each row that meets fmt, with fmt's text TOLD by the authors' own Lean function (tested against real Go, not proved from fmt's source: count such statements apart). THE CARD IS WHAT COUNTS. Prove the row's statement (the work); the ties are given (YtboinjkeaffboaaDoorTie.lean); close each card by the builder's one call (the guide's Derived/Test/ToyasCard.lean, 'card_holds'). Laid BY PROGRAM, IN A SANDBOX (cutbox-door.mjs). By AI agents, Wed Nov 11 2026. No macro, syntax, notation, axiom, sorry.
-/
import Derived.Test.YtboinjkeaffboaaDoorRows
import GoSem.ClaimSeven
namespace Go.Proofs.YtboinjkeaffboaaDoor
namespace Rows

/-- THE TIED CARD OF 'bushellaw05.ExactSums'. -/
def exactSumsCard : Claim7 := { stood := { row := exactSumsRow, standIns := [], harness := (true, "a580ef9def3eb4505dbc7414bddf7453ff368afc7cc55d428491ca518d88ce75"), looks := false }, kinds := [], alts := [], laidByText := true, laidKinds := [.data, .data], laidTests := true, laidLooks := .later }
def ExactSumsCardSaid : Prop := Claim7.holds Tryd.pinned (.plain (OpenSpec.ofChange exactSumsSpec)) exactSumsCard

/-- THE TIED CARD OF 'bushellaw05.ExactMeans'. -/
def exactMeansCard : Claim7 := { stood := { row := exactMeansRow, standIns := [], harness := (true, "a580ef9def3eb4505dbc7414bddf7453ff368afc7cc55d428491ca518d88ce75"), looks := false }, kinds := [], alts := [], laidByText := true, laidKinds := [.data, .data], laidTests := true, laidLooks := .later }
def ExactMeansCardSaid : Prop := Claim7.holds Tryd.pinned (.plain (OpenSpec.ofChange exactMeansSpec)) exactMeansCard

/-- THE TIED CARD OF 'bushellaw05.ExactOrders'. -/
def exactOrdersCard : Claim7 := { stood := { row := exactOrdersRow, standIns := [], harness := (true, "a580ef9def3eb4505dbc7414bddf7453ff368afc7cc55d428491ca518d88ce75"), looks := false }, kinds := [], alts := [], laidByText := true, laidKinds := [.data, .data], laidTests := true, laidLooks := .later }
def ExactOrdersCardSaid : Prop := Claim7.holds Tryd.pinned (.plain (OpenSpec.ofChange exactOrdersSpec)) exactOrdersCard

/-- THE TIED CARD OF 'bushellaw05.ExactReads'. -/
def exactReadsCard : Claim7 := { stood := { row := exactReadsRow, standIns := [], harness := (true, "a580ef9def3eb4505dbc7414bddf7453ff368afc7cc55d428491ca518d88ce75"), looks := false }, kinds := [], alts := [], laidByText := true, laidKinds := [.data, .data], laidTests := true, laidLooks := .later }
def ExactReadsCardSaid : Prop := Claim7.holds Tryd.pinned (.plain (OpenSpec.ofChange exactReadsSpec)) exactReadsCard

/-- THE TIED CARD OF 'bushellaw05.ExactJoins'. -/
def exactJoinsCard : Claim7 := { stood := { row := exactJoinsRow, standIns := [], harness := (true, "a580ef9def3eb4505dbc7414bddf7453ff368afc7cc55d428491ca518d88ce75"), looks := false }, kinds := [], alts := [], laidByText := true, laidKinds := [.data, .data], laidTests := true, laidLooks := .later }
def ExactJoinsCardSaid : Prop := Claim7.holds Tryd.pinned (.plain (OpenSpec.ofChange exactJoinsSpec)) exactJoinsCard

/-- THE TIED CARD OF 'bushellaw05.ExactNobody'. -/
def exactNobodyCard : Claim7 := { stood := { row := exactNobodyRow, standIns := [], harness := (true, "a580ef9def3eb4505dbc7414bddf7453ff368afc7cc55d428491ca518d88ce75"), looks := false }, kinds := [], alts := [], laidByText := true, laidKinds := [.data, .data], laidTests := true, laidLooks := .later }
def ExactNobodyCardSaid : Prop := Claim7.holds Tryd.pinned (.plain (OpenSpec.ofChange exactNobodySpec)) exactNobodyCard

/-- THE SECOND FORM's CARD OF 'bushellaw05.ExactSums'. -/
def exactSumsUptoCard : Claim7 := { stood := { row := exactSumsUptoRow, standIns := [], harness := (true, "a580ef9def3eb4505dbc7414bddf7453ff368afc7cc55d428491ca518d88ce75"), looks := false }, kinds := [], alts := [], laidByText := true, laidKinds := [.data, .data], laidTests := true, laidLooks := .later }
def ExactSumsUptoCardSaid : Prop := Claim7.holds Tryd.pinned (.plain (OpenSpec.upto exactSumsSpec)) exactSumsUptoCard

/-- THE SECOND FORM's CARD OF 'bushellaw05.ExactMeans'. -/
def exactMeansUptoCard : Claim7 := { stood := { row := exactMeansUptoRow, standIns := [], harness := (true, "a580ef9def3eb4505dbc7414bddf7453ff368afc7cc55d428491ca518d88ce75"), looks := false }, kinds := [], alts := [], laidByText := true, laidKinds := [.data, .data], laidTests := true, laidLooks := .later }
def ExactMeansUptoCardSaid : Prop := Claim7.holds Tryd.pinned (.plain (OpenSpec.upto exactMeansSpec)) exactMeansUptoCard

/-- THE SECOND FORM's CARD OF 'bushellaw05.ExactOrders'. -/
def exactOrdersUptoCard : Claim7 := { stood := { row := exactOrdersUptoRow, standIns := [], harness := (true, "a580ef9def3eb4505dbc7414bddf7453ff368afc7cc55d428491ca518d88ce75"), looks := false }, kinds := [], alts := [], laidByText := true, laidKinds := [.data, .data], laidTests := true, laidLooks := .later }
def ExactOrdersUptoCardSaid : Prop := Claim7.holds Tryd.pinned (.plain (OpenSpec.upto exactOrdersSpec)) exactOrdersUptoCard

/-- THE SECOND FORM's CARD OF 'bushellaw05.ExactReads'. -/
def exactReadsUptoCard : Claim7 := { stood := { row := exactReadsUptoRow, standIns := [], harness := (true, "a580ef9def3eb4505dbc7414bddf7453ff368afc7cc55d428491ca518d88ce75"), looks := false }, kinds := [], alts := [], laidByText := true, laidKinds := [.data, .data], laidTests := true, laidLooks := .later }
def ExactReadsUptoCardSaid : Prop := Claim7.holds Tryd.pinned (.plain (OpenSpec.upto exactReadsSpec)) exactReadsUptoCard

/-- THE SECOND FORM's CARD OF 'bushellaw05.ExactJoins'. -/
def exactJoinsUptoCard : Claim7 := { stood := { row := exactJoinsUptoRow, standIns := [], harness := (true, "a580ef9def3eb4505dbc7414bddf7453ff368afc7cc55d428491ca518d88ce75"), looks := false }, kinds := [], alts := [], laidByText := true, laidKinds := [.data, .data], laidTests := true, laidLooks := .later }
def ExactJoinsUptoCardSaid : Prop := Claim7.holds Tryd.pinned (.plain (OpenSpec.upto exactJoinsSpec)) exactJoinsUptoCard

/-- THE SECOND FORM's CARD OF 'bushellaw05.ExactNobody'. -/
def exactNobodyUptoCard : Claim7 := { stood := { row := exactNobodyUptoRow, standIns := [], harness := (true, "a580ef9def3eb4505dbc7414bddf7453ff368afc7cc55d428491ca518d88ce75"), looks := false }, kinds := [], alts := [], laidByText := true, laidKinds := [.data, .data], laidTests := true, laidLooks := .later }
def ExactNobodyUptoCardSaid : Prop := Claim7.holds Tryd.pinned (.plain (OpenSpec.upto exactNobodySpec)) exactNobodyUptoCard
end Rows
end Go.Proofs.YtboinjkeaffboaaDoor
