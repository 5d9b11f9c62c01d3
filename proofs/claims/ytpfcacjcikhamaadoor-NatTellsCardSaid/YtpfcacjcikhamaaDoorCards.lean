/-
  DERIVED. GIVEN WITH THE SEED: THE CARDS: each row of YtpfcacjcikhamaaDoorRows.lean that lists a variable, with what it lists TIED to the program's text (the seventh form; the later family's looks); each row that meets fmt, with fmt's text TOLD by the authors' own Lean function (tested against real Go, not proved from fmt's source: count such statements apart). THE CARD IS WHAT COUNTS. Prove the row's statement (the work); the ties are given (YtpfcacjcikhamaaDoorTie.lean); close each card by the builder's one call (the guide's Derived/Test/ToyasCard.lean, 'card_holds'). Laid BY PROGRAM, IN A SANDBOX (cutbox-door.mjs). By AI agents, Wed Nov 11 2026. No macro, syntax, notation, axiom, sorry.
-/
import Derived.Test.YtpfcacjcikhamaaDoorRows
import GoSem.ClaimSeven
namespace Go.Proofs.YtpfcacjcikhamaaDoor
namespace Rows

/-- THE TIED CARD OF 'bushellaw02.NatTells'. -/
def natTellsCard : Claim7 := { stood := { row := natTellsRow, standIns := [], harness := (true, "0bea994de09ff09e00a8c643c04c51d98e974f4a66d79104993aa834ee043884"), looks := false }, kinds := [], alts := [], laidByText := true, laidKinds := [.data], laidTests := true, laidLooks := .later }
def NatTellsCardSaid : Prop := Claim7.holds Tryd.pinned (.plain (OpenSpec.ofChange natTellsSpec)) natTellsCard

/-- THE TIED CARD OF 'bushellaw02.NatTexts'. -/
def natTextsCard : Claim7 := { stood := { row := natTextsRow, standIns := [], harness := (true, "0bea994de09ff09e00a8c643c04c51d98e974f4a66d79104993aa834ee043884"), looks := false }, kinds := [], alts := [], laidByText := true, laidKinds := [.data], laidTests := true, laidLooks := .later }
def NatTextsCardSaid : Prop := Claim7.holds Tryd.pinned (.plain (OpenSpec.ofChange natTextsSpec)) natTextsCard

/-- THE TIED CARD OF 'bushellaw03.FloTells'. -/
def floTellsCard : Claim7 := { stood := { row := floTellsRow, standIns := [], harness := (true, "0bea994de09ff09e00a8c643c04c51d98e974f4a66d79104993aa834ee043884"), looks := false }, kinds := [], alts := [], laidByText := true, laidKinds := [.data, .data], laidTests := true, laidLooks := .later }
def FloTellsCardSaid : Prop := Claim7.holds Tryd.pinned (.plain (OpenSpec.ofChange floTellsSpec)) floTellsCard

/-- THE TIED CARD OF 'bushellaw03.FloOrders'. -/
def floOrdersCard : Claim7 := { stood := { row := floOrdersRow, standIns := [], harness := (true, "0bea994de09ff09e00a8c643c04c51d98e974f4a66d79104993aa834ee043884"), looks := false }, kinds := [], alts := [], laidByText := true, laidKinds := [.data, .data], laidTests := true, laidLooks := .later }
def FloOrdersCardSaid : Prop := Claim7.holds Tryd.pinned (.plain (OpenSpec.ofChange floOrdersSpec)) floOrdersCard

/-- THE TIED CARD OF 'bushellaw03.FloJoins'. -/
def floJoinsCard : Claim7 := { stood := { row := floJoinsRow, standIns := [], harness := (true, "0bea994de09ff09e00a8c643c04c51d98e974f4a66d79104993aa834ee043884"), looks := false }, kinds := [], alts := [], laidByText := true, laidKinds := [.data, .data], laidTests := true, laidLooks := .later }
def FloJoinsCardSaid : Prop := Claim7.holds Tryd.pinned (.plain (OpenSpec.ofChange floJoinsSpec)) floJoinsCard

/-- THE TIED CARD OF 'bushellaw03.FloKeys'. -/
def floKeysCard : Claim7 := { stood := { row := floKeysRow, standIns := [], harness := (true, "0bea994de09ff09e00a8c643c04c51d98e974f4a66d79104993aa834ee043884"), looks := false }, kinds := [], alts := [], laidByText := true, laidKinds := [.data, .data], laidTests := true, laidLooks := .later }
def FloKeysCardSaid : Prop := Claim7.holds Tryd.pinned (.plain (OpenSpec.ofChange floKeysSpec)) floKeysCard

/-- THE TIED CARD OF 'bushellaw03.FloSteps'. -/
def floStepsCard : Claim7 := { stood := { row := floStepsRow, standIns := [], harness := (true, "0bea994de09ff09e00a8c643c04c51d98e974f4a66d79104993aa834ee043884"), looks := false }, kinds := [], alts := [], laidByText := true, laidKinds := [.data, .data], laidTests := true, laidLooks := .later }
def FloStepsCardSaid : Prop := Claim7.holds Tryd.pinned (.plain (OpenSpec.ofChange floStepsSpec)) floStepsCard

/-- THE SECOND FORM's CARD OF 'bushellaw02.NatTells'. -/
def natTellsUptoCard : Claim7 := { stood := { row := natTellsUptoRow, standIns := [], harness := (true, "0bea994de09ff09e00a8c643c04c51d98e974f4a66d79104993aa834ee043884"), looks := false }, kinds := [], alts := [], laidByText := true, laidKinds := [.data], laidTests := true, laidLooks := .later }
def NatTellsUptoCardSaid : Prop := Claim7.holds Tryd.pinned (.plain (OpenSpec.upto natTellsSpec)) natTellsUptoCard

/-- THE SECOND FORM's CARD OF 'bushellaw02.NatTexts'. -/
def natTextsUptoCard : Claim7 := { stood := { row := natTextsUptoRow, standIns := [], harness := (true, "0bea994de09ff09e00a8c643c04c51d98e974f4a66d79104993aa834ee043884"), looks := false }, kinds := [], alts := [], laidByText := true, laidKinds := [.data], laidTests := true, laidLooks := .later }
def NatTextsUptoCardSaid : Prop := Claim7.holds Tryd.pinned (.plain (OpenSpec.upto natTextsSpec)) natTextsUptoCard

/-- THE SECOND FORM's CARD OF 'bushellaw03.FloTells'. -/
def floTellsUptoCard : Claim7 := { stood := { row := floTellsUptoRow, standIns := [], harness := (true, "0bea994de09ff09e00a8c643c04c51d98e974f4a66d79104993aa834ee043884"), looks := false }, kinds := [], alts := [], laidByText := true, laidKinds := [.data, .data], laidTests := true, laidLooks := .later }
def FloTellsUptoCardSaid : Prop := Claim7.holds Tryd.pinned (.plain (OpenSpec.upto floTellsSpec)) floTellsUptoCard

/-- THE SECOND FORM's CARD OF 'bushellaw03.FloOrders'. -/
def floOrdersUptoCard : Claim7 := { stood := { row := floOrdersUptoRow, standIns := [], harness := (true, "0bea994de09ff09e00a8c643c04c51d98e974f4a66d79104993aa834ee043884"), looks := false }, kinds := [], alts := [], laidByText := true, laidKinds := [.data, .data], laidTests := true, laidLooks := .later }
def FloOrdersUptoCardSaid : Prop := Claim7.holds Tryd.pinned (.plain (OpenSpec.upto floOrdersSpec)) floOrdersUptoCard

/-- THE SECOND FORM's CARD OF 'bushellaw03.FloJoins'. -/
def floJoinsUptoCard : Claim7 := { stood := { row := floJoinsUptoRow, standIns := [], harness := (true, "0bea994de09ff09e00a8c643c04c51d98e974f4a66d79104993aa834ee043884"), looks := false }, kinds := [], alts := [], laidByText := true, laidKinds := [.data, .data], laidTests := true, laidLooks := .later }
def FloJoinsUptoCardSaid : Prop := Claim7.holds Tryd.pinned (.plain (OpenSpec.upto floJoinsSpec)) floJoinsUptoCard

/-- THE SECOND FORM's CARD OF 'bushellaw03.FloKeys'. -/
def floKeysUptoCard : Claim7 := { stood := { row := floKeysUptoRow, standIns := [], harness := (true, "0bea994de09ff09e00a8c643c04c51d98e974f4a66d79104993aa834ee043884"), looks := false }, kinds := [], alts := [], laidByText := true, laidKinds := [.data, .data], laidTests := true, laidLooks := .later }
def FloKeysUptoCardSaid : Prop := Claim7.holds Tryd.pinned (.plain (OpenSpec.upto floKeysSpec)) floKeysUptoCard

/-- THE SECOND FORM's CARD OF 'bushellaw03.FloSteps'. -/
def floStepsUptoCard : Claim7 := { stood := { row := floStepsUptoRow, standIns := [], harness := (true, "0bea994de09ff09e00a8c643c04c51d98e974f4a66d79104993aa834ee043884"), looks := false }, kinds := [], alts := [], laidByText := true, laidKinds := [.data, .data], laidTests := true, laidLooks := .later }
def FloStepsUptoCardSaid : Prop := Claim7.holds Tryd.pinned (.plain (OpenSpec.upto floStepsSpec)) floStepsUptoCard
end Rows
end Go.Proofs.YtpfcacjcikhamaaDoor
