/-
  No cell of these rows narrows 'for every input' (looked for: loops, veiled, ifaces, maps, wideKeys, modest, calm, conditions, laid).
  DERIVED. THE GIVEN ROWS OF THIS SEAT. 4 by the template 'for every input the law returns true; each argument reads behind the call as it read before'; 0 by the template 'total and deterministic' (their statements: YtgbeedjcliajfaaTotals.lean).
  GIVEN WITH THE SEED: the statements are not yours to turn. If you find one false, say at which input.
  Laid BY PROGRAM, IN A SANDBOX (cutbox-rows.mjs): the forced cells as the released guide's own fill.sh prints them over the translation 02d841e910193779… (all of the seat's roots in one cut). By AI agents, Wed Nov 11 2026. No macro, syntax, notation, axiom, sorry.
-/
import Derived.Test.YtgbeedjcliajfaaChecked
import GoSem.Claim
import GoSem.ClaimJoined
import GoSem.ClaimMapViews
import Derived.JoinedTies
import Derived.KernelRfl
namespace Go.Proofs.Ytgbeedjcliajfaa
/- THE CELL 'sum', in the pinned program and in every row, IS THE sha256 OF THE DUMP (.gsa) THAT YtgbeedjcliajfaaProg.lean LOADS. Nothing in Lean hashes anything: it is a label: what it is worth is what the hold of that sum in a sandbox is worth. -/
noncomputable def Try.pinned : Pinned := { name := "ytgbeedjcliajfaa", sum := "02d841e9101937790931868d211ef4cff66a008d90c391d2fa226d5d54689f0c", checked := Try.checked }
namespace Rows
def none {H : Type} : Left H := { results := [], args := [] }

/-- 'bushellaw13.KeyOf': WHATEVER THE INPUT: true; the input reads as it did. -/
def keyOfSpec : ChangeSpec := { name := "keyOf", fn := fun _ => fun
  | [d1, d2, d3] => { results := [.lit (.bool true)], args := [d1, d2, d3] }
  | _ => none }
def keyOfRow : OpenClaim := { program := "ytgbeedjcliajfaa", sum := "02d841e9101937790931868d211ef4cff66a008d90c391d2fa226d5d54689f0c", func := "bushel/bushellaw13.KeyOf", spec := "keyOf", apart := false }
def KeyOfSaid : Prop := keyOfRow.holds Try.pinned (OpenSpec.ofChange keyOfSpec)

/-- ITS FALSE NEIGHBOUR: 'it returns false'. Refute it at one input. -/
def keyOfWrong : ChangeSpec := { name := "keyOf", fn := fun _ => fun
  | [d1, d2, d3] => { results := [.lit (.bool false)], args := [d1, d2, d3] }
  | _ => none }
def KeyOfWrongFalsely : Prop := keyOfRow.holds Try.pinned (OpenSpec.ofChange keyOfWrong)

/-- 'bushellaw13.KeyCodes': WHATEVER THE INPUT: true; the input reads as it did. -/
def keyCodesSpec : ChangeSpec := { name := "keyCodes", fn := fun _ => fun
  | [d1, d2] => { results := [.lit (.bool true)], args := [d1, d2] }
  | _ => none }
def keyCodesRow : OpenClaim := { program := "ytgbeedjcliajfaa", sum := "02d841e9101937790931868d211ef4cff66a008d90c391d2fa226d5d54689f0c", func := "bushel/bushellaw13.KeyCodes", spec := "keyCodes", apart := false }
def KeyCodesSaid : Prop := keyCodesRow.holds Try.pinned (OpenSpec.ofChange keyCodesSpec)

/-- ITS FALSE NEIGHBOUR: 'it returns false'. Refute it at one input. -/
def keyCodesWrong : ChangeSpec := { name := "keyCodes", fn := fun _ => fun
  | [d1, d2] => { results := [.lit (.bool false)], args := [d1, d2] }
  | _ => none }
def KeyCodesWrongFalsely : Prop := keyCodesRow.holds Try.pinned (OpenSpec.ofChange keyCodesWrong)

/-- 'bushellaw13.KeyTwice': WHATEVER THE INPUT: true; the input reads as it did. -/
def keyTwiceSpec : ChangeSpec := { name := "keyTwice", fn := fun _ => fun
  | [d1, d2, d3] => { results := [.lit (.bool true)], args := [d1, d2, d3] }
  | _ => none }
def keyTwiceRow : OpenClaim := { program := "ytgbeedjcliajfaa", sum := "02d841e9101937790931868d211ef4cff66a008d90c391d2fa226d5d54689f0c", func := "bushel/bushellaw13.KeyTwice", spec := "keyTwice", apart := false }
def KeyTwiceSaid : Prop := keyTwiceRow.holds Try.pinned (OpenSpec.ofChange keyTwiceSpec)

/-- ITS FALSE NEIGHBOUR: 'it returns false'. Refute it at one input. -/
def keyTwiceWrong : ChangeSpec := { name := "keyTwice", fn := fun _ => fun
  | [d1, d2, d3] => { results := [.lit (.bool false)], args := [d1, d2, d3] }
  | _ => none }
def KeyTwiceWrongFalsely : Prop := keyTwiceRow.holds Try.pinned (OpenSpec.ofChange keyTwiceWrong)

/-- 'bushellaw13.KeyOrders': WHATEVER THE INPUT: true; the input reads as it did. -/
def keyOrdersSpec : ChangeSpec := { name := "keyOrders", fn := fun _ => fun
  | [d1, d2, d3] => { results := [.lit (.bool true)], args := [d1, d2, d3] }
  | _ => none }
def keyOrdersRow : OpenClaim := { program := "ytgbeedjcliajfaa", sum := "02d841e9101937790931868d211ef4cff66a008d90c391d2fa226d5d54689f0c", func := "bushel/bushellaw13.KeyOrders", spec := "keyOrders", apart := false }
def KeyOrdersSaid : Prop := keyOrdersRow.holds Try.pinned (OpenSpec.ofChange keyOrdersSpec)

/-- ITS FALSE NEIGHBOUR: 'it returns false'. Refute it at one input. -/
def keyOrdersWrong : ChangeSpec := { name := "keyOrders", fn := fun _ => fun
  | [d1, d2, d3] => { results := [.lit (.bool false)], args := [d1, d2, d3] }
  | _ => none }
def KeyOrdersWrongFalsely : Prop := keyOrdersRow.holds Try.pinned (OpenSpec.ofChange keyOrdersWrong)

/- THE SECOND FORM. 'bulk': how many values and letters a reading holds, each counted each time it is reached (what is shared counts as often as it is met; a slice's spare places count too). A statement '..UptoSaid' is the law's where the arguments, and the package variables that the reading takes, are together of bulk at most 1048576: NARROWER than '..Said'. Prove '..Said' where nothing that the law and all that it calls make is longer than what came in: it says more and counts as full. Else prove '..UptoSaid'. A law counts once. -/
mutual
def uptoBulk {H : Type} : DataW H → Nat
  | .lit (.string bytes) => bytes.length + 1
  | .lit _ => 1
  | .nil => 1
  | .ptr d => uptoBulk d + 1
  | .slice elems spare => uptoBulkAll elems + uptoBulkAll spare + 1
  | .agg parts => uptoBulkAll parts + 1
  | .iface _ d => uptoBulk d + 1
  | .map entries => uptoBulkEntries entries + 1
  | .held _ => 1
def uptoBulkAll {H : Type} : List (DataW H) → Nat
  | [] => 0
  | d :: r => uptoBulk d + uptoBulkAll r
def uptoBulkEntries {H : Type} : List (Lit × DataW H) → Nat
  | [] => 0
  | x :: r => uptoBulkEntry x + uptoBulkEntries r
def uptoBulkEntry {H : Type} : Lit × DataW H → Nat
  | (.string bytes, d) => bytes.length + uptoBulk d + 1
  | (_, d) => uptoBulk d + 1
 end
def uptoSmall : (H : Type) → List (DataW H) → Bool := fun _ ds => decide (uptoBulkAll ds ≤ 1048576)
def OpenSpec.upto (s : _root_.Go.ChangeSpec) : _root_.Go.OpenSpec := { _root_.Go.OpenSpec.ofChange s with cond := some uptoSmall }

/-- 'bushellaw13.KeyOf', WHERE WHAT IT READS IS OF BULK AT MOST 1048576: true; the input reads as it did. -/
def keyOfUptoRow : OpenClaim := { program := "ytgbeedjcliajfaa", sum := "02d841e9101937790931868d211ef4cff66a008d90c391d2fa226d5d54689f0c", func := "bushel/bushellaw13.KeyOf", spec := "keyOf", apart := false, narrowed := true }
def KeyOfUptoSaid : Prop := keyOfUptoRow.holds Try.pinned (OpenSpec.upto keyOfSpec)

/-- 'bushellaw13.KeyCodes', WHERE WHAT IT READS IS OF BULK AT MOST 1048576: true; the input reads as it did. -/
def keyCodesUptoRow : OpenClaim := { program := "ytgbeedjcliajfaa", sum := "02d841e9101937790931868d211ef4cff66a008d90c391d2fa226d5d54689f0c", func := "bushel/bushellaw13.KeyCodes", spec := "keyCodes", apart := false, narrowed := true }
def KeyCodesUptoSaid : Prop := keyCodesUptoRow.holds Try.pinned (OpenSpec.upto keyCodesSpec)

/-- 'bushellaw13.KeyTwice', WHERE WHAT IT READS IS OF BULK AT MOST 1048576: true; the input reads as it did. -/
def keyTwiceUptoRow : OpenClaim := { program := "ytgbeedjcliajfaa", sum := "02d841e9101937790931868d211ef4cff66a008d90c391d2fa226d5d54689f0c", func := "bushel/bushellaw13.KeyTwice", spec := "keyTwice", apart := false, narrowed := true }
def KeyTwiceUptoSaid : Prop := keyTwiceUptoRow.holds Try.pinned (OpenSpec.upto keyTwiceSpec)

/-- 'bushellaw13.KeyOrders', WHERE WHAT IT READS IS OF BULK AT MOST 1048576: true; the input reads as it did. -/
def keyOrdersUptoRow : OpenClaim := { program := "ytgbeedjcliajfaa", sum := "02d841e9101937790931868d211ef4cff66a008d90c391d2fa226d5d54689f0c", func := "bushel/bushellaw13.KeyOrders", spec := "keyOrders", apart := false, narrowed := true }
def KeyOrdersUptoSaid : Prop := keyOrdersUptoRow.holds Try.pinned (OpenSpec.upto keyOrdersSpec)

end Rows
end Go.Proofs.Ytgbeedjcliajfaa
