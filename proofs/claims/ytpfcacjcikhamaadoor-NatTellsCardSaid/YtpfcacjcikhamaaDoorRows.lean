/-
  NARROWER THAN 'FOR EVERY INPUT', by the rows' own cells (each row's printed sentence says how): NatTells: laid · NatTexts: laid · FloTells: laid · FloOrders: laid · FloJoins: laid · FloKeys: laid · FloSteps: laid.
  DERIVED. THE GIVEN ROWS OF THIS SEAT. 7 by the template 'for every input the law returns true; each argument reads behind the call as it read before'; 0 by the template 'total and deterministic' (their statements: YtpfcacjcikhamaaDoorTotals.lean).
  GIVEN WITH THE SEED: the statements are not yours to turn. If you find one false, say at which input.
  Laid BY PROGRAM, IN A SANDBOX (cutbox-rows.mjs): the forced cells as the released guide's own fill.sh prints them over the translation b09824b55b70c50d… (all of the seat's roots in one cut). By AI agents, Wed Nov 11 2026. No macro, syntax, notation, axiom, sorry.
-/
import Derived.Test.YtpfcacjcikhamaaDoorChecked
import GoSem.Claim
import GoSem.ClaimJoined
import GoSem.ClaimMapViews
import Derived.JoinedTies
import Derived.KernelRfl
namespace Go.Proofs.YtpfcacjcikhamaaDoor
/- THE CELL 'sum', in the pinned program and in every row, IS THE sha256 OF THE DUMP (.gsa) THAT YtpfcacjcikhamaaDoorProg.lean LOADS. Nothing in Lean hashes anything: it is a label: what it is worth is what the hold of that sum in a sandbox is worth. -/
noncomputable def Tryd.pinned : Pinned := { name := "ytpfcacjcikhamaadoor", sum := "b09824b55b70c50d0a17c66fa000085b5a18573fd6975d5a2fa6a8b9493bd97f", checked := Tryd.checked }
namespace Rows
def none {H : Type} : Left H := { results := [], args := [] }

/- WHAT THE LISTED PACKAGE-LEVEL VARIABLES READ AS WHEN THE CALL BEGINS. Each datum BY PROGRAM (the guide's laid-datum.mjs) off the statement by which the dump's own 'gosem.cut.vars' lays the variable. In a bare row this is a premise. The card (YtpfcacjcikhamaaDoorCards.lean) ties it to the program's text. -/
def laid_math_bits_deBruijn32tab {H : Type} : DataW H := .agg [.lit (.int .u8 0), .lit (.int .u8 1), .lit (.int .u8 28), .lit (.int .u8 2), .lit (.int .u8 29), .lit (.int .u8 14), .lit (.int .u8 24), .lit (.int .u8 3), .lit (.int .u8 30), .lit (.int .u8 22), .lit (.int .u8 20), .lit (.int .u8 15), .lit (.int .u8 25), .lit (.int .u8 17), .lit (.int .u8 4), .lit (.int .u8 8), .lit (.int .u8 31), .lit (.int .u8 27), .lit (.int .u8 13), .lit (.int .u8 23), .lit (.int .u8 21), .lit (.int .u8 19), .lit (.int .u8 16), .lit (.int .u8 7), .lit (.int .u8 26), .lit (.int .u8 12), .lit (.int .u8 18), .lit (.int .u8 6), .lit (.int .u8 11), .lit (.int .u8 5), .lit (.int .u8 10), .lit (.int .u8 9)]
def laid_math_bits_deBruijn64tab {H : Type} : DataW H := .agg [.lit (.int .u8 0), .lit (.int .u8 1), .lit (.int .u8 56), .lit (.int .u8 2), .lit (.int .u8 57), .lit (.int .u8 49), .lit (.int .u8 28), .lit (.int .u8 3), .lit (.int .u8 61), .lit (.int .u8 58), .lit (.int .u8 42), .lit (.int .u8 50), .lit (.int .u8 38), .lit (.int .u8 29), .lit (.int .u8 17), .lit (.int .u8 4), .lit (.int .u8 62), .lit (.int .u8 47), .lit (.int .u8 59), .lit (.int .u8 36), .lit (.int .u8 45), .lit (.int .u8 43), .lit (.int .u8 51), .lit (.int .u8 22), .lit (.int .u8 53), .lit (.int .u8 39), .lit (.int .u8 33), .lit (.int .u8 30), .lit (.int .u8 24), .lit (.int .u8 18), .lit (.int .u8 12), .lit (.int .u8 5), .lit (.int .u8 63), .lit (.int .u8 55), .lit (.int .u8 48), .lit (.int .u8 27), .lit (.int .u8 60), .lit (.int .u8 41), .lit (.int .u8 37), .lit (.int .u8 16), .lit (.int .u8 46), .lit (.int .u8 35), .lit (.int .u8 44), .lit (.int .u8 21), .lit (.int .u8 52), .lit (.int .u8 32), .lit (.int .u8 23), .lit (.int .u8 11), .lit (.int .u8 54), .lit (.int .u8 26), .lit (.int .u8 40), .lit (.int .u8 15), .lit (.int .u8 34), .lit (.int .u8 20), .lit (.int .u8 31), .lit (.int .u8 10), .lit (.int .u8 25), .lit (.int .u8 14), .lit (.int .u8 19), .lit (.int .u8 9), .lit (.int .u8 13), .lit (.int .u8 8), .lit (.int .u8 7), .lit (.int .u8 6)]

/-- 'bushellaw02.NatTells': WHATEVER THE INPUT: true; the input reads as it did. -/
def natTellsSpec : ChangeSpec := { name := "natTells", fn := fun _ => fun
  | [d1, d2, d3] => { results := [.lit (.bool true)], args := [d1, d2, d3] }
  | _ => none }
def natTellsRow : OpenClaim := { program := "ytpfcacjcikhamaadoor", sum := "b09824b55b70c50d0a17c66fa000085b5a18573fd6975d5a2fa6a8b9493bd97f", func := "bushel/bushellaw02.NatTells", spec := "natTells", recurses := true, named := ["math/bits.overflowError", "math/bits.deBruijn32tab"], apart := false, laid := [("math/bits.deBruijn32tab", laid_math_bits_deBruijn32tab)] }
def NatTellsSaid : Prop := natTellsRow.holds Tryd.pinned (OpenSpec.ofChange natTellsSpec)

/-- ITS FALSE NEIGHBOUR: 'it returns false'. Refute it at one input. -/
def natTellsWrong : ChangeSpec := { name := "natTells", fn := fun _ => fun
  | [d1, d2, d3] => { results := [.lit (.bool false)], args := [d1, d2, d3] }
  | _ => none }
def NatTellsWrongFalsely : Prop := natTellsRow.holds Tryd.pinned (OpenSpec.ofChange natTellsWrong)

/-- 'bushellaw02.NatTexts': WHATEVER THE INPUT: true; the input reads as it did. -/
def natTextsSpec : ChangeSpec := { name := "natTexts", fn := fun _ => fun
  | [d1, d2] => { results := [.lit (.bool true)], args := [d1, d2] }
  | _ => none }
def natTextsRow : OpenClaim := { program := "ytpfcacjcikhamaadoor", sum := "b09824b55b70c50d0a17c66fa000085b5a18573fd6975d5a2fa6a8b9493bd97f", func := "bushel/bushellaw02.NatTexts", spec := "natTexts", named := ["math/bits.overflowError", "math/bits.deBruijn32tab"], apart := false, laid := [("math/bits.deBruijn32tab", laid_math_bits_deBruijn32tab)] }
def NatTextsSaid : Prop := natTextsRow.holds Tryd.pinned (OpenSpec.ofChange natTextsSpec)

/-- ITS FALSE NEIGHBOUR: 'it returns false'. Refute it at one input. -/
def natTextsWrong : ChangeSpec := { name := "natTexts", fn := fun _ => fun
  | [d1, d2] => { results := [.lit (.bool false)], args := [d1, d2] }
  | _ => none }
def NatTextsWrongFalsely : Prop := natTextsRow.holds Tryd.pinned (OpenSpec.ofChange natTextsWrong)

/-- 'bushellaw03.FloTells': WHATEVER THE INPUT: true; the input reads as it did. -/
def floTellsSpec : ChangeSpec := { name := "floTells", fn := fun _ => fun
  | [d] => { results := [.lit (.bool true)], args := [d] }
  | _ => none }
def floTellsRow : OpenClaim := { program := "ytpfcacjcikhamaadoor", sum := "b09824b55b70c50d0a17c66fa000085b5a18573fd6975d5a2fa6a8b9493bd97f", func := "bushel/bushellaw03.FloTells", spec := "floTells", inPlace := ["math.Float64bits", "math.Float64frombits"], named := ["math/bits.deBruijn64tab", "math/bits.deBruijn32tab"], apart := false, laid := [("math/bits.deBruijn32tab", laid_math_bits_deBruijn32tab), ("math/bits.deBruijn64tab", laid_math_bits_deBruijn64tab)] }
def FloTellsSaid : Prop := floTellsRow.holds Tryd.pinned (OpenSpec.ofChange floTellsSpec)

/-- ITS FALSE NEIGHBOUR: 'it returns false'. Refute it at one input. -/
def floTellsWrong : ChangeSpec := { name := "floTells", fn := fun _ => fun
  | [d] => { results := [.lit (.bool false)], args := [d] }
  | _ => none }
def FloTellsWrongFalsely : Prop := floTellsRow.holds Tryd.pinned (OpenSpec.ofChange floTellsWrong)

/-- 'bushellaw03.FloOrders': WHATEVER THE INPUT: true; the input reads as it did. -/
def floOrdersSpec : ChangeSpec := { name := "floOrders", fn := fun _ => fun
  | [d1, d2] => { results := [.lit (.bool true)], args := [d1, d2] }
  | _ => none }
def floOrdersRow : OpenClaim := { program := "ytpfcacjcikhamaadoor", sum := "b09824b55b70c50d0a17c66fa000085b5a18573fd6975d5a2fa6a8b9493bd97f", func := "bushel/bushellaw03.FloOrders", spec := "floOrders", inPlace := ["math.Float64bits", "math.Float64frombits"], named := ["math/bits.deBruijn64tab", "math/bits.deBruijn32tab"], apart := false, laid := [("math/bits.deBruijn32tab", laid_math_bits_deBruijn32tab), ("math/bits.deBruijn64tab", laid_math_bits_deBruijn64tab)] }
def FloOrdersSaid : Prop := floOrdersRow.holds Tryd.pinned (OpenSpec.ofChange floOrdersSpec)

/-- ITS FALSE NEIGHBOUR: 'it returns false'. Refute it at one input. -/
def floOrdersWrong : ChangeSpec := { name := "floOrders", fn := fun _ => fun
  | [d1, d2] => { results := [.lit (.bool false)], args := [d1, d2] }
  | _ => none }
def FloOrdersWrongFalsely : Prop := floOrdersRow.holds Tryd.pinned (OpenSpec.ofChange floOrdersWrong)

/-- 'bushellaw03.FloJoins': WHATEVER THE INPUT: true; the input reads as it did. -/
def floJoinsSpec : ChangeSpec := { name := "floJoins", fn := fun _ => fun
  | [d1, d2, d3] => { results := [.lit (.bool true)], args := [d1, d2, d3] }
  | _ => none }
def floJoinsRow : OpenClaim := { program := "ytpfcacjcikhamaadoor", sum := "b09824b55b70c50d0a17c66fa000085b5a18573fd6975d5a2fa6a8b9493bd97f", func := "bushel/bushellaw03.FloJoins", spec := "floJoins", inPlace := ["math.Float64bits", "math.Float64frombits"], recurses := true, named := ["math/bits.deBruijn64tab", "math/bits.deBruijn32tab"], apart := false, laid := [("math/bits.deBruijn32tab", laid_math_bits_deBruijn32tab), ("math/bits.deBruijn64tab", laid_math_bits_deBruijn64tab)] }
def FloJoinsSaid : Prop := floJoinsRow.holds Tryd.pinned (OpenSpec.ofChange floJoinsSpec)

/-- ITS FALSE NEIGHBOUR: 'it returns false'. Refute it at one input. -/
def floJoinsWrong : ChangeSpec := { name := "floJoins", fn := fun _ => fun
  | [d1, d2, d3] => { results := [.lit (.bool false)], args := [d1, d2, d3] }
  | _ => none }
def FloJoinsWrongFalsely : Prop := floJoinsRow.holds Tryd.pinned (OpenSpec.ofChange floJoinsWrong)

/-- 'bushellaw03.FloKeys': WHATEVER THE INPUT: true; the input reads as it did. -/
def floKeysSpec : ChangeSpec := { name := "floKeys", fn := fun _ => fun
  | [d1, d2, d3] => { results := [.lit (.bool true)], args := [d1, d2, d3] }
  | _ => none }
def floKeysRow : OpenClaim := { program := "ytpfcacjcikhamaadoor", sum := "b09824b55b70c50d0a17c66fa000085b5a18573fd6975d5a2fa6a8b9493bd97f", func := "bushel/bushellaw03.FloKeys", spec := "floKeys", inPlace := ["math.Float64frombits", "math.Float64bits"], named := ["math/bits.deBruijn64tab", "math/bits.deBruijn32tab"], apart := false, laid := [("math/bits.deBruijn32tab", laid_math_bits_deBruijn32tab), ("math/bits.deBruijn64tab", laid_math_bits_deBruijn64tab)] }
def FloKeysSaid : Prop := floKeysRow.holds Tryd.pinned (OpenSpec.ofChange floKeysSpec)

/-- ITS FALSE NEIGHBOUR: 'it returns false'. Refute it at one input. -/
def floKeysWrong : ChangeSpec := { name := "floKeys", fn := fun _ => fun
  | [d1, d2, d3] => { results := [.lit (.bool false)], args := [d1, d2, d3] }
  | _ => none }
def FloKeysWrongFalsely : Prop := floKeysRow.holds Tryd.pinned (OpenSpec.ofChange floKeysWrong)

/-- 'bushellaw03.FloSteps': WHATEVER THE INPUT: true; the input reads as it did. -/
def floStepsSpec : ChangeSpec := { name := "floSteps", fn := fun _ => fun
  | [d1, d2] => { results := [.lit (.bool true)], args := [d1, d2] }
  | _ => none }
def floStepsRow : OpenClaim := { program := "ytpfcacjcikhamaadoor", sum := "b09824b55b70c50d0a17c66fa000085b5a18573fd6975d5a2fa6a8b9493bd97f", func := "bushel/bushellaw03.FloSteps", spec := "floSteps", inPlace := ["math.Float64bits", "math.Float64frombits"], named := ["math/bits.deBruijn64tab", "math/bits.deBruijn32tab"], apart := false, laid := [("math/bits.deBruijn32tab", laid_math_bits_deBruijn32tab), ("math/bits.deBruijn64tab", laid_math_bits_deBruijn64tab)] }
def FloStepsSaid : Prop := floStepsRow.holds Tryd.pinned (OpenSpec.ofChange floStepsSpec)

/-- ITS FALSE NEIGHBOUR: 'it returns false'. Refute it at one input. -/
def floStepsWrong : ChangeSpec := { name := "floSteps", fn := fun _ => fun
  | [d1, d2] => { results := [.lit (.bool false)], args := [d1, d2] }
  | _ => none }
def FloStepsWrongFalsely : Prop := floStepsRow.holds Tryd.pinned (OpenSpec.ofChange floStepsWrong)

/- THE SECOND FORM. 'bulk': how many values and letters a reading holds, each counted each time it is reached (what is shared counts as often as it is met; a slice's spare places count too). A statement '..UptoSaid' is the law's where the arguments, and the package variables that the reading takes, are together of bulk at most 1048576: NARROWER than '..Said'. Prove '..Said' where nothing that the law and all that it calls make is longer than what came in: it says more and counts as full. Else prove '..UptoSaid'. A law counts once. -/
mutual
def uptoBulk {H : Type} : DataW H → Nat
  | .lit (.string bytes) => bytes.length + 1
  | .lit _ => 1
  | .nil => 1
  | .ptr d => uptoBulk d + 1
  | .slice elems spare => uptoBulkAll elems + uptoBulkAll spare + 1
  | .agg parts => uptoBulkAll parts + 1
  | .iface _ d => uptoBulk d + 1
  | .map entries => uptoBulkEntries entries + 1
  | .held _ => 1
def uptoBulkAll {H : Type} : List (DataW H) → Nat
  | [] => 0
  | d :: r => uptoBulk d + uptoBulkAll r
def uptoBulkEntries {H : Type} : List (Lit × DataW H) → Nat
  | [] => 0
  | x :: r => uptoBulkEntry x + uptoBulkEntries r
def uptoBulkEntry {H : Type} : Lit × DataW H → Nat
  | (.string bytes, d) => bytes.length + uptoBulk d + 1
  | (_, d) => uptoBulk d + 1
 end
def uptoSmall : (H : Type) → List (DataW H) → Bool := fun _ ds => decide (uptoBulkAll ds ≤ 1048576)
def OpenSpec.upto (s : _root_.Go.ChangeSpec) : _root_.Go.OpenSpec := { _root_.Go.OpenSpec.ofChange s with cond := some uptoSmall }

/-- 'bushellaw02.NatTells', WHERE WHAT IT READS IS OF BULK AT MOST 1048576: true; the input reads as it did. -/
def natTellsUptoRow : OpenClaim := { program := "ytpfcacjcikhamaadoor", sum := "b09824b55b70c50d0a17c66fa000085b5a18573fd6975d5a2fa6a8b9493bd97f", func := "bushel/bushellaw02.NatTells", spec := "natTells", recurses := true, named := ["math/bits.overflowError", "math/bits.deBruijn32tab"], apart := false, laid := [("math/bits.deBruijn32tab", laid_math_bits_deBruijn32tab)], narrowed := true }
def NatTellsUptoSaid : Prop := natTellsUptoRow.holds Tryd.pinned (OpenSpec.upto natTellsSpec)

/-- 'bushellaw02.NatTexts', WHERE WHAT IT READS IS OF BULK AT MOST 1048576: true; the input reads as it did. -/
def natTextsUptoRow : OpenClaim := { program := "ytpfcacjcikhamaadoor", sum := "b09824b55b70c50d0a17c66fa000085b5a18573fd6975d5a2fa6a8b9493bd97f", func := "bushel/bushellaw02.NatTexts", spec := "natTexts", named := ["math/bits.overflowError", "math/bits.deBruijn32tab"], apart := false, laid := [("math/bits.deBruijn32tab", laid_math_bits_deBruijn32tab)], narrowed := true }
def NatTextsUptoSaid : Prop := natTextsUptoRow.holds Tryd.pinned (OpenSpec.upto natTextsSpec)

/-- 'bushellaw03.FloTells', WHERE WHAT IT READS IS OF BULK AT MOST 1048576: true; the input reads as it did. -/
def floTellsUptoRow : OpenClaim := { program := "ytpfcacjcikhamaadoor", sum := "b09824b55b70c50d0a17c66fa000085b5a18573fd6975d5a2fa6a8b9493bd97f", func := "bushel/bushellaw03.FloTells", spec := "floTells", inPlace := ["math.Float64bits", "math.Float64frombits"], named := ["math/bits.deBruijn64tab", "math/bits.deBruijn32tab"], apart := false, laid := [("math/bits.deBruijn32tab", laid_math_bits_deBruijn32tab), ("math/bits.deBruijn64tab", laid_math_bits_deBruijn64tab)], narrowed := true }
def FloTellsUptoSaid : Prop := floTellsUptoRow.holds Tryd.pinned (OpenSpec.upto floTellsSpec)

/-- 'bushellaw03.FloOrders', WHERE WHAT IT READS IS OF BULK AT MOST 1048576: true; the input reads as it did. -/
def floOrdersUptoRow : OpenClaim := { program := "ytpfcacjcikhamaadoor", sum := "b09824b55b70c50d0a17c66fa000085b5a18573fd6975d5a2fa6a8b9493bd97f", func := "bushel/bushellaw03.FloOrders", spec := "floOrders", inPlace := ["math.Float64bits", "math.Float64frombits"], named := ["math/bits.deBruijn64tab", "math/bits.deBruijn32tab"], apart := false, laid := [("math/bits.deBruijn32tab", laid_math_bits_deBruijn32tab), ("math/bits.deBruijn64tab", laid_math_bits_deBruijn64tab)], narrowed := true }
def FloOrdersUptoSaid : Prop := floOrdersUptoRow.holds Tryd.pinned (OpenSpec.upto floOrdersSpec)

/-- 'bushellaw03.FloJoins', WHERE WHAT IT READS IS OF BULK AT MOST 1048576: true; the input reads as it did. -/
def floJoinsUptoRow : OpenClaim := { program := "ytpfcacjcikhamaadoor", sum := "b09824b55b70c50d0a17c66fa000085b5a18573fd6975d5a2fa6a8b9493bd97f", func := "bushel/bushellaw03.FloJoins", spec := "floJoins", inPlace := ["math.Float64bits", "math.Float64frombits"], recurses := true, named := ["math/bits.deBruijn64tab", "math/bits.deBruijn32tab"], apart := false, laid := [("math/bits.deBruijn32tab", laid_math_bits_deBruijn32tab), ("math/bits.deBruijn64tab", laid_math_bits_deBruijn64tab)], narrowed := true }
def FloJoinsUptoSaid : Prop := floJoinsUptoRow.holds Tryd.pinned (OpenSpec.upto floJoinsSpec)

/-- 'bushellaw03.FloKeys', WHERE WHAT IT READS IS OF BULK AT MOST 1048576: true; the input reads as it did. -/
def floKeysUptoRow : OpenClaim := { program := "ytpfcacjcikhamaadoor", sum := "b09824b55b70c50d0a17c66fa000085b5a18573fd6975d5a2fa6a8b9493bd97f", func := "bushel/bushellaw03.FloKeys", spec := "floKeys", inPlace := ["math.Float64frombits", "math.Float64bits"], named := ["math/bits.deBruijn64tab", "math/bits.deBruijn32tab"], apart := false, laid := [("math/bits.deBruijn32tab", laid_math_bits_deBruijn32tab), ("math/bits.deBruijn64tab", laid_math_bits_deBruijn64tab)], narrowed := true }
def FloKeysUptoSaid : Prop := floKeysUptoRow.holds Tryd.pinned (OpenSpec.upto floKeysSpec)

/-- 'bushellaw03.FloSteps', WHERE WHAT IT READS IS OF BULK AT MOST 1048576: true; the input reads as it did. -/
def floStepsUptoRow : OpenClaim := { program := "ytpfcacjcikhamaadoor", sum := "b09824b55b70c50d0a17c66fa000085b5a18573fd6975d5a2fa6a8b9493bd97f", func := "bushel/bushellaw03.FloSteps", spec := "floSteps", inPlace := ["math.Float64bits", "math.Float64frombits"], named := ["math/bits.deBruijn64tab", "math/bits.deBruijn32tab"], apart := false, laid := [("math/bits.deBruijn32tab", laid_math_bits_deBruijn32tab), ("math/bits.deBruijn64tab", laid_math_bits_deBruijn64tab)], narrowed := true }
def FloStepsUptoSaid : Prop := floStepsUptoRow.holds Tryd.pinned (OpenSpec.upto floStepsSpec)

end Rows
end Go.Proofs.YtpfcacjcikhamaaDoor
