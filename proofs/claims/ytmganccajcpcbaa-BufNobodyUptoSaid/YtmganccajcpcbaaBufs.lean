/- Questions as they come in: by value, and in a slice. -/
import Derived.Test.YtmganccajcpcbaaBufp
import Derived.Deep.Slices
import Derived.Deep.Fields
import Derived.ChangeSame
import Derived.ChangeSlices
import Derived.Lib.SmallJoins
namespace Go.Proofs.Ytmganccajcpcbaa
set_option maxRecDepth 100000
open Go.RowKit Go.ChangeShapes Go.WideShapes Go.Deep
set_option linter.unusedVariables false
theorem trod_float {H : Type} {enc : TypeId × Value → H} {P : Program} {w : World} {base : Nat} {spare : Nat → Bool} {held : Bool} {fuel : Nat} {t : TypeId} {cs : List Value} {x : DataW H × List MemPlace} {k : FloatKind} (ht : P.underlying t = some (.float k)) (h : DataW.trod enc P w base spare held fuel t cs = some x) : ∃ n, cs = [.float k n] ∧ (Lit.float k n).wf = true := by
  cases fuel with
  | zero => simp [DataW.trod] at h
  | succ n =>
    unfold DataW.trod at h
    rw [ht] at h
    split at h <;> simp_all
/-- What a question's numbers are. -/
def AskWf (d u i : Int) (f : Nat) (m : Int) : Prop := (Lit.int .i64 d).wf = true ∧ (Lit.int .u64 u).wf = true ∧ (Lit.int .i64 i).wf = true ∧ (Lit.float .f64 f).wf = true ∧ (Lit.int .i64 m).wf = true
theorem one3 : Try.prog.cellsOf 3 = 1 ∧ Try.prog.cellsOf 28 = 1 ∧ Try.prog.cellsOf 2 = 1 ∧ Try.prog.cellsOf 32 = 1 ∧ Try.prog.cellsOf 9 = 1 ∧ Try.prog.cellsOf 34 = 6 := by
  refine ⟨?_, ?_, ?_, ?_, ?_, ?_⟩ <;> kernel_rfl
/-- The reading of a question. -/
theorem read_ask {H : Type} {enc : TypeId × Value → H} {w : World} {base : Nat} {spare : Nat → Bool} {held : Bool} {fuel : Nat} {cs : List Value} {x : DataW H × List MemPlace}
    (h : DataW.trod enc Try.prog w base spare held fuel 34 cs = some x) :
    ∃ (d u i : Int) (f : Nat) (t : ByteArray) (m : Int), cs = [.int .i64 d, .int .u64 u, .int .i64 i, .float .f64 f, .string t, .int .i64 m] ∧ AskWf d u i f m ∧
      ∃ y0 y1 y2 y3 y5, x.1 = .agg [y0, y1, y2, y3, .lit (.string t.data.toList), y5] := by
  obtain ⟨xs, n, -, hx, hlen, hxl, hf⟩ := DataW.trod_struct Try.underlying34 h
  obtain ⟨o1, o2, o3, o4, o5, o6⟩ := one3
  rw [o6] at hlen
  match cs, hlen with
  | [c0, c1, c2, c3, c4, c5], _ =>
    match xs, hxl with
    | [y0, y1, y2, y3, y4, y5], _ =>
      have h0 := hf 0 _ rfl
      have h1 := hf 1 _ rfl
      have h2 := hf 2 _ rfl
      have h3 := hf 3 _ rfl
      have h4 := hf 4 _ rfl
      have h5 := hf 5 _ rfl
      simp only [o1, o2, o3, o4, o5, List.drop_succ_cons, List.drop_zero, List.take_succ_cons, List.take_zero, List.getElem?_cons_zero, List.getElem?_cons_succ] at h0 h1 h2 h3 h4 h5
      obtain ⟨d, e0, -, w0⟩ := DataW.trod_int Try.underlying3 h0
      obtain ⟨u, e1, -, w1⟩ := DataW.trod_int Try.underlying28 h1
      obtain ⟨i, e2, -, w2⟩ := DataW.trod_int Try.underlying2 h2
      obtain ⟨f, e3, w3⟩ := trod_float Try.underlying32 h3
      obtain ⟨t, e4, z4, -⟩ := DataW.trod_string Try.underlying9 h4
      obtain ⟨m, e5, -, w5⟩ := DataW.trod_int Try.underlying3 h5
      cases e0; cases e1; cases e2; cases e3; cases e4; cases e5
      refine ⟨d, u, i, f, t, m, rfl, ⟨w0, w1, w2, w3, w5⟩, y0.1, y1.1, y2.1, y3.1, y5.1, ?_⟩
      rw [hx, z4]
      rfl
end Go.Proofs.Ytmganccajcpcbaa
