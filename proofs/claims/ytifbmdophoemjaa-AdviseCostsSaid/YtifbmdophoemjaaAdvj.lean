/- Layer 18: three sets that come in. -/
import Derived.Test.YtifbmdophoemjaaAdvi
import Derived.WalkKit
import Derived.ProofKit
import Derived.OpenShut
import Derived.Below
namespace Go.Proofs.Ytifbmdophoemjaa
set_option maxRecDepth 100000
open Go.RowKit Go.ChangeShapes Go.WideShapes
set_option linter.unusedVariables false
theorem arr_cells18 {w : World} {r : Reach} {b0 : Nat} {t e : TypeId} {n m : Nat} {v : Value} (hu : Try.prog.underlying t = some (.array n e)) (hm : Try.prog.cellsOf t = m) (hv : Value.okWide Try.prog w r b0 t v) : ∃ cs, v = .agg cs ∧ cs.size = m := by
  unfold Value.okWide at hv
  rw [hu] at hv
  obtain ⟨cs, rfl, hsz, -⟩ := hv
  exact ⟨cs, rfl, hsz.trans hm⟩
theorem sets3_18 {H : Type} {enc : TypeId × Value → H} {w : World} {base : Nat} {spare : Nat → Bool} {held : Bool} {r : Reach} {b0 : Nat} {v : Value} {d : DataW H} {p : List MemPlace}
    (hv : Value.okWide Try.prog w r b0 37 v) (h : DataW.Trod enc Try.prog w base spare held 37 v d p) :
    ∃ x y z : Int, v = .agg #[.int .u32 x, .int .u32 y, .int .u32 z] ∧ (0 ≤ x ∧ x ≤ 4294967295) ∧ (0 ≤ y ∧ y ≤ 4294967295) ∧ (0 ≤ z ∧ z ≤ 4294967295) := by
  obtain ⟨cs, rfl, hsz⟩ := arr_cells18 Try.underlying37 arr3_cells18.1 hv
  obtain ⟨fuel, h⟩ := h
  obtain ⟨xs, m, -, hx, hlen, hxl, hf⟩ := DataW.trod_array Try.underlying37 h
  obtain ⟨l⟩ := cs
  rw [arr3_cells18.2] at hf
  match l, hsz with
  | [c0, c1, c2], _ =>
    match xs, hxl with
    | [y0, y1, y2], _ =>
      have h0 := hf 0 (by decide)
      have h1 := hf 1 (by decide)
      have h2 := hf 2 (by decide)
      obtain ⟨m0, e0, -, w0⟩ := DataW.trod_int Try.underlying29 h0
      obtain ⟨m1, e1, -, w1⟩ := DataW.trod_int Try.underlying29 h1
      obtain ⟨m2, e2, -, w2⟩ := DataW.trod_int Try.underlying29 h2
      cases e0; cases e1; cases e2
      simp [Lit.wf, IntKind.min, IntKind.max, IntKind.signed, IntKind.bits] at w0 w1 w2
      exact ⟨m0, m1, m2, rfl, by omega, by omega, by omega⟩
/-- The box of three sets, read as two and as three. -/
theorem set3_box (w : World) (a b c : Nat) : Msk (w.alloc (.cells #[.int .u32 (a : Int), .int .u32 (b : Int), .int .u32 (c : Int)] 37)) (.slice (some ⟨w.heap.size, 0, none⟩) 3 3) [a, b, c] := by
  refine ⟨_, _, rfl, Nat.le_refl _, .inr ⟨w.heap.size, 0, rfl, by simp, fun i hi => ?_⟩⟩
  have h0 : i = 0 ∨ i = 1 ∨ i = 2 := by simp [natsI] at hi; omega
  rcases h0 with rfl | rfl | rfl <;> simp [go_sem, natsI]
theorem set2_box (w : World) (a b c : Nat) : Msk (w.alloc (.cells #[.int .u32 (a : Int), .int .u32 (b : Int), .int .u32 (c : Int)] 37)) (.slice (some ⟨w.heap.size, 0, none⟩) 2 3) [a, b] := by
  refine ⟨_, _, rfl, by simp [natsI], .inr ⟨w.heap.size, 0, rfl, by simp, fun i hi => ?_⟩⟩
  have h0 : i = 0 ∨ i = 1 := by simp [natsI] at hi; omega
  rcases h0 with rfl | rfl <;> simp [go_sem, natsI]
end Go.Proofs.Ytifbmdophoemjaa
