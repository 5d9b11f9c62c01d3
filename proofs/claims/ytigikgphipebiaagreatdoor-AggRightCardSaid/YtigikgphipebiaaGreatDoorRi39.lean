/- Contracts that the law leans on, pruned and merged: Aggg Aggr. -/
import Derived.Test.YtigikgphipebiaaGreatDoorRi25
import Derived.Test.YtigikgphipebiaaGreatDoorRi38
/- Layer 14: the reference's Value. -/
namespace Go.Proofs.YtigikgphipebiaaGreatDoor
set_option maxRecDepth 100000
open Go.RowKit
set_option linter.unusedVariables false
/-- The float that a real measure's sum comes to; 0 where it is no sum. -/
def RVal14 (l : List Int) (w : World) (e : Ending) (w' : World) : Prop :=
  (∃ X : Nat, W64 X ∧ (errN l = 0 → sameB (valueW (readF l) (readT l)) X = true) ∧ (errN l ≠ 0 → X = 0) ∧ e = .returned (.float .f64 X)) ∧ Below w.heap.size w w'
theorem row3_new (w : World) (a b c : Value) (T : TypeId) : (w.alloc (.cells #[a, b, c] T)).cell? ⟨w.heap.size, 0, none⟩ = some a := (row3 (heap_alloc_new w _)).1
set_option maxHeartbeats 8000000 in
theorem rvalue14_any (w : World) (p : Option Addr) (L c mn mx : Nat) (l : List Int) (h : Ints .u8 w (.slice p L c) l) (hb : Bt l) :
    Calls Tryz.prog 24 #[.agg #[.slice p L c, .float .f64 mn, .float .f64 mx]] w (RVal14 l w) := by
  have hb1 := below_one w (.cells #[.slice p L c, .float .f64 mn, .float .f64 mx] 63)
  have HR := Lib.hid (fun w1 (hb1 : Below w.heap.size w w1) => rsread_any p L c l w1 (h.below hb1) hb)
  have HB := Lib.hid hb1
  have hx := row3_new w (.slice p L c) (.float .f64 mn) (.float .f64 mx) 63
  have hsf := fun (w : World) (a : Addr) (m : Mode) (k : Nat) => run_store_f64 (P := Tryz.prog) (w := w) (a := a) (m := m) k
  clear h hb hb1
  go_enter Tryz.func24, Tryz.ntmps24
  go_wp2_with fail
  refine (HR.out _ HB.out).mono ?_
  rintro e w3 hr
  obtain ⟨b0, b1, b2, b3, b4, nb, sp, sn, sc, rfl, hs3, hb3⟩ := read14 hr
  have HS3 := Lib.hid (fun q => (hs3 q).below (below_one w3 (.cells #[.bool b0, .bool b1, .bool b2, .bool b3, .bool b4, .bool nb, .slice sp sn sc] 95)))
  have HB3 := Lib.hid (below_then (below_then HB.out hb3) (below_one w3 (.cells #[.bool b0, .bool b1, .bool b2, .bool b3, .bool b4, .bool nb, .slice sp sn sc] 95)))
  obtain ⟨k0, k1, k2, k3, k4, k5, k6⟩ := row7 (heap_alloc_new w3 (.cells #[.bool b0, .bool b1, .bool b2, .bool b3, .bool b4, .bool nb, .slice sp sn sc] 95))
  clear hr hs3 hb3 hx hsf
  by_cases he : errN l = 0
  · have hne : ((errN l : Int) != 0) = false := by rw [he]; rfl
    have HV := Lib.hid (rvalue_any _ _ _ _ (HS3.out he))
    have HE := Lib.hid he
    clear he HS3
    go_wp2_with fail
    refine HV.out.mono ?_
    rintro e w4 ⟨⟨X, hX, hs, rfl⟩, hb4⟩
    have HF := Lib.hid (show RVal14 l w (.returned (.float .f64 X)) w4 from ⟨⟨X, hX, fun _ => hs, fun q => absurd HE.out q, rfl⟩, below_then HB3.out hb4⟩)
    clear hX hs hb4 k0 k1 k2 k3 k4 k5 k6
    go_wp2_with fail
    go_ret
    exact HF.out
  · have hne : ((errN l : Int) != 0) = true := by simp [he]
    have HF := Lib.hid (fun (w4 : World) (hb4 : Below w.heap.size w w4) => show RVal14 l w (.returned (.float .f64 0)) w4 from ⟨⟨0, by unfold W64; decide, fun q => absurd q he, fun _ => rfl, rfl⟩, hb4⟩)
    clear he HS3 k0 k1 k2 k3 k4 k5 k6
    go_wp2_with fail
    go_ret
    exact HF.out _ HB3.out
end Go.Proofs.YtigikgphipebiaaGreatDoor
/- Layer 14: what the laws on joining ask of two answers. -/
namespace Go.Proofs.YtigikgphipebiaaGreatDoor
set_option maxRecDepth 100000
open Go.RowKit
set_option linter.unusedVariables false
/-- A box of a cell, and the cell in it. -/
structure CBox (w : World) (K : Nat) (p : Option Addr) (k : Nat) (q : Option Addr) (l : Nat) (c : Ce) : Prop where
  b : w.heap[K]? = some (.cells #[.int .u64 c.key, .int .i64 c.cnt, .slice p c.is.length k, .slice q c.ns.length l] 41 (0, 0))
  m : CeM w (.slice p c.is.length k) (.slice q c.ns.length l) c
theorem CBox.below {w w' : World} {K k l : Nat} {p q : Option Addr} {c : Ce} (h : CBox w K p k q l c) (hb : Below w.heap.size w w') : CBox w' K p k q l c := ⟨(hb.block _ (Array.getElem?_eq_some_iff.1 h.b).1).trans h.b, h.m.below hb⟩
theorem CBox.reads {w : World} {K k l : Nat} {p q : Option Addr} {c : Ce} (h : CBox w K p k q l c) : w.cell? ⟨K, 0, none⟩ = some (.int .u64 c.key) ∧ w.cell? ⟨K, 1, none⟩ = some (.int .i64 c.cnt) ∧ w.cell? ⟨K, 2, none⟩ = some (.slice p c.is.length k) ∧ w.cell? ⟨K, 3, none⟩ = some (.slice q c.ns.length l) := row4 h.b
end Go.Proofs.YtigikgphipebiaaGreatDoor
