/- Patch, and the chapter's examples; what the rows' condition on the table gives. -/
import Derived.Test.YtacogaeciodjeaaDoorCrcb
import Derived.Test.YtacogaeciodjeaaDoorRows
import Derived.Test.YtacogaeciodjeaaDoorCards
import Derived.Test.YtacogaeciodjeaaDoorTie
import Derived.ProofKit
import Derived.LaidMore
import Derived.OpenShut
import Derived.Stop.Joined
import Derived.Lib.LaidTab
import Derived.SevenTiedAt
import Derived.Deep.WholeRow
import Derived.Lib.SlBytesConst
namespace Go.Proofs.YtacogaeciodjeaaDoor
set_option maxRecDepth 100000
open Go.RowKit Go.ChangeShapes Go.WideShapes Go.ChangeAt
set_option linter.unusedVariables false
theorem Fours.call {w w' : World} (h : Fours w) (hb : Below w.heap.size w w') : Fours w' := fun j hj => cell_later hb (h j hj)
theorem low8 (p : Nat) : ((p : Int) % 256) = ((p % 256 : Nat) : Int) := by omega
/-- A slice of this call's own that holds these bytes. -/
def MadeBytes (w : World) (b : List Int) (e : Ending) (w' : World) : Prop := ∃ v, e = .returned v ∧ Ints .u8 w' v b ∧ Below w.heap.size w w'
theorem ints_new {k : IntKind} {w : World} {E : TypeId} {zs : List Int} {n : Nat} {fr : Nat × Nat} (hn : zs.length = n) : Ints k (w.alloc (.cells (zs.map (Value.int k)).toArray E fr)) (.slice (some ⟨w.heap.size, 0, none⟩) n n) zs := by
  subst hn
  refine ⟨_, _, rfl, Nat.le_refl _, .inr ⟨w.heap.size, 0, rfl, by simp, fun i hi => ?_⟩⟩
  rw [Nat.zero_add, cell_of_row _ _ i _ E fr (heap_alloc_last w _)]
  rw [List.getElem?_toArray, List.getElem?_map]
  simp [List.getD, hi]
theorem check9 : moreN 0 [49, 50, 51, 52, 53, 54, 55, 56, 57] = 3808858755 := by decide +kernel
theorem byt9 : Byt [49, 50, 51, 52, 53, 54, 55, 56, 57] := fun x hx => by simp at hx; omega
theorem check0 : moreN 0 [] = 0 := by decide +kernel
theorem byt0 : Byt [] := fun x hx => by cases hx
theorem ints_nil {k : IntKind} {w : World} : Ints k w (.slice none 0 0) [] := ⟨none, 0, rfl, by simp, .inl rfl⟩
theorem own2 : ownKnob Tryd.prog.godebug = none := by kernel_rfl
theorem laidOut2 : laidOutB Tryd.prog = true := by kernel_rfl
abbrev laid6 : List (String × DataW Unit) := [("bushel/crc.fours", Rows.laid_bushel_crc_fours)]
theorem gFours : Tryd.prog.globalNamed "bushel/crc.fours" = some 0 := by kernel_rfl
theorem tFours : (Tryd.prog.globals[0]?).map (·.type) = some 54 := by kernel_rfl
def foursInts : List Int := [0, 274646895, 549293790, 820201905, 1098587580, 1361435347, 1640403810, 1905808397, 2197175160, 2460548119, 2722870694, 2987750089, 3280807620, 3553878443, 3811616794, 4084100981]
theorem fours_of {W : World} (h : laidMetH Tryd.prog laid6 W) : Fours W := by
  rw [MakeChecks.laidMetH_plain _ _ _ (by kernel_rfl)] at h
  have h1 : Lib.TabIs Tryd.prog W "bushel/crc.fours" .u32 foursInts :=
    Lib.tabIs_of_head (n := 16) (rest := []) gFours tFours Tryd.underlying54 Tryd.underlying44 (by kernel_rfl) (by kernel_rfl) h
  intro j hj
  have hj2 : j < foursInts.length := hj
  rw [h1.cell gFours j hj2]
  have key : ∀ k : Fin 16, foursInts.getD k.val 0 = ((foursN.getD k.val 0 : Nat) : Int) := by decide
  rw [key ⟨j, hj⟩]
theorem door_met6 (os : Os) (args : Array Value) : laidMetH Tryd.prog laid6 ((World.doorLaid Tryd.prog 400 os).forCall (fun _ _ => 0) ⟨#[], args, []⟩).memory :=
  laidMetH_of_parts3 (fuel := 8) (laidMet_of_run' 8 (by kernel_rfl) (by kernel_rfl)) (by kernel_rfl) (by kernel_rfl)
def Given (k : IntKind) (w : World) (v : Value) (zs : List Int) : Prop := Ints k w v zs ∧ ∀ n ∈ zs, (Lit.int k n).wf = true
theorem given_nil {k : IntKind} {w : World} : Given k w (.slice none 0 0) [] := ⟨⟨none, 0, rfl, by simp, .inl rfl⟩, fun _ h => by cases h⟩
theorem given_row {k : IntKind} {w : World} {x : Addr} {l c : Nat} {zs : List Int} (hl : l ≤ c) (hz : zs.length = c) (hcell : ∀ i, i < zs.length → w.cell? (x.add i) = some (.int k (zs.getD i 0))) (hw : ∀ n ∈ zs, (Lit.int k n).wf = true) :
    Given k w (.slice (some x) l c) (zs.take l) := by
  have ht : (zs.take l).length = l := by rw [List.length_take]; omega
  refine ⟨⟨some x, c, by rw [ht], by omega, ?_⟩, fun n hn => hw n (List.mem_of_mem_take hn)⟩
  by_cases h0 : l = 0
  · subst h0; exact .inl (by simp)
  · refine .inr ?_
    obtain ⟨b, off, spot⟩ := x
    have hc := hcell 0 (by omega)
    have hspot : spot = none := by simpa [Addr.add] using World.cell?_spot hc
    subst hspot
    refine ⟨b, off, rfl, World.block_lt_of_cell? w _ hc, fun i hi => ?_⟩
    rw [ht] at hi
    rw [getD_take hi]
    have hh := hcell i (by omega)
    by_cases h0 : i = 0
    · subst h0; simpa [Addr.add] using hh
    · simpa [Addr.add, h0] using hh
theorem Given.byt {w : World} {v : Value} {zs : List Int} (h : Given .u8 w v zs) : Byt zs := fun x hx => by
  have := h.2 x hx; simp [Lit.wf, IntKind.min, IntKind.max, IntKind.signed, IntKind.bits] at this; omega
theorem len_max {k : IntKind} {w : World} {a : Option Addr} {len cap : Nat} {zs : List Int} (h : Given k w (.slice a len cap) zs) : zs.length = len := by
  obtain ⟨⟨_, _, e, _⟩, _⟩ := h; simp at e; exact e.2.1.symm
theorem below_then {w W W' : World} (h : Below w.heap.size w W) (hb : Below W.heap.size W W') : Below w.heap.size w W' := h.trans (hb.mono h.size)
end Go.Proofs.YtacogaeciodjeaaDoor
