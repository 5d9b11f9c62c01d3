/- Layer 12: layer 2's Laid2 without the table. -/
import Derived.Test.YtdnbjaeeebodkaaGreatRows
import Derived.Test.YtdnbjaeeebodkaaGreatAwake2
import Derived.ProofKit
import Derived.LaidMore
import Derived.OpenShut
import Derived.Stop.Joined
import Derived.Lib.LaidTab
namespace Go.Proofs.YtdnbjaeeebodkaaGreat
set_option maxRecDepth 100000
open Go.ChangeShapes Go.WideShapes Go.ChangeAt Go.RowKit
set_option linter.unusedVariables false
theorem own2 : ownKnob Tryz.prog.godebug = none := by kernel_rfl
theorem laidOut2 : laidOutB Tryz.prog = true := by kernel_rfl
def tabInts : List Int := [0, 1, 28, 2, 29, 14, 24, 3, 30, 22, 20, 15, 25, 17, 4, 8, 31, 27, 13, 23, 21, 19, 16, 7, 26, 12, 18, 6, 11, 5, 10, 9]
def Given (k : IntKind) (w : World) (v : Value) (zs : List Int) : Prop := Ints k w v zs ∧ ∀ n ∈ zs, (Lit.int k n).wf = true
theorem given_nil {k : IntKind} {w : World} : Given k w (.slice none 0 0) [] := ⟨⟨none, 0, rfl, by simp, .inl rfl⟩, fun _ h => by cases h⟩
theorem given_row {k : IntKind} {w : World} {x : Addr} {l c : Nat} {zs : List Int} (hl : l ≤ c) (hz : zs.length = c) (hcell : ∀ i, i < zs.length → w.cell? (x.add i) = some (.int k (zs.getD i 0))) (hw : ∀ n ∈ zs, (Lit.int k n).wf = true) :
    Given k w (.slice (some x) l c) (zs.take l) := by
  have ht : (zs.take l).length = l := by rw [List.length_take]; omega
  refine ⟨⟨some x, c, by rw [ht], by omega, ?_⟩, fun n hn => hw n (List.mem_of_mem_take hn)⟩
  by_cases h0 : l = 0
  · subst h0; exact .inl (by simp)
  · refine .inr ?_
    obtain ⟨b, off, spot⟩ := x
    have hc := hcell 0 (by omega)
    have hspot : spot = none := by simpa [Addr.add] using World.cell?_spot hc
    subst hspot
    refine ⟨b, off, rfl, World.block_lt_of_cell? w _ hc, fun i hi => ?_⟩
    rw [ht] at hi
    rw [getD_take hi]
    have hh := hcell i (by omega)
    by_cases h0 : i = 0
    · subst h0; simpa [Addr.add] using hh
    · simpa [Addr.add, h0] using hh
theorem Given.wlist {w : World} {v : Value} {zs : List Int} (h : Given .u32 w v zs) (hl : zs.length ≤ 1099511627776) : WList w v zs :=
  ⟨h.1, fun x hx => by have := h.2 x hx; simp [Lit.wf, IntKind.min, IntKind.max, IntKind.signed, IntKind.bits] at this; omega, hl⟩
theorem len_max {w : World} {a : Option Addr} {len cap : Nat} {zs : List Int} (h : Given .u32 w (.slice a len cap) zs) : zs.length = len := by
  obtain ⟨⟨_, _, e, _⟩, _⟩ := h; simp at e; exact e.2.1.symm
abbrev Four' (R : Nat) (a b c d : Value) (w' : World) : Prop := w'.cell? ⟨R, 0, none⟩ = some a ∧ w'.cell? ⟨R, 1, none⟩ = some b ∧ w'.cell? ⟨R + 1, 0, none⟩ = some c ∧ w'.cell? ⟨R + 1, 1, none⟩ = some d
theorem Four'.call {R : Nat} {a b c d : Value} {w1 w2 : World} (h : Four' R a b c d w1) (hb : Below w1.heap.size w1 w2) : Four' R a b c d w2 := ⟨cell_later hb h.1, cell_later hb h.2.1, cell_later hb h.2.2.1, cell_later hb h.2.2.2⟩
end Go.Proofs.YtdnbjaeeebodkaaGreat
