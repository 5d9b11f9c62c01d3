/- A slice of texts that came in. -/
import Derived.Test.YtdlebcjkokabjaaNamg
import Derived.SliceStrings
namespace Go.Proofs.Ytdlebcjkokabjaa
set_option maxRecDepth 100000
open Go.RowKit
set_option linter.unusedVariables false
/-- A slice of texts that came in: it reads as these texts, none longer than a slice may be. -/
def GivenS (w : World) (v : Value) (l : List ByteArray) : Prop := Strs w v l ∧ ∀ s ∈ l, s.size ≤ maxLen
theorem givenS_nil {w : World} : GivenS w (.slice none 0 0) [] := ⟨⟨none, 0, rfl, by simp, by simp, .inl rfl⟩, fun _ h => by cases h⟩
theorem givenS_row {w : World} {x : Addr} {l c : Nat} {ss : List ByteArray} (hl : l ≤ c) (hm : c ≤ maxLen) (hz : ss.length = c) (hcell : ∀ i, i < ss.length → w.cell? (x.add i) = some (.string (ss.getD i ByteArray.empty))) (hw : ∀ s ∈ ss, s.size ≤ maxLen) :
    GivenS w (.slice (some x) l c) (ss.take l) := by
  have ht : (ss.take l).length = l := by rw [List.length_take]; omega
  refine ⟨⟨some x, c, by rw [ht], by omega, by rw [ht]; unfold maxLen at hm; omega, ?_⟩, fun n hn => hw n (List.mem_of_mem_take hn)⟩
  by_cases h0 : l = 0
  · subst h0; exact .inl (by simp)
  · refine .inr ?_
    obtain ⟨b, off, spot⟩ := x
    have hc := hcell 0 (by omega)
    have hspot : spot = none := by simpa [Addr.add] using World.cell?_spot hc
    subst hspot
    refine ⟨b, off, rfl, World.block_lt_of_cell? w _ hc, fun i hi => ?_⟩
    rw [ht] at hi
    have e : txt (ss.take l) i = ss.getD i ByteArray.empty := by simp [txt, List.getD, hi]
    rw [e]
    have hh := hcell i (by omega)
    by_cases h0 : i = 0
    · subst h0; simpa [Addr.add] using hh
    · simpa [Addr.add, h0] using hh
theorem GivenS.len {w : World} {a : Option Addr} {len cap : Nat} {l : List ByteArray} (h : GivenS w (.slice a len cap) l) : l.length = len := by
  obtain ⟨⟨_, _, e, _⟩, _⟩ := h; simp at e; exact e.2.1.symm
end Go.Proofs.Ytdlebcjkokabjaa
