/- A slice of floats that came in; the sums of its parts. -/
import Derived.Test.YtboinjkeaffboaaDoorExi
import Derived.Test.YtboinjkeaffboaaDoorFlol
import Derived.ChangeSlices
namespace Go.Proofs.YtboinjkeaffboaaDoor
set_option maxRecDepth 100000
open Go.RowKit Go.ChangeShapes
set_option linter.unusedVariables false
theorem trod_float {H : Type} {enc : TypeId × Value → H} {P : Program} {w : World} {base : Nat} {spare : Nat → Bool} {held : Bool} {fuel : Nat} {t : TypeId} {cs : List Value} {x : DataW H × List MemPlace} {k : FloatKind} (ht : P.underlying t = some (.float k)) (h : DataW.trod enc P w base spare held fuel t cs = some x) : ∃ n, cs = [.float k n] ∧ (Lit.float k n).wf = true := by
  cases fuel with
  | zero => simp [DataW.trod] at h
  | succ n =>
    unfold DataW.trod at h
    rw [ht] at h
    split at h <;> simp_all
theorem flts_nil {w : World} : Flts w (.slice none 0 0) [] := ⟨⟨none, 0, rfl, by simp, .inl rfl⟩, fun i => by simp [List.getD]⟩
theorem open_flts {H : Type} {enc : TypeId × Value → H} {P : Program} {w : World} {base : Nat} {spare : Nat → Bool} {held : Bool} {fuel : Nat} {t e : TypeId} {cs : List Value} {x : DataW H × List MemPlace} (ht : P.underlying t = some (.slice e)) (he : P.underlying e = some (.float .f64)) (hc : P.cellsOf e = 1)
    (h : DataW.trod enc P w base spare held fuel t cs = some x) : ∃ a len cap xs, cs = [.slice a len cap] ∧ Flts w (.slice a len cap) xs ∧ len ≤ 9223372036854775807 := by
  rcases DataW.trod_slice ht h with ⟨rfl, -⟩ | ⟨a, len, cap, elems, rest, n, _, rfl, rfl, hb, hl, hm, hlen, hel, -, -⟩
  · exact ⟨none, 0, 0, [], rfl, flts_nil, by decide⟩
  have each : ∀ i, i < len → ∃ m, w.cell? (a.add i) = some (.float .f64 m) ∧ W64 m := by
    intro i hi
    have h1 := hel i hi
    rw [List.getElem?_eq_getElem (by omega), hc, Nat.mul_one, Option.bind_eq_some_iff] at h1
    obtain ⟨cs', hcs, hy'⟩ := h1
    obtain ⟨m, rfl, hw⟩ := trod_float he hy'
    exact ⟨m, cell_of_cells?_one hcs, by simpa [Lit.wf, W64] using hw⟩
  refine ⟨some a, len, cap, (List.range len).map fun i => match w.cell? (a.add i) with | some (.float _ m) => m | _ => 0, rfl, ?_, by unfold maxLen at hm; omega⟩
  have hget : ∀ i, i < len → w.cell? (a.add i) = some (.float .f64 (((List.range len).map fun i => match w.cell? (a.add i) with | some (.float _ m) => m | _ => 0).getD i 0)) ∧ W64 (((List.range len).map fun i => match w.cell? (a.add i) with | some (.float _ m) => m | _ => 0).getD i 0) := by
    intro i hi
    obtain ⟨m, h1, h2⟩ := each i hi
    have e : (((List.range len).map fun i => match w.cell? (a.add i) with | some (.float _ m) => m | _ => 0).getD i 0) = m := by
      rw [List.getD, List.getElem?_map, List.getElem?_range hi]
      simp [h1]
    rw [e]; exact ⟨h1, h2⟩
  refine ⟨⟨some a, cap, by simp, by simpa using hl, ?_⟩, fun i => ?_⟩
  · by_cases h0 : len = 0
    · subst h0; exact .inl (by simp)
    · refine .inr ?_
      obtain ⟨b, off, spot⟩ := a
      have hc0 := (hget 0 (by omega)).1
      have hspot : spot = none := by simpa [Addr.add] using World.cell?_spot hc0
      subst hspot
      refine ⟨b, off, rfl, World.block_lt_of_cell? w _ hc0, fun i hi => ?_⟩
      have hh := (hget i (by simpa using hi)).1
      by_cases h0 : i = 0
      · subst h0; simpa [Addr.add] using hh
      · have e : (⟨b, off, none⟩ : Addr).add i = ⟨b, off + i, none⟩ := by simp [Addr.add, h0]
        rw [e] at hh; exact hh
  · by_cases hi : i < len
    · exact (hget i hi).2
    · have : (((List.range len).map fun i => match w.cell? (a.add i) with | some (.float _ m) => m | _ => 0).getD i 0) = 0 := by
        rw [List.getD, List.getElem?_eq_none (by simp; omega)]; rfl
      rw [this]; decide
theorem flts_len {w : World} {a : Option Addr} {len cap : Nat} {xs : List Nat} (h : Flts w (.slice a len cap) xs) : xs.length = len := by
  obtain ⟨⟨_, _, e, _⟩, _⟩ := h; simp at e; exact e.2.1.symm
end Go.Proofs.YtboinjkeaffboaaDoor
