/- Sums that are joined, on both sides at once: one answer for a join, fitting or not. -/
import Derived.Test.YtflhicfbojmjbaaDoorExy
namespace Go.Proofs.YtflhicfbojmjbaaDoor
set_option maxRecDepth 100000
open Go.RowKit
set_option linter.unusedVariables false
theorem grown_of_below {w w' : World} (h : Below w.heap.size w w') (N : Nat) : w.grownBy w' (some N) := ⟨h.os, h.tape, h.output, h.size, fun k hk _ => h.block k hk⟩
/-- What a join of two states comes to. -/
def JoinBoth (f g : Nat) (s t : Int) (one : Bool) (F : Nat) (T : Int) : Prop :=
  (∀ w N M, SumAt w N f s → SumAt w M g t → Calls Tryd.prog 10 #[.pointer (some ⟨N, 0, none⟩), .pointer (some ⟨M, 0, none⟩)] w fun e w' => e = .returned (.bool one) ∧ SumAt w' N F T ∧ w.grownBy w' (some N)) ∧
  ∀ w u v, SumV w u f s → SumV w v g t → Calls Tryd.prog 11 #[u, v] w (RJoinP F T one w)
theorem join_both (f g : Nat) (s t : Int) : ∃ one F T, JoinBoth f g s t one F T := by
  by_cases h : Fits (s + t)
  · refine ⟨true, f ||| g, s + t, fun w N M hs ht => ?_, fun w u v hu hv => rsjoin_fit w u v f g s t hu hv h⟩
    exact pjoin_fit w N M f g s t hs ht h
  · refine ⟨false, f, s, fun w N M hs ht => ?_, fun w u v hu hv => rsjoin_over w u v f g s t hu hv h⟩
    exact (pjoin_over w N M f g s t hs ht h).mono fun e w' ⟨he, hb⟩ => ⟨he, hs.below hb, grown_of_below hb N⟩
/-- What an addition of a number to a state comes to. -/
def AddBoth (f x : Nat) (s : Int) (two : Bool) (F : Nat) (T : Int) : Prop :=
  (∀ w N, SumAt w N f s → Tab64 w → Calls Tryd.prog 13 #[.pointer (some ⟨N, 0, none⟩), .float .f64 x] w fun e w' => e = .returned (.bool two) ∧ SumAt w' N F T ∧ w.grownBy w' (some N)) ∧
  ∀ w v, SumV w v f s → Calls Tryd.prog 12 #[v, .float .f64 x] w (RJoinP F T two w)
theorem add_both (f x : Nat) (s : Int) (hx : W64 x) : ∃ two F T, AddBoth f x s two F T := by
  by_cases h : Fits (s + unitsI x)
  · exact ⟨true, f ||| flagN x, s + unitsI x, fun w N hs hT => padd_fit w N f x s hs hx hT h, fun w v hv => radd_any w v f x s hv hx h⟩
  · refine ⟨false, f, s, fun w N hs hT => ?_, fun w v hv => radd_over w v f x s hv hx h⟩
    exact (padd_over w N f x s hs hx hT h).mono fun e w' ⟨he, hb⟩ => ⟨he, hs.below hb, grown_of_below hb N⟩
/-- The value that lies in a box. -/
theorem SumBox.value {w : World} {K f : Nat} {t : Int} (h : SumBox w K f t) : ∃ nb p l c, w.heap[K]? = some (.cells #[.bool (bitB f 0), .bool (bitB f 1), .bool (bitB f 2), .bool (bitB f 3), .bool (bitB f 4), .bool nb, .slice p l c] 32 (0, 0)) ∧
    SumV w (.agg #[.bool (bitB f 0), .bool (bitB f 1), .bool (bitB f 2), .bool (bitB f 3), .bool (bitB f 4), .bool nb, .slice p l c]) f t := by
  obtain ⟨nb, p, l, c, h1, h2, h3⟩ := h
  exact ⟨nb, p, l, c, h1, nb, p, l, c, rfl, h2, h3⟩
/-- A value that is laid in a new box. -/
theorem SumV.box {w : World} {f : Nat} {t : Int} {nb : Bool} {p : Option Addr} {l c : Nat} (h : SumV w (.agg #[.bool (bitB f 0), .bool (bitB f 1), .bool (bitB f 2), .bool (bitB f 3), .bool (bitB f 4), .bool nb, .slice p l c]) f t) :
    SumBox (w.alloc (.cells #[.bool (bitB f 0), .bool (bitB f 1), .bool (bitB f 2), .bool (bitB f 3), .bool (bitB f 4), .bool nb, .slice p l c] 32)) w.heap.size f t := by
  obtain ⟨nb', p', l', c', e, h2, h3⟩ := h
  simp only [Value.agg.injEq, Array.mk.injEq, List.cons.injEq, Value.bool.injEq, Value.slice.injEq, and_true, true_and] at e
  obtain ⟨rfl, rfl, rfl, rfl⟩ := e
  exact ⟨_, _, _, _, heap_alloc_new w _, h2.below (below_one w _), h3⟩
theorem SumV.shape {w : World} {v : Value} {f : Nat} {t : Int} (h : SumV w v f t) : ∃ nb p l c, v = .agg #[.bool (bitB f 0), .bool (bitB f 1), .bool (bitB f 2), .bool (bitB f 3), .bool (bitB f 4), .bool nb, .slice p l c] := by
  obtain ⟨nb, p, l, c, e, -, -⟩ := h
  exact ⟨nb, p, l, c, e⟩
end Go.Proofs.YtflhicfbojmjbaaDoor
