/- bushelref05: Mean. -/
import Derived.Test.YtflhicfbojmjbaaDoorExq
import Derived.Test.YtflhicfbojmjbaaDoorExo
import Derived.Deep.RegionLaw
namespace Go.Proofs.YtflhicfbojmjbaaDoor
set_option maxRecDepth 100000
open Go.RowKit
set_option linter.unusedVariables false
theorem kinds (x : Nat) : kindI x = 1 ∨ (kindI x = 3 ∧ flagN x = 1 ∧ belowB x = false) ∨ (kindI x = 2 ∧ flagN x = 2 ∧ belowB x = false) ∨ (kindI x = 2 ∧ flagN x = 4 ∧ belowB x = true) ∨ (kindI x = 0 ∧ flagN x = 16 ∧ belowB x = false) ∨ (kindI x = 0 ∧ flagN x = 8 ∧ belowB x = true) := by
  unfold kindI flagN belowB
  cases isNaNB x <;> cases isInfB x <;> cases isZeroB x <;> cases negB x <;> simp
theorem radd_any (w : World) (v : Value) (f x : Nat) (s : Int) (h : SumV w v f s) (hx : W64 x) (hr : Fits (s + unitsI x)) :
    Calls Tryd.prog 12 #[v, .float .f64 x] w (RJoinP (f ||| flagN x) (s + unitsI x) true w) := by
  rcases kinds x with hk | ⟨hk, hf, hb⟩ | ⟨hk, hf, hb⟩ | ⟨hk, hf, hb⟩ | ⟨hk, hf, hb⟩ | ⟨hk, hf, hb⟩
  · rw [flag_one hx hk]
    exact radd_fin w v f x _ s _ true h hx hk (fun w1 v1 v2 h1 h2 => rsjoin_fit w1 v1 v2 f 16 s (unitsI x) h1 h2 hr)
  all_goals rw [units_other (by omega), Int.add_zero, hf]
  · exact radd_nan w v f x s h hx hk hb
  · exact radd_inf_pos w v f x s h hx hk hb
  · exact radd_inf_neg w v f x s h hx hk hb
  · exact radd_zero_pos w v f x s h hx hk hb
  · exact radd_zero_neg w v f x s h hx hk hb
theorem radd_over (w : World) (v : Value) (f x : Nat) (s : Int) (h : SumV w v f s) (hx : W64 x) (hr : ¬ Fits (s + unitsI x)) :
    Calls Tryd.prog 12 #[v, .float .f64 x] w (RJoinP f s false w) := by
  have hk : kindI x = 1 := by
    apply Classical.byContradiction
    intro hk
    obtain ⟨-, -, -, -, -, -, hg⟩ := h
    rw [units_other hk, Int.add_zero] at hr
    exact hr hg.2.2
  exact radd_fin w v f x _ s _ false h hx hk (fun w1 v1 v2 h1 h2 => rsjoin_over w1 v1 v2 f 16 s (unitsI x) h1 h2 hr)
/-- A block that holds a sum of the reference. -/
def SumBox (w : World) (K : Nat) (f : Nat) (t : Int) : Prop := ∃ nb p l c, w.heap[K]? = some (.cells #[.bool (bitB f 0), .bool (bitB f 1), .bool (bitB f 2), .bool (bitB f 3), .bool (bitB f 4), .bool nb, .slice p l c] 32 (0, 0)) ∧ IsNum w (.agg #[.bool nb, .slice p l c]) t ∧ Good f t
theorem SumBox.below {w w' : World} {K f : Nat} {t : Int} (h : SumBox w K f t) (hb : Below w.heap.size w w') : SumBox w' K f t := by
  obtain ⟨nb, p, l, c, h1, h2, h3⟩ := h
  exact ⟨nb, p, l, c, heap_then h1 hb, h2.below hb, h3⟩
theorem SumBox.lt {w : World} {K f : Nat} {t : Int} (h : SumBox w K f t) : K < w.heap.size := by
  obtain ⟨nb, p, l, c, h1, -⟩ := h
  exact (Array.getElem?_eq_some_iff.1 h1).1
/-- A box is written with a sum. -/
theorem SumBox.put {w : World} {K f g : Nat} {t u : Int} {nb : Bool} {p : Option Addr} {l c : Nat} (h : SumBox w K f t) (hn : IsNum w (.agg #[.bool nb, .slice p l c]) u) (hg : Good g u) :
    SumBox (((((((w.setCell ⟨K, 0, none⟩ (.bool (bitB g 0))).setCell ⟨K, 1, none⟩ (.bool (bitB g 1))).setCell ⟨K, 2, none⟩ (.bool (bitB g 2))).setCell ⟨K, 3, none⟩ (.bool (bitB g 3))).setCell ⟨K, 4, none⟩ (.bool (bitB g 4))).setCell ⟨K, 5, none⟩ (.bool nb)).setCell ⟨K, 6, none⟩ (.slice p l c)) K g u := by
  obtain ⟨nb0, p0, l0, c0, h1, -, -⟩ := h
  exact ⟨nb, p, l, c, set7 h1, hn.grown h1 (by decide) (grown7 _ _ _ _ _ _ _ _ _), hg⟩
theorem SumBox.grown {w w' : World} {M K f : Nat} {t : Int} {cur : Array Value} {fr : Nat × Nat} (h : SumBox w M f t) (hp : w.heap[K]? = some (.cells cur 32 fr)) (hne : M ≠ K) (hg : w.grownBy w' (some K)) : SumBox w' M f t := by
  obtain ⟨nb, p, l, c, h1, h2, h3⟩ := h
  exact ⟨nb, p, l, c, (hg.block _ (Array.getElem?_eq_some_iff.1 h1).1 (by simpa using hne)).trans h1, h2.grown hp (by decide) hg, h3⟩
theorem good0 : Good 0 0 := good_zero
theorem bits0 : bitB 0 0 = false ∧ bitB 0 1 = false ∧ bitB 0 2 = false ∧ bitB 0 3 = false ∧ bitB 0 4 = false := by decide
theorem isNum0 {w : World} : IsNum w (.agg #[.bool false, .slice none 0 0]) 0 := isNum_zero
theorem box_new (w : World) : SumBox (w.alloc (.cells #[.bool false, .bool false, .bool false, .bool false, .bool false, .bool false, .slice none 0 0] 32)) w.heap.size 0 0 :=
  ⟨false, none, 0, 0, by rw [bits0.1, bits0.2.1, bits0.2.2.1, bits0.2.2.2.1, bits0.2.2.2.2]; exact heap_alloc_new w _, isNum0, good_zero⟩
def ROfP (xs : List Nat) (w : World) (e : Ending) (w' : World) : Prop := (∃ v, e = .returned v ∧ SumV w' v (totF xs) (totT xs)) ∧ Below w.heap.size w w'
set_option maxRecDepth 100000
open Go.RowKit
set_option linter.unusedVariables false
def RMeanP (f : Nat) (t n : Int) (w : World) (e : Ending) (w' : World) : Prop := (∃ X : Nat, W64 X ∧ sameB (meanW f t n) X = true ∧ e = .returned (.float .f64 X)) ∧ Below w.heap.size w w'
theorem nearQ_w64 {p q : Nat} {e : Int} (hq : 0 < q) : W64 (nearQ p q e) := by
  by_cases h : uQ p q e ≤ 971
  · have h1 := quo_near (p := p) (e := e) hq h
    have h2 := (uQ_facts p q e).1
    generalize nearQ p q e = R at *
    generalize uQ p q e = u at *
    rcases h1 with ⟨-, h1⟩ | ⟨-, h1⟩ | ⟨-, -, h1⟩
    · rw [h1]; decide
    · obtain ⟨d, r, -, h3, h4, h5⟩ := h1
      rw [h5, word_false]
      exact (rung_w64 h3 h4).1
    · rw [h1]; decide
  · unfold nearQ; rw [if_pos (by omega)]; decide
end Go.Proofs.YtflhicfbojmjbaaDoor
