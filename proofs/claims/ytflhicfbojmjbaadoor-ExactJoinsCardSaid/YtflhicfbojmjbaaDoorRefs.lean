/- bushelref04: what just is a root. -/
import Derived.Test.YtflhicfbojmjbaaDoorRoob
import Derived.Test.YtflhicfbojmjbaaDoorMeet
import Derived.Deep.RegionWith
import Derived.Deep.RegionHeld3
import Derived.Deep.DeepCutAuto
import Derived.Deep.CutBlock
import Derived.Outline
namespace Go.Proofs.YtflhicfbojmjbaaDoor
set_option maxRecDepth 100000
open Go.RowKit
set_option linter.unusedVariables false
theorem below_alloc' {w W : World} {o : Obj} (h : Below w.heap.size w W) : Below w.heap.size w (W.alloc o) := h.trans ((below_one W o).mono h.size)
theorem below_then {w W W' : World} (h : Below w.heap.size w W) (hb : Below W.heap.size W W') : Below w.heap.size w W' := h.trans (hb.mono h.size)
theorem kept_new {w W : World} {a b : Value} (h : Below w.heap.size w W) : Kept w W.heap.size 30 (W.alloc (.cells #[a, b] 30)) :=
  ⟨h.trans ((below_one W _).mono h.size), h.size, a, b, heap_alloc_new W _⟩
/-- Two variables P and M, and what is read. -/
def PM (w : World) (P M : Nat) (a b c d : Value) (x y : Int) (wr : World) : Prop :=
  ((wr.cell? ⟨P, 0, none⟩ = some a ∧ wr.cell? ⟨P, 1, none⟩ = some b) ∧ (wr.cell? ⟨M, 0, none⟩ = some c ∧ wr.cell? ⟨M, 1, none⟩ = some d)) ∧ (Kept w P 30 wr ∧ Kept w M 30 wr ∧ P ≠ M) ∧ IsNum wr (.agg #[a, b]) x ∧ IsNum wr (.agg #[c, d]) y
theorem PM.call {w w1 w2 : World} {P M : Nat} {a b c d : Value} {x y : Int} (h : PM w P M a b c d x y w1) (hb : Below w1.heap.size w1 w2) : PM w P M a b c d x y w2 := by
  obtain ⟨⟨⟨h1, h2⟩, h3, h4⟩, ⟨h5, h6, h7⟩, h8, h9⟩ := h
  exact ⟨⟨⟨cell_later hb h1, cell_later hb h2⟩, cell_later hb h3, cell_later hb h4⟩, ⟨h5.call hb, h6.call hb, h7⟩, h8.below hb, h9.below hb⟩
theorem PM.storeP {w w1 : World} {P M : Nat} {a b c d u s : Value} {x y z : Int} (h : PM w P M a b c d x y w1) (hz : IsNum w1 (.agg #[u, s]) z) :
    PM w P M u s c d z y ((w1.setCell ⟨P, 0, none⟩ u).setCell ⟨P, 1, none⟩ s) := by
  obtain ⟨⟨⟨h1, h2⟩, h3, h4⟩, ⟨h5, h6, h7⟩, h8, h9⟩ := h
  exact ⟨⟨set_cells h5 u s, far_one h5 u s (fun e => h7 e.symm) _ _ h3, far_one h5 u s (fun e => h7 e.symm) _ _ h4⟩, ⟨h5.store u s, h6.far (fun e => h7 e.symm) h5.2.1 u s, h7⟩, h5.num hz, num_far h5 u s h9⟩
theorem PM.storeM {w w1 : World} {P M : Nat} {a b c d u s : Value} {x y z : Int} (h : PM w P M a b c d x y w1) (hz : IsNum w1 (.agg #[u, s]) z) :
    PM w P M a b u s x z ((w1.setCell ⟨M, 0, none⟩ u).setCell ⟨M, 1, none⟩ s) := by
  obtain ⟨⟨⟨h1, h2⟩, h3, h4⟩, ⟨h5, h6, h7⟩, h8, h9⟩ := h
  exact ⟨⟨⟨far_one h6 u s h7 _ _ h1, far_one h6 u s h7 _ _ h2⟩, set_cells h6 u s⟩, ⟨h5.far h7 h6.2.1 u s, h6.store u s, h7⟩, num_far h6 u s h8, h6.num hz⟩
/-- Three variables, read, and what they hold. -/
def Tri (w : World) (X : Nat) (a b c d e f : Value) (wr : World) : Prop :=
  SixAt X (X + 1) (X + 2) a b c d e f wr ∧ Kept w (X + 1) 30 wr
theorem Tri.call {w w1 w2 : World} {X : Nat} {a b c d e f : Value} (h : Tri w X a b c d e f w1) (hb : Below w1.heap.size w1 w2) : Tri w X a b c d e f w2 := ⟨SixAt.call h.1 hb, h.2.call hb⟩
theorem Tri.start (w : World) (a b c d e f : Value) : Tri w w.heap.size a b c d e f (((w.alloc (.cells #[a, b] 30)).alloc (.cells #[c, d] 30)).alloc (.cells #[e, f] 30)) := by
  have h2 := below_two (w.alloc (.cells #[a, b] 30)) (.cells #[c, d] 30) (.cells #[e, f] 30)
  have h1 := below_one ((w.alloc (.cells #[a, b] 30)).alloc (.cells #[c, d] 30)) (.cells #[e, f] 30)
  refine ⟨⟨⟨cell_later h2 (by simp [go_sem]), cell_later h2 (by simp [go_sem])⟩, ⟨cell_later h1 (by simp [go_sem]), cell_later h1 (by simp [go_sem])⟩, by simp [go_sem], by simp [go_sem]⟩, ?_⟩
  have h3 := (Kept.start (w.alloc (.cells #[a, b] 30)) c d 30).down (below_one w _)
  simp only [World.size_alloc] at h3
  exact h3.call h1
theorem below_three (w : World) (o p q : Obj) : Below w.heap.size w (((w.alloc o).alloc p).alloc q) := (below_two w o p).trans ((below_one _ q).mono (by simp; omega))
theorem tri_new {w W : World} {X : Nat} {a b c d e f u t : Value} {x z : Int} (h : Tri w X a b c d e f W) (hx : IsNum W (.agg #[c, d]) x) (hz : IsNum W (.agg #[u, t]) z) :
    PM w (X + 1) W.heap.size c d u t x z (W.alloc (.cells #[u, t] 30)) := by
  have hb := below_one W (.cells #[u, t] 30)
  obtain ⟨⟨-, ⟨h1, h2⟩, -⟩, h3⟩ := h
  refine ⟨⟨⟨cell_later hb h1, cell_later hb h2⟩, by simp [go_sem], by simp [go_sem]⟩, ⟨h3.call hb, kept_new h3.1, ?_⟩, hx.below hb, hz.below hb⟩
  obtain ⟨-, -, x', y', h4⟩ := h3
  have := (Array.getElem?_eq_some_iff.1 h4).1
  omega
theorem tri_set {w W : World} {X M : Nat} {a b c d e f u t : Value} {x z : Int} (h : Tri w X a b c d e f W) (k : Kept w M 30 W) (hM : X + 1 ≠ M) (hx : IsNum W (.agg #[c, d]) x) (hz : IsNum W (.agg #[u, t]) z) :
    PM w (X + 1) M c d u t x z ((W.setCell ⟨M, 0, none⟩ u).setCell ⟨M, 1, none⟩ t) := by
  obtain ⟨⟨-, ⟨h1, h2⟩, -⟩, h3⟩ := h
  exact ⟨⟨⟨far_one k u t hM _ _ h1, far_one k u t hM _ _ h2⟩, set_cells k u t⟩, ⟨h3.far hM k.2.1 u t, k.store u t, hM⟩, num_far k u t hx, k.num hz⟩
theorem tri_far {W w2 : World} {X M : Nat} (hX : X + 2 < W.heap.size) (k : Kept W M 30 w2) : X + 1 ≠ M := by
  obtain ⟨-, h, -⟩ := k; omega
theorem cmp_le_zero (a b : Nat) : decide (cmpI (a : Int) (b : Int) ≤ 0) = decide (a ≤ b) := by
  rw [decide_eq_decide]; have := cmpI_le (x := (a : Int)) (y := (b : Int)); omega
theorem cmp_eq_zero (a b : Nat) : (cmpI (a : Int) (b : Int) == 0) = decide (a = b) := by
  rw [Bool.eq_iff_iff]; simp
  have h1 := cmpI_le (x := (a : Int)) (y := (b : Int))
  have h2 := cmpI_ge (x := (a : Int)) (y := (b : Int))
  omega
theorem two_cast (N : Nat) : ((2 : Int) ^ N) = ((2 ^ N : Nat) : Int) := by simp
theorem sized_nat {z N : Nat} (h : z ≤ 2 ^ N) (hN : N ≤ 15000) : Sized 20000 (z : Int) :=
  sized_less (by omega) (by rw [two_cast]; exact Int.ofNat_le.2 h) hN
theorem le_two_mul {a b m n : Nat} (h : a ≤ 2 ^ m) (k : b ≤ 2 ^ n) : a * b ≤ 2 ^ (m + n) := by rw [Nat.pow_add]; exact Nat.mul_le_mul h k
theorem SixAt.drew {X M P : Nat} {a b c d e f : Value} {w : World} (h : SixAt X M P a b c d e f w) : SixAt X M P a b c d e f w.drew := h.call (Below.refl _ _).drew
theorem SixAt.alloc {X M P : Nat} {a b c d e f : Value} {w : World} {o : Obj} (h : SixAt X M P a b c d e f w) : SixAt X M P a b c d e f (w.alloc o) := h.call (below_one w o)
theorem SixAt.set {X M P N : Nat} {a b c d e f u v : Value} {w : World} (h : SixAt X M P a b c d e f w) (h1 : X ≠ N) (h2 : M ≠ N) (h3 : P ≠ N) : SixAt X M P a b c d e f ((w.setCell ⟨N, 0, none⟩ u).setCell ⟨N, 1, none⟩ v) := by
  obtain ⟨⟨c1, c2⟩, ⟨c3, c4⟩, c5, c6⟩ := h
  refine ⟨⟨?_, ?_⟩, ⟨?_, ?_⟩, ?_, ?_⟩
  all_goals rw [World.cell?_setCell_far _ _ _ _ (by simp; omega), World.cell?_setCell_far _ _ _ _ (by simp; omega)]; assumption
theorem kept_lt {w W : World} {M : Nat} (h : Kept w M 30 W) : M < W.heap.size ∧ M ≠ W.heap.size ∧ W.heap.size ≠ M := by
  obtain ⟨h1, h2, x, y, h3⟩ := h
  have := (Array.getElem?_eq_some_iff.1 h3).1
  exact ⟨this, Nat.ne_of_lt this, (Nat.ne_of_lt this).symm⟩
set_option maxRecDepth 100000
open Go.RowKit
set_option linter.unusedVariables false
end Go.Proofs.YtflhicfbojmjbaaDoor
