/- bushelref04: deviations. -/
import Derived.Test.YtflhicfbojmjbaaDoorRatm
import Derived.Test.YtflhicfbojmjbaaDoorRefs
namespace Go.Proofs.YtflhicfbojmjbaaDoor
set_option maxRecDepth 100000
open Go.RowKit
set_option linter.unusedVariables false
theorem run_qnan {P : Program} (t : TypeId) (w : World) : (binOp .quo t (.float .f64 0) (.float .f64 0)).run P w = .ok (.float .f64 (nanOf w 0)) w.drew := by
  have h2 : FloatKind.f64.format.div 0 0 = none := by decide +kernel
  simp [binOp, Op.floatArith, h2, nanOf, Question.forced]
def NanPost (w : World) (e : Ending) (w' : World) : Prop := (∃ X : Nat, isNaNB X = true ∧ W64 X ∧ e = .returned (.float .f64 X)) ∧ Below w.heap.size w w'
theorem le_cast {z N K : Nat} (h : z < 2 ^ N) (hN : N ≤ K) : (z : Int) ≤ 2 ^ K := by
  rw [two_cast]
  exact Int.ofNat_le.2 (Nat.le_of_lt (Nat.lt_of_lt_of_le h (Nat.pow_le_pow_right (by decide) hN)))
theorem mid_of {z N : Nat} (h : bitsZ (z : Int) ≤ N) (hN : N ≤ 3300) : Mid z := le_cast (lt_bits h) hN
theorem num_abs {w : World} {b : Bool} {s : Value} {x : Int} (h : IsNum w (.agg #[.bool b, s]) x) : IsNum w (.agg #[.bool false, s]) (x.natAbs : Int) := by
  obtain ⟨neg, s', ds, e, h1, h2, h3, h4, h5, h6⟩ := h
  simp only [Value.agg.injEq, Array.mk.injEq, List.cons.injEq, and_true, Value.bool.injEq] at e
  obtain ⟨rfl, rfl⟩ := e
  refine ⟨false, s, ds, rfl, h1, h2, h3, h4, (fun e => by cases e), ?_⟩
  have h0 := (val_range h3).1
  rw [h6]
  cases b <;> simp [signed] <;> omega
/-- What a quotient of the reference is. -/
def QuotPost (neg : Bool) (p q : Nat) (w : World) (e : Ending) (w' : World) : Prop := ((p = 0 ∧ q = 0 ∧ ∃ X : Nat, isNaNB X = true ∧ W64 X ∧ e = .returned (.float .f64 X)) ∨ (¬ (p = 0 ∧ q = 0) ∧ e = .returned (.float .f64 (signN neg (quoN p q))))) ∧ Below w.heap.size w w'
theorem len_test {l : Nat} {z : Nat} (h : l = 0 ↔ (z : Int) = 0) : ((l : Int) == 0) = decide (z = 0) := by
  rw [Bool.eq_iff_iff]; simp; omega
/-- What a mean of the reference is. -/
def MeanPost (s n : Int) (w : World) (e : Ending) (w' : World) : Prop := ((s = 0 ∧ n = 0 ∧ ∃ X : Nat, isNaNB X = true ∧ W64 X ∧ e = .returned (.float .f64 X)) ∨ (¬ (s = 0 ∧ n = 0) ∧ e = .returned (.float .f64 (signN (meanNeg s n) (quoN s.natAbs n.natAbs))))) ∧ Below w.heap.size w w'
set_option maxRecDepth 100000
open Go.RowKit
set_option linter.unusedVariables false
/-- What a root of the reference is. -/
def RRootPost (p q : Nat) (w : World) (e : Ending) (w' : World) : Prop :=
  ((p = 0 ∧ q = 0 ∧ ∃ X : Nat, isNaNB X = true ∧ W64 X ∧ e = .returned (.float .f64 X)) ∨ (¬ (p = 0 ∧ q = 0) ∧ (p = 0 ∨ q = 0) ∧ e = .returned (.float .f64 (extW (p : Int) (q : Int)))) ∨ (p ≠ 0 ∧ q ≠ 0 ∧ ∃ m, IsFit p q m ∧ e = .returned (.float .f64 (nearW (upFit p q m) (uF p q))))) ∧ Below w.heap.size w w'
theorem big_pow {m : Nat} (h : m ≤ 18446744073709551616) : m ≤ 2 ^ 70 := Nat.le_trans h (by decide)
theorem le_bits {z N K : Nat} (h : bitsZ (z : Int) ≤ N) (hN : N ≤ K) : z ≤ 2 ^ K := Nat.le_of_lt (Nat.lt_of_lt_of_le (lt_bits h) (Nat.pow_le_pow_right (by decide) hN))
abbrev OneAt (X : Nat) (a b : Value) (w : World) : Prop := w.cell? ⟨X, 0, none⟩ = some a ∧ w.cell? ⟨X, 1, none⟩ = some b
theorem OneAt.call {X : Nat} {a b : Value} {w w' : World} (h : OneAt X a b w) (hb : Below w.heap.size w w') : OneAt X a b w' := ⟨cell_later hb h.1, cell_later hb h.2⟩
theorem OneAt.alloc {X : Nat} {a b : Value} {w : World} {o : Obj} (h : OneAt X a b w) : OneAt X a b (w.alloc o) := h.call (below_one w o)
theorem OneAt.drew {X : Nat} {a b : Value} {w : World} (h : OneAt X a b w) : OneAt X a b w.drew := h.call (Below.refl _ _).drew
theorem OneAt.set {X M : Nat} {a b u v : Value} {w : World} (h : OneAt X a b w) (hne : X ≠ M) : OneAt X a b ((w.setCell ⟨M, 0, none⟩ u).setCell ⟨M, 1, none⟩ v) := by
  obtain ⟨h1, h2⟩ := h
  exact ⟨by rw [World.cell?_setCell_far _ _ _ _ (by simp; omega), World.cell?_setCell_far _ _ _ _ (by simp; omega)]; exact h1, by rw [World.cell?_setCell_far _ _ _ _ (by simp; omega), World.cell?_setCell_far _ _ _ _ (by simp; omega)]; exact h2⟩
theorem OneAt.lt {X : Nat} {a b : Value} {w : World} (h : OneAt X a b w) : X < w.heap.size := World.block_lt_of_cell? w ⟨X, 0, none⟩ h.1
theorem small_bits {V : Nat} (h : V ≤ 9007199254740993) : bitsZ (V : Int) ≤ 400 := by
  by_cases h0 : V = 0
  · rw [h0]; decide
  · have h54 : (2 : Nat) ^ 54 = 18014398509481984 := by decide
    exact Nat.le_trans (bits_upto (N := 54) h0 (by omega)) (by decide)
/-- Three numbers that are read from their variables. -/
def Fin3 (w : World) (O Y M : Nat) (a b c d g h : Value) (x y z : Int) (wr : World) : Prop :=
  SixAt O Y M a b c d g h wr ∧ Below w.heap.size w wr ∧ IsNum wr (.agg #[a, b]) x ∧ IsNum wr (.agg #[c, d]) y ∧ IsNum wr (.agg #[g, h]) z
theorem Fin3.call {w w1 w2 : World} {O Y M : Nat} {a b c d g h : Value} {x y z : Int} (k : Fin3 w O Y M a b c d g h x y z w1) (hb : Below w1.heap.size w1 w2) : Fin3 w O Y M a b c d g h x y z w2 := by
  obtain ⟨h1, h2, h3, h4, h5⟩ := k
  exact ⟨SixAt.call h1 hb, below_then h2 hb, h3.below hb, h4.below hb, h5.below hb⟩
/-- Two numbers that are read from their variables. -/
def Fin2 (w : World) (O Y : Nat) (a b c d : Value) (x y : Int) (wr : World) : Prop :=
  (OneAt O a b wr ∧ OneAt Y c d wr) ∧ Below w.heap.size w wr ∧ IsNum wr (.agg #[a, b]) x ∧ IsNum wr (.agg #[c, d]) y
theorem Fin2.call {w w1 w2 : World} {O Y : Nat} {a b c d : Value} {x y : Int} (k : Fin2 w O Y a b c d x y w1) (hb : Below w1.heap.size w1 w2) : Fin2 w O Y a b c d x y w2 := by
  obtain ⟨⟨h1, h2⟩, h3, h4, h5⟩ := k
  exact ⟨⟨OneAt.call h1 hb, OneAt.call h2 hb⟩, below_then h3 hb, h4.below hb, h5.below hb⟩
theorem fin_new {w W : World} {O Y : Nat} {a b c d u t : Value} {x y z : Int} (h : Fin2 w O Y a b c d x y W) (hz : IsNum W (.agg #[u, t]) z) :
    Fin3 w O Y W.heap.size a b c d u t x y z (W.alloc (.cells #[u, t] 30)) := by
  have hb := below_one W (.cells #[u, t] 30)
  obtain ⟨⟨h1, h2⟩, h3, h4, h5⟩ := h
  exact ⟨⟨h1.call hb, h2.call hb, by simp [go_sem], by simp [go_sem]⟩, below_alloc' h3, h4.below hb, h5.below hb, hz.below hb⟩
theorem fin_set {w W0 W : World} {O Y M : Nat} {a b c d u t : Value} {x y z : Int} (h : Fin2 w O Y a b c d x y W) (k : Kept W0 M 30 W) (h0 : Below w.heap.size w W0) (hO : O < W0.heap.size) (hY : Y < W0.heap.size) (hz : IsNum W (.agg #[u, t]) z) :
    Fin3 w O Y M a b c d u t x y z ((W.setCell ⟨M, 0, none⟩ u).setCell ⟨M, 1, none⟩ t) := by
  obtain ⟨⟨h1, h2⟩, h3, h4, h5⟩ := h
  have hM := k.2.1
  have k2 := k.down h0
  refine ⟨⟨h1.set (by omega), h2.set (by omega), set_cells k u t⟩, (k2.store u t).1, num_far k u t h4, num_far k u t h5, k.num hz⟩
set_option maxRecDepth 100000
open Go.RowKit
set_option linter.unusedVariables false
/-- What a deviation of the reference is. -/
def RDevPost (n s : Int) (S : Nat) (w : World) (e : Ending) (w' : World) : Prop :=
  (((n < 1 ∨ 1000 < bitsZ (S : Int) ∨ n * S < s * s) ∧ ∃ X : Nat, isNaNB X = true ∧ W64 X ∧ e = .returned (.float .f64 X)) ∨ (1 ≤ n ∧ bitsZ (S : Int) ≤ 1000 ∧ ∃ D : Nat, (D : Int) = n * S - s * s ∧ ∃ w1, RRootPost D (n.natAbs * n.natAbs) w1 e w')) ∧ Below w.heap.size w w'
theorem num_neg {w : World} {b : Bool} {s : Value} {z : Int} (h : IsNum w (.agg #[.bool b, s]) z) : b = decide (z < 0) := by
  obtain ⟨neg, s', ds, e, h1, h2, h3, h4, h5, h6⟩ := h
  simp only [Value.agg.injEq, Array.mk.injEq, List.cons.injEq, and_true, Value.bool.injEq] at e
  obtain ⟨rfl, rfl⟩ := e
  have h0 := (val_range h3).1
  cases b
  · rw [h6, eq_comm, decide_eq_false_iff_not]
    have e : signed false (val ds) = val ds := rfl
    rw [e]; omega
  · have hne := h5 rfl
    have hz := h4.zero h3
    have : val ds ≠ 0 := fun e => hne (hz.1 e)
    rw [h6, eq_comm, decide_eq_true_eq]
    have e : signed true (val ds) = -val ds := rfl
    rw [e]; omega
theorem abs_cast {S K : Nat} (h : S ≤ 2 ^ K) : -(2 : Int) ^ K ≤ (S : Int) ∧ (S : Int) ≤ 2 ^ K := by
  rw [two_cast]; omega
theorem sized_prod {x y : Int} {M N : Nat} (hx : -(2 : Int) ^ M ≤ x ∧ x ≤ 2 ^ M) (hy : -(2 : Int) ^ N ≤ y ∧ y ≤ 2 ^ N) (h : M + N ≤ 15000 := by decide) : Sized 20000 (x * y) := by
  have h1 := sized_two h
  have h2 : x.natAbs ≤ 2 ^ M := by rw [two_cast] at hx; omega
  have h3 : y.natAbs ≤ 2 ^ N := by rw [two_cast] at hy; omega
  have h4 := Nat.mul_le_mul h2 h3
  rw [← Int.natAbs_mul, ← Nat.pow_add] at h4
  rw [two_cast] at h1
  obtain ⟨a, b⟩ := h1
  exact ⟨by omega, by omega⟩
theorem dev_new {w W0 W : World} {u t : Value} {z : Int} (h0 : Below w.heap.size w W0) (h : Below W0.heap.size W0 W) (hz : IsNum W (.agg #[u, t]) z) :
    OneAt W.heap.size u t (W.alloc (.cells #[u, t] 30)) ∧ Below w.heap.size w (W.alloc (.cells #[u, t] 30)) ∧ IsNum (W.alloc (.cells #[u, t] 30)) (.agg #[u, t]) z :=
  ⟨⟨by simp [go_sem], by simp [go_sem]⟩, below_alloc' (below_then h0 h), hz.below (below_one _ _)⟩
theorem dev_set {w W0 W : World} {M : Nat} {u t : Value} {z : Int} (h0 : Below w.heap.size w W0) (h : Below W0.heap.size W0 W) (k : Kept W0 M 30 W) (hz : IsNum W (.agg #[u, t]) z) :
    OneAt M u t ((W.setCell ⟨M, 0, none⟩ u).setCell ⟨M, 1, none⟩ t) ∧ Below w.heap.size w ((W.setCell ⟨M, 0, none⟩ u).setCell ⟨M, 1, none⟩ t) ∧ IsNum ((W.setCell ⟨M, 0, none⟩ u).setCell ⟨M, 1, none⟩ t) (.agg #[u, t]) z :=
  ⟨set_cells k u t, ((k.down h0).store u t).1, k.num hz⟩
theorem drew_of {X : Nat} {a b : Value} {w : World} (h : OneAt X a b w) : Below w.heap.size w w.drew := (Below.refl _ _).drew
theorem root_is_float {p q : Nat} {w : World} {e : Ending} {w' : World} (h : RRootPost p q w e w') : ∃ R, e = .returned (.float .f64 R) := by
  rcases h.1 with ⟨-, -, X, -, -, h⟩ | ⟨-, -, h⟩ | ⟨-, -, m, -, h⟩ <;> exact ⟨_, h⟩
end Go.Proofs.YtflhicfbojmjbaaDoor
