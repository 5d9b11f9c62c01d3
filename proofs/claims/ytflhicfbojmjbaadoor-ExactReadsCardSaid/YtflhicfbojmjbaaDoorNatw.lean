/- What Bits of package bushelref02 answers. -/
import Derived.Test.YtflhicfbojmjbaaDoorNumx
import Derived.Test.YtflhicfbojmjbaaDoorNatr
import Derived.Test.YtflhicfbojmjbaaDoorMeet
import Derived.Outline
import Derived.Deep.LoopGhost
namespace Go.Proofs.YtflhicfbojmjbaaDoor
set_option maxRecDepth 100000
open Go.RowKit
set_option linter.unusedVariables false
def BitsRel (w : World) (X P : Nat) (a b : Value) (z : Int) (n : Nat) (W : World) : Prop :=
  (∃ u t, (W.cell? ⟨P, 0, none⟩ = some u ∧ W.cell? ⟨P, 1, none⟩ = some t) ∧ IsNum W (.agg #[u, t]) (2 ^ n)) ∧ (W.cell? ⟨X, 0, none⟩ = some a ∧ W.cell? ⟨X, 1, none⟩ = some b) ∧ Kept w P 30 W ∧ IsNum W (.agg #[a, b]) z
theorem BitsRel.next {w W W1 W2 : World} {X P : Nat} {a b u t : Value} {z : Int} {n : Nat} (h : BitsRel w X P a b z n W) (hXP : X ≠ P) (h1 : Below W.heap.size W W1) (h2 : Below W1.heap.size W1 W2) (hr : IsNum W2 (.agg #[u, t]) (2 ^ (n + 1))) :
    BitsRel w X P a b z (n + 1) ((W2.setCell ⟨P, 0, none⟩ u).setCell ⟨P, 1, none⟩ t) := by
  obtain ⟨-, ⟨x1, x2⟩, hk, hz⟩ := h
  have hk2 := (hk.call h1).call h2
  have y1 := cell_later h2 (cell_later h1 x1)
  have y2 := cell_later h2 (cell_later h1 x2)
  obtain ⟨k1, k2, p, q, k3⟩ := id hk2
  obtain ⟨cur, k4⟩ := heap_setCell_cells (p := ⟨P, 0, none⟩) (u := u) k3
  refine ⟨⟨u, t, set_cells hk2 u t, hk2.num hr⟩, ⟨?_, ?_⟩, hk2.store u t, (((hz.below h1).below h2).set u k3 (by decide)).set t k4 (by decide)⟩
  · rw [World.cell?_setCell_far _ _ _ _ (by simp; omega), World.cell?_setCell_far _ _ _ _ (by simp; omega)]; exact y1
  · rw [World.cell?_setCell_far _ _ _ _ (by simp; omega), World.cell?_setCell_far _ _ _ _ (by simp; omega)]; exact y2
theorem pow2_less {m n : Nat} (h : (2 : Int) ^ m < 2 ^ n) : m < n := by
  by_cases g : m < n
  · exact g
  · have := pow2_mono (m := n) (n := m) (by omega); omega
theorem sized_pow2 {N : Nat} (h : N ≤ 1281) : Sized 1000 ((2 : Int) ^ N) := by
  have hp : (0 : Int) < 2 ^ N := Int.pow_pos (by decide)
  have hm : (2 : Int) ^ N ≤ 2 ^ 1281 := pow2_mono h
  have hc : (2 : Int) ^ 1281 < 1000 ^ 1000 := by decide +kernel
  exact ⟨by omega, by omega⟩
theorem bits_stop {z : Int} {n : Nat} (h0 : 0 ≤ z) (hn : n ≤ bitsZ z) (hz : ¬ (2 : Int) ^ n ≤ z) : n = bitsZ z := by
  by_cases e : z = 0
  · subst e; rw [show bitsZ 0 = 0 from rfl] at *; omega
  · have := bits_le (z := z) (by omega)
    have hb := bitsZ_pos (z := z) (by omega)
    have := pow2_less (m := bitsZ z - 1) (n := n) (by omega)
    omega
theorem bits_more {z : Int} {n : Nat} (hz : (2 : Int) ^ n ≤ z) : n < bitsZ z := by
  have hp : (0 : Int) < 2 ^ n := Int.pow_pos (by decide)
  exact pow2_less (Int.lt_of_le_of_lt hz (bits_lt (by omega)))
end Go.Proofs.YtflhicfbojmjbaaDoor
