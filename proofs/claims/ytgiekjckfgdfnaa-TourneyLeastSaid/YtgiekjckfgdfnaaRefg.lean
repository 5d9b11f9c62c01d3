/- What Int and Is of the reference's numbers return. -/
import Derived.Test.YtgiekjckfgdfnaaRefd
namespace Go.Proofs.Ytgiekjckfgdfnaa
set_option maxRecDepth 100000
open Go.RowKit
theorem IsNum.shape {w : World} {v : Value} {z : Int} (h : IsNum w v z) : ∃ b p l c, v = .agg #[.bool b, .slice p l c] := by
  obtain ⟨b, s, d, rfl, ⟨p, c, rfl, -⟩, -⟩ := h
  exact ⟨b, p, _, c, rfl⟩
theorem Sized.neg {n : Nat} {z : Int} (h : Sized n z) : Sized n (-z) := ⟨by have := h.2; omega, by have := h.1; omega⟩
theorem Sized.mono {m n : Nat} {z : Int} (h : Sized m z) (hm : m ≤ n) : Sized n z := by
  have := p_mono hm
  exact ⟨by have := h.1; omega, by have := h.2; omega⟩
theorem sized8 {z : Int} (h1 : -999999999999999999999999 ≤ z) (h2 : z ≤ 999999999999999999999999) : Sized 8 z := by
  have h3 : (1000 : Int) ^ 8 = 1000000000000000000000000 := by decide
  exact ⟨by omega, by omega⟩
theorem Kept.start (w : World) (x y : Value) (T : TypeId) : Kept w w.heap.size T (w.alloc (.cells #[x, y] T)) := ⟨below_one w _, Nat.le_refl _, x, y, heap_alloc_new w _⟩
theorem below_two (w : World) (o p : Obj) : Below w.heap.size w ((w.alloc o).alloc p) := (below_one w o).alloc (by simp) p
/-- A comparison. -/
def Compared (w : World) (c : Int) (e : Ending) (w' : World) : Prop := e = .returned (.int .i64 c) ∧ Below w.heap.size w w'
set_option maxRecDepth 100000
open Go.RowKit
def Horner (a : List Int) (k : Nat) (x : Int) : Prop := val a = valN a k + 1000 ^ k * x ∧ 0 ≤ x
theorem Horner.step {a : List Int} {m : Nat} {x : Int} (hd : Dig a) (h : Horner a (m + 1) x) (y : Int) (hy : a.getD m 0 = y) : Horner a m (x * 1000 + y) := by
  obtain ⟨h1, h2⟩ := h
  have h3 := hd.getD m
  rw [hy] at h3
  refine ⟨?_, by omega⟩
  rw [valN, p_succ, hy] at h1
  have e1 : 1000 ^ m * 1000 * x = 1000 ^ m * (x * 1000) := by rw [Int.mul_assoc, Int.mul_comm 1000 x]
  have e2 : 1000 ^ m * (x * 1000 + y) = 1000 ^ m * (x * 1000) + 1000 ^ m * y := Int.mul_add _ _ _
  have e3 : y * 1000 ^ m = 1000 ^ m * y := Int.mul_comm _ _
  omega
theorem Horner.le {a : List Int} {k : Nat} {x : Int} (hd : Dig a) (h : Horner a k x) : x ≤ val a := by
  obtain ⟨h1, h2⟩ := h
  have h3 := (valN_range hd k).1
  have h4 : 1 * x ≤ 1000 ^ k * x := Int.mul_le_mul_of_nonneg_right (by have := p_pos k; omega) h2
  omega
/-- One box, read; and what is kept. -/
def Box1 (w : World) (N : Nat) (a b : Value) (w' : World) : Prop := w'.cell? ⟨N, 0, none⟩ = some a ∧ w'.cell? ⟨N, 1, none⟩ = some b ∧ Below w.heap.size w w'
theorem Box1.call {w w1 w2 : World} {N : Nat} {a b : Value} (h : Box1 w N a b w1) (hb : Below w1.heap.size w1 w2) : Box1 w N a b w2 :=
  ⟨cell_later hb h.1, cell_later hb h.2.1, h.2.2.trans (hb.mono h.2.2.size)⟩
theorem Box1.drew {w w1 : World} {N : Nat} {a b : Value} (h : Box1 w N a b w1) : Box1 w N a b w1.drew := h.call (Below.refl _ _).drew
theorem Box1.start (w : World) (a b : Value) (T : TypeId) : Box1 w w.heap.size a b (w.alloc (.cells #[a, b] T)) := ⟨by simp [go_sem], by simp [go_sem], below_one w _⟩
set_option maxRecDepth 100000
open Go.RowKit
end Go.Proofs.Ytgiekjckfgdfnaa
