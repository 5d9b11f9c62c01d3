/- Layer 16: a queue of places in memory. -/
import Derived.Test.YtgiekjckfgdfnaaToua
namespace Go.Proofs.Ytgiekjckfgdfnaa
set_option maxRecDepth 100000
open Go.RowKit
set_option linter.unusedVariables false
/-- Two blocks alone change. -/
structure Touch (Q V : Nat) (w w' : World) : Prop where
  os : w'.os = w.os
  tape : w'.tape = w.tape
  output : w'.output = w.output
  size : w.heap.size ≤ w'.heap.size
  block : ∀ k, k < w.heap.size → k ≠ Q → k ≠ V → w'.heap[k]? = w.heap[k]?
theorem Touch.refl (Q V : Nat) (w : World) : Touch Q V w w := ⟨rfl, rfl, rfl, Nat.le_refl _, fun _ _ _ _ => rfl⟩
theorem Touch.trans {Q V : Nat} {a b c : World} (h : Touch Q V a b) (k : Touch Q V b c) : Touch Q V a c :=
  ⟨k.os.trans h.os, k.tape.trans h.tape, k.output.trans h.output, Nat.le_trans h.size k.size, fun i hi h1 h2 => (k.block i (Nat.lt_of_lt_of_le hi h.size) h1 h2).trans (h.block i hi h1 h2)⟩
theorem touch_of {Q V : Nat} {w w' : World} (h : Below w.heap.size w w') : Touch Q V w w' := ⟨h.os, h.tape, h.output, h.size, fun k hk _ _ => h.block k hk⟩
theorem Touch.below {Q V B : Nat} {w w' : World} (h : Touch Q V w w') (hB : B ≤ w.heap.size) (hQ : B ≤ Q) (hV : B ≤ V) : Below B w w' :=
  ⟨h.os, h.tape, h.output, h.size, fun k hk => h.block k (by omega) (by omega) (by omega)⟩
theorem touch_set {Q V k o : Nat} {w : World} {v : Value} (hk : k = Q ∨ k = V) : Touch Q V w (w.setCell ⟨k, o, none⟩ v) := by
  refine ⟨rfl, rfl, rfl, by simp [World.setCell], fun i hi h1 h2 => ?_⟩
  have : i ≠ k := by omega
  simp [World.setCell, Array.getElem?_modify, Ne.symm this]
/-- A queue of places: its box, its row. -/
structure Que (w : World) (Q V : Nat) (a : Option Addr) (cap : Nat) (f : Value) (L : List Nat) : Prop where
  box : w.heap[Q]? = some (.cells #[.slice a L.length cap, f] 34 (0, 0))
  cap : L.length ≤ cap
  few : L.length ≤ 1000
  row : L = [] ∨ (a = some ⟨V, 0, none⟩ ∧ ∃ cur, w.heap[V]? = some (.cells cur 3 (0, 0)) ∧ L.length ≤ cur.size ∧ ∀ i, i < L.length → cur[i]? = some (.int .i64 (hg L i)))
  ne : Q ≠ V
theorem Que.keep {w w' : World} {Q V cap : Nat} {a : Option Addr} {f : Value} {L : List Nat} (h : Que w Q V a cap f L) (hb : Below w.heap.size w w') : Que w' Q V a cap f L :=
  ⟨(hb.block _ (Array.getElem?_eq_some_iff.1 h.box).1).trans h.box, h.cap, h.few, h.row.imp id fun ⟨e, cur, h1, h2⟩ => ⟨e, cur, (hb.block _ (Array.getElem?_eq_some_iff.1 h1).1).trans h1, h2⟩, h.ne⟩
theorem Que.lt {w : World} {Q V cap : Nat} {a : Option Addr} {f : Value} {L : List Nat} (h : Que w Q V a cap f L) : Q < w.heap.size := (Array.getElem?_eq_some_iff.1 h.box).1
theorem Que.reads {w : World} {Q V cap : Nat} {a : Option Addr} {f : Value} {L : List Nat} (h : Que w Q V a cap f L) : w.cell? ⟨Q, 0, none⟩ = some (.slice a L.length cap) ∧ w.cell? ⟨Q, 1, none⟩ = some f ∧ ∀ j, w.frozen? ⟨Q, j, none⟩ = false :=
  ⟨by simp [World.cell?, h.box], by simp [World.cell?, h.box], fun j => by simp [World.frozen?, h.box]⟩
theorem Que.at {w : World} {Q V cap : Nat} {a : Option Addr} {f : Value} {L : List Nat} (h : Que w Q V a cap f L) {i : Nat} (hi : i < L.length) : a = some ⟨V, 0, none⟩ ∧ w.cell? ⟨V, i, none⟩ = some (.int .i64 (hg L i)) ∧ ∀ j, w.frozen? ⟨V, j, none⟩ = false := by
  rcases h.row with rfl | ⟨e, cur, h1, h2, h3⟩
  · cases hi
  · exact ⟨e, by simp [World.cell?, h1, h3 i hi], fun j => by simp [World.frozen?, h1]⟩
theorem Que.set {w : World} {Q V cap : Nat} {a : Option Addr} {f : Value} {L : List Nat} (h : Que w Q V a cap f L) {i x : Nat} (hi : i < L.length) : Que (w.setCell ⟨V, i, none⟩ (.int .i64 x)) Q V a cap f (L.set i x) := by
  refine ⟨?_, by simpa using h.cap, by simpa using h.few, ?_, h.ne⟩
  · have := h.ne
    simp [World.setCell, Array.getElem?_modify, Ne.symm this, h.box]
  · rcases h.row with rfl | ⟨e, cur, h1, h2, h3⟩
    · cases hi
    · refine .inr ⟨e, cur.setIfInBounds i (.int .i64 x), by simp [World.setCell, Array.getElem?_modify, h1], by simpa using h2, fun j hj => ?_⟩
      have hj : j < L.length := by simpa using hj
      rw [hg_set hi, Array.getElem?_setIfInBounds]
      by_cases q : i = j
      · subst q
        rw [if_pos rfl, if_pos (by omega), if_pos rfl]
      · rw [if_neg q, if_neg (fun k => q k.symm)]; exact h3 j hj
theorem Que.swap {w : World} {Q V cap : Nat} {a : Option Addr} {f : Value} {L : List Nat} (h : Que w Q V a cap f L) {i j : Nat} (hi : i < L.length) (hj : j < L.length) :
    Que ((w.setCell ⟨V, i, none⟩ (.int .i64 (hg L j))).setCell ⟨V, j, none⟩ (.int .i64 (hg L i))) Q V a cap f (swapH L i j) :=
  (h.set hi).set (by simpa using hj)
theorem Que.cut {w : World} {Q V cap : Nat} {a : Option Addr} {f : Value} {L : List Nat} (h : Que w Q V a cap f L) {n : Nat} (hn : n ≤ L.length) : Que (w.setCell ⟨Q, 0, none⟩ (.slice a n cap)) Q V a cap f (L.take n) := by
  have hl : (L.take n).length = n := by simp; omega
  refine ⟨?_, by have := h.cap; omega, by have := h.few; omega, ?_, h.ne⟩
  · simp [World.setCell, Array.getElem?_modify, h.box, hl]
  · rcases h.row with rfl | ⟨e, cur, h1, h2, h3⟩
    · exact .inl (by simp)
    · have := h.ne
      refine .inr ⟨e, cur, by simp [World.setCell, Array.getElem?_modify, this, h1], by omega, fun j hj => ?_⟩
      have hj2 : j < n := by omega
      have e2 : hg (L.take n) j = hg L j := by
        unfold hg
        rw [List.getD_eq_getElem?_getD, List.getD_eq_getElem?_getD, List.getElem?_take, if_pos hj2]
      rw [e2]; exact h3 j (by omega)
end Go.Proofs.Ytgiekjckfgdfnaa
