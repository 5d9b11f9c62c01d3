/- Contracts that the law leans on, pruned and merged: Bufd Bufe Bufh Scht. -/
import Derived.Lib.Bytealg
import Derived.Test.YtigikgphipebiaaGreatDoorOn07
import Derived.Test.YtigikgphipebiaaGreatDoorOn08
import Derived.Test.YtigikgphipebiaaGreatDoorOn31
/- What the reader finds as bytes. -/
namespace Go.Proofs.YtigikgphipebiaaGreatDoor
set_option maxRecDepth 100000
open Go.RowKit
set_option linter.unusedVariables false
theorem below_grown {w0 w w' : World} {N : Nat} (h : Below w0.heap.size w0 w) (g : w.grownBy w' (some N)) (hN : w0.heap.size ≤ N) : Below w0.heap.size w0 w' :=
  h.grown g h.size (fun k hk => by have e : N = k := Option.some.inj hk; omega)
/-- The four cells of a reader. -/
def In4 (w : World) (N : Nat) (v : Value) (p e : Nat) : Prop := w.heap[N]? = some (.cells #[v, .int .i64 p, .int .i64 e, .bool true] 197 (0, 0))
theorem In4.reads {w : World} {N : Nat} {v : Value} {p e : Nat} (h : In4 w N v p e) :
    w.cell? ⟨N, 0, none⟩ = some v ∧ w.cell? ⟨N, 1, none⟩ = some (.int .i64 p) ∧ w.cell? ⟨N, 2, none⟩ = some (.int .i64 e) ∧ w.cell? ⟨N, 3, none⟩ = some (.bool true) := by
  unfold In4 at h
  refine ⟨by simp [World.cell?, h], by simp [World.cell?, h], by simp [World.cell?, h], by simp [World.cell?, h]⟩
theorem In4.free {w : World} {N : Nat} {v : Value} {p e : Nat} (h : In4 w N v p e) : w.frozen? ⟨N, 1, none⟩ = false ∧ w.frozen? ⟨N, 2, none⟩ = false := by
  unfold In4 at h
  refine ⟨by simp [World.frozen?, h], by simp [World.frozen?, h]⟩
theorem In4.lt {w : World} {N : Nat} {v : Value} {p e : Nat} (h : In4 w N v p e) : N < w.heap.size := (Array.getElem?_eq_some_iff.1 h).1
theorem In4.below {w w' : World} {N : Nat} {v : Value} {p e : Nat} (h : In4 w N v p e) (hb : Below w.heap.size w w') : In4 w' N v p e := by
  unfold In4; rw [hb.block N h.lt]; exact h
/-- A reader of bytes b, at position p, with the error e (0: none). -/
def InAt (w : World) (N : Nat) (b : List Int) (p e : Nat) : Prop := ∃ v, In4 w N v p e ∧ Ints .u8 w v b ∧ Typed 5 w v ∧ Bt b ∧ b.length ≤ 20000 ∧ p ≤ b.length
theorem InAt.lt {w : World} {N : Nat} {b : List Int} {p e : Nat} (h : InAt w N b p e) : N < w.heap.size := by obtain ⟨v, h, -⟩ := h; exact h.lt
theorem InAt.below {w w' : World} {N : Nat} {b : List Int} {p e : Nat} (h : InAt w N b p e) (hb : Below w.heap.size w w') : InAt w' N b p e := by
  obtain ⟨v, h1, h2, h3, h4⟩ := h
  exact ⟨v, h1.below hb, h2.below hb, h3.below hb, h4⟩
theorem InAt.pos {w : World} {N : Nat} {b : List Int} {p e : Nat} (h : InAt w N b p e) {q : Nat} (hq : q ≤ b.length) : InAt (w.setCell ⟨N, 1, none⟩ (.int .i64 q)) N b q e := by
  obtain ⟨v, h1, h2, h3, h4, h5, h6⟩ := h
  refine ⟨v, ?_, h2.grown h3 h1 (by decide) (grown_set w N 1 _), h3.grown h1 (by decide) (grown_set w N 1 _), h4, h5, hq⟩
  have := heap_setCell_same w N 1 _ _ (.int .i64 q) h1
  exact this
set_option maxRecDepth 100000
open Go.RowKit
set_option linter.unusedVariables false
/-- A reader that was not made, or none. -/
def NoIn (w : World) (v : Value) : Prop := v = .pointer none ∨ ∃ N, v = .pointer (some ⟨N, 0, none⟩) ∧ w.heap[N]? = some (.cells #[.slice none 0 0, .int .i64 0, .int .i64 0, .bool false] 197 (0, 0))
theorem NoIn.below {w w' : World} {v : Value} (h : NoIn w v) (hb : Below w.heap.size w w') : NoIn w' v := by
  rcases h with rfl | ⟨N, rfl, h⟩
  · exact .inl rfl
  · exact .inr ⟨N, rfl, by rw [hb.block N (Array.getElem?_eq_some_iff.1 h).1]; exact h⟩
/-- A reader that reads nothing any more: its error is e. -/
def Shut (v : Value) (e : Nat) (w : World) : Prop := e ≠ 0 ∧ e < 100 ∧ ∀ w', Below w.heap.size w w' → Calls Tryz.prog 153 #[v] w' fun r w2 => r = .returned (.int .i64 e) ∧ w' = w2
theorem Shut.below {v : Value} {e : Nat} {w w' : World} (h : Shut v e w) (hb : Below w.heap.size w w') : Shut v e w' := ⟨h.1, h.2.1, fun w2 h2 => h.2.2 w2 (hb.trans (h2.mono hb.size))⟩
set_option maxRecDepth 100000
open Go.RowKit
set_option linter.unusedVariables false
set_option maxRecDepth 100000
open Go.RowKit
set_option linter.unusedVariables false
end Go.Proofs.YtigikgphipebiaaGreatDoor
/- The generic read at its five types; the reader's functions. -/
namespace Go.Proofs.YtigikgphipebiaaGreatDoor
set_option maxRecDepth 100000
open Go.RowKit
set_option linter.unusedVariables false
/-- What a reading function leaves: the value, the reader behind it, and that nothing else has changed. -/
def ReadP (V : Value → World → Prop) (w : World) (N : Nat) (b : List Int) (p n e : Nat) (r : Ending) (w' : World) : Prop := (∃ v, r = .returned v ∧ V v w') ∧ InAt w' N b (if e = 0 then p + n else p) e ∧ w.grownBy w' (some N)
end Go.Proofs.YtigikgphipebiaaGreatDoor
/- The statement's read: what a reader that goes on answers. -/
namespace Go.Proofs.YtigikgphipebiaaGreatDoor
set_option maxRecDepth 100000
open Go.RowKit
set_option linter.unusedVariables false
theorem ReadP.from {V : Value → World → Prop} {w w1 w' : World} {N : Nat} {b : List Int} {p n e : Nat} {r : Ending} (h : ReadP V w1 N b p n e r w') (hb : Below w.heap.size w w1) : ReadP V w N b p n e r w' :=
  ⟨h.1, h.2.1, grown_then (grown_below hb (some N)) h.2.2⟩
set_option maxRecDepth 100000
open Go.RowKit
set_option linter.unusedVariables false
theorem cell_far {w w' : World} {N : Nat} {a : Addr} {v : Value} (hg : w.grownBy w' (some N)) (h : w.cell? a = some v) (hne : a.block ≠ N) : w'.cell? a = some v := by
  rw [hg.cell_far a (World.block_lt_of_cell? w a h) (by simpa using hne)]; exact h
end Go.Proofs.YtigikgphipebiaaGreatDoor
/- Layer 11: the program's Get. -/
namespace Go.Proofs.YtigikgphipebiaaGreatDoor
set_option maxRecDepth 100000
open Go.RowKit
set_option linter.unusedVariables false
set_option maxRecDepth 100000
open Go.RowKit
set_option linter.unusedVariables false
theorem cell_grown {w w' : World} {N : Nat} {a : Addr} {v : Value} (hg : w.grownBy w' (some N)) (h : w.cell? a = some v) (hne : a.block ≠ N) : w'.cell? a = some v := by
  rw [hg.cell_far a (World.block_lt_of_cell? w a h) (by simpa using hne)]; exact h
/-- A reader stays where another block changes. -/
theorem InAt.far {w w' : World} {N K : Nat} {b : List Int} {p e : Nat} {cur : Array Value} {T : TypeId} {fr : Nat × Nat} (h : InAt w N b p e) (hp : w.heap[K]? = some (.cells cur T fr)) (hT : T ≠ 5) (hne : N ≠ K) (hg : w.grownBy w' (some K)) : InAt w' N b p e := by
  obtain ⟨v, h1, h2, h3, h4⟩ := h
  refine ⟨v, ?_, h2.grown h3 hp hT hg, h3.grown hp hT hg, h4⟩
  unfold In4
  rw [hg.block N h1.lt (by simpa using hne)]
  exact h1
/-- A block of a dimension. -/
def Dim2 (w : World) (K : Nat) (x : ByteArray) (z : Int) : Prop := w.heap[K]? = some (.cells #[.string x, .int .i64 z] 73 (0, 0))
theorem Dim2.reads {w : World} {K : Nat} {x : ByteArray} {z : Int} (h : Dim2 w K x z) : w.cell? ⟨K, 0, none⟩ = some (.string x) ∧ w.cell? ⟨K, 1, none⟩ = some (.int .i64 z) ∧ w.frozen? ⟨K, 0, none⟩ = false ∧ w.frozen? ⟨K, 1, none⟩ = false := by
  unfold Dim2 at h
  refine ⟨by simp [World.cell?, h], by simp [World.cell?, h], by simp [World.frozen?, h], by simp [World.frozen?, h]⟩
theorem Dim2.lt {w : World} {K : Nat} {x : ByteArray} {z : Int} (h : Dim2 w K x z) : K < w.heap.size := (Array.getElem?_eq_some_iff.1 h).1
theorem Dim2.grown {w w' : World} {K N : Nat} {x : ByteArray} {z : Int} (h : Dim2 w K x z) (hg : w.grownBy w' (some N)) (hne : K ≠ N) : Dim2 w' K x z := by
  unfold Dim2; rw [hg.block K h.lt (by simpa using hne)]; exact h
theorem Dim2.set0 {w : World} {K : Nat} {x y : ByteArray} {z : Int} (h : Dim2 w K x z) : Dim2 (w.setCell ⟨K, 0, none⟩ (.string y)) K y z := heap_setCell_same w K 0 _ _ (.string y) h
theorem Dim2.set1 {w : World} {K : Nat} {x : ByteArray} {z y : Int} (h : Dim2 w K x z) : Dim2 (w.setCell ⟨K, 1, none⟩ (.int .i64 y)) K x y := heap_setCell_same w K 1 _ _ (.int .i64 y) h
theorem Dim2.low {w w' : World} {K : Nat} {x : ByteArray} {z : Int} (h : Dim2 w K x z) (hb : Below w.heap.size w w') : Dim2 w' K x z := by
  unfold Dim2; rw [hb.block K h.lt]; exact h
set_option maxRecDepth 100000
open Go.RowKit
set_option linter.unusedVariables false
theorem own_far {w w' : World} {B E sz n N : Nat} {v : Value} {xs : List Value} (h : w.ownsRow B E sz v n xs) (hg : w.grownBy w' (some N)) (hN : N < B) : w'.ownsRow B E sz v n xs := by
  refine h.kept hg ?_
  cases hv : v.ownBlock with
  | none => exact .inl rfl
  | some g => right; intro e; have e2 := Option.some.inj e; have := (h.lt g hv).1; omega
theorem InAt.own {w w' : World} {N : Nat} {b : List Int} {p e B E sz n : Nat} {v : Value} {xs : List Value} (h : InAt w N b p e) (ho : w.ownsRow B E sz v n xs) (hE : E ≠ 5) (hN : N < B) (hg : w.grownBy w' v.ownBlock) : InAt w' N b p e := by
  rcases ho.2 with ⟨rfl, -⟩ | ⟨g, cap, cur, rfl, h2, h3, -⟩
  · exact h.below ((Below.refl _ _).grown hg (Nat.le_refl _) (fun k hk => by simp [Value.ownBlock] at hk))
  · exact h.far h3 hE (by omega) hg
/-- A slice of dimensions of the call's own. -/
def cellsD (ds : List (ByteArray × Int)) : List Value := ds.flatMap fun d => [.string d.1, .int .i64 d.2]
abbrev DOwn (w : World) (B : Nat) (v : Value) (ds : List (ByteArray × Int)) : Prop := w.ownsRow B 73 2 v ds.length (cellsD ds)
theorem cellsD_get : ∀ (ds : List (ByteArray × Int)) (i : Nat), i < ds.length → (cellsD ds)[i * 2]? = some (.string (dn ds i)) ∧ (cellsD ds)[i * 2 + 1]? = some (.int .i64 (dz ds i))
  | [], i, h => by simp at h
  | d :: ds, 0, _ => by simp [cellsD, dn, dz]
  | d :: ds, i + 1, h => by
    have ih := cellsD_get ds i (by simpa using h)
    have e : cellsD (d :: ds) = .string d.1 :: .int .i64 d.2 :: cellsD ds := by simp [cellsD]
    have e1 : (i + 1) * 2 = i * 2 + 1 + 1 := by omega
    rw [e, e1]
    simp only [List.getElem?_cons_succ]
    refine ⟨ih.1.trans ?_, ih.2.trans ?_⟩
    · simp [dn]
    · simp [dz]
theorem own_slices {w : World} {B E sz n : Nat} {v : Value} {xs : List Value} (h : w.ownsRow B E sz v n xs) : ∃ a c, v = .slice a n c := by
  rcases h.2 with ⟨rfl, rfl⟩ | ⟨g, cap, cur, rfl, -⟩
  · exact ⟨_, _, rfl⟩
  · exact ⟨_, _, rfl⟩
theorem own_any {w : World} {B E sz n : Nat} {v : Value} {xs : List Value} (h : w.ownsRow B E sz v n xs) : ∃ a l c, v = .slice a l c := by
  obtain ⟨a, c, e⟩ := own_slices h
  exact ⟨a, n, c, e⟩
theorem Dims.own {w : World} {B : Nat} {v : Value} {ds : List (ByteArray × Int)} (h : DOwn w B v ds) : Dims w v ds := by
  obtain ⟨hl, h⟩ := h
  rcases h with ⟨rfl, h0⟩ | ⟨g, cap, cur, rfl, _, hb, hnc, hm, hs, ht⟩
  · have : ds = [] := List.length_eq_zero_iff.1 h0
    subst this
    exact ⟨none, 0, rfl, by simp, by simp, .inl rfl⟩
  · refine ⟨_, cap, rfl, hnc, by unfold maxLen at hm; omega, .inr ⟨g, 0, rfl, (Array.getElem?_eq_some_iff.1 hb).1, fun i hi => ?_⟩⟩
    obtain ⟨c0, c1⟩ := cellsD_get ds i hi
    rw [← ht, List.getElem?_take, if_pos (by omega)] at c0 c1
    refine ⟨?_, ?_⟩
    · rw [Nat.zero_add, cell_of_row _ _ (i * 2) _ _ (0, 0) hb]
      simpa using c0
    · rw [Nat.zero_add, cell_of_row _ _ (i * 2 + 1) _ _ (0, 0) hb]
      simpa using c1
set_option maxRecDepth 100000
open Go.RowKit
set_option linter.unusedVariables false
theorem Box.set0 {w : World} {K : Nat} {D I M V u : Value} (h : Box w K D I M V) : Box (w.setCell ⟨K, 0, none⟩ u) K u I M V := heap_setCell_same w K 0 _ _ u h
theorem Box.set1 {w : World} {K : Nat} {D I M V u : Value} (h : Box w K D I M V) : Box (w.setCell ⟨K, 1, none⟩ u) K D u M V := heap_setCell_same w K 1 _ _ u h
theorem Box.set3 {w : World} {K : Nat} {D I M V u : Value} (h : Box w K D I M V) : Box (w.setCell ⟨K, 3, none⟩ u) K D I M u := heap_setCell_same w K 3 _ _ u h
theorem Box.free {w : World} {N : Nat} {D I M V : Value} (h : Box w N D I M V) : w.frozen? ⟨N, 0, none⟩ = false ∧ w.frozen? ⟨N, 1, none⟩ = false ∧ w.frozen? ⟨N, 2, none⟩ = false ∧ w.frozen? ⟨N, 3, none⟩ = false := by
  unfold Box at h
  refine ⟨by simp [World.frozen?, h], by simp [World.frozen?, h], by simp [World.frozen?, h], by simp [World.frozen?, h]⟩
theorem Box.grown {w w' : World} {K N : Nat} {D I M V : Value} (h : Box w K D I M V) (hg : w.grownBy w' (some N)) (hne : K ≠ N) : Box w' K D I M V := by
  unfold Box; rw [hg.block K h.lt (by simpa using hne)]; exact h
/-- What stands in memory while a schema is read: the reader, the variable that the closures hold, the result's cells, the schema's cells. -/
structure Rd (w wr : World) (N : Nat) (b : List Int) (s : Nat × Nat) (D I M V : Value) : Prop where
  i : InAt wr N b s.1 s.2
  m : wr.cell? ⟨w.heap.size, 0, none⟩ = some (.pointer (some ⟨N, 0, none⟩))
  r : Box wr (w.heap.size + 1) (.slice none 0 0) (.slice none 0 0) (.slice none 0 0) (.slice none 0 0)
  k : Box wr (w.heap.size + 1 + 1) D I M V
  g : w.grownBy wr (some N)
  sz : w.heap.size + 3 ≤ wr.heap.size
theorem Rd.call {w wr w1 : World} {N : Nat} {b : List Int} {s t : Nat × Nat} {D I M V : Value} (h : Rd w wr N b s D I M V) (hN : N < w.heap.size) (hi : InAt w1 N b t.1 t.2) (hg : wr.grownBy w1 (some N)) : Rd w w1 N b t D I M V :=
  ⟨hi, cell_grown hg h.m (by show w.heap.size ≠ N; omega), h.r.grown hg (by omega), h.k.grown hg (by omega), grown_then h.g hg, Nat.le_trans h.sz hg.size⟩
/-- A schema of the call's own. -/
structure Own4 (w : World) (B : Nat) (D I M V : Value) (S : Sc) : Prop where
  d : DOwn w B D S.ds
  i : SOwn w B I S.is
  n : SOwn w B M S.ns
  v : UOwn w B V S.vs
theorem Own4.far {w w' : World} {B N : Nat} {D I M V : Value} {S : Sc} (h : Own4 w B D I M V S) (hg : w.grownBy w' (some N)) (hN : N < B) : Own4 w' B D I M V S := ⟨own_far h.d hg hN, own_far h.i hg hN, own_far h.n hg hN, own_far h.v hg hN⟩
theorem Own4.alloc {w : World} {B : Nat} {D I M V : Value} {S : Sc} (h : Own4 w B D I M V S) (o : Obj) : Own4 (w.alloc o) B D I M V S := ⟨h.d.alloc o, h.i.alloc o, h.n.alloc o, h.v.alloc o⟩
theorem Own4.slices {w : World} {B : Nat} {D I M V : Value} {S : Sc} (h : Own4 w B D I M V S) : (∃ a l c, D = .slice a l c) ∧ (∃ a l c, I = .slice a l c) ∧ (∃ a l c, M = .slice a l c) ∧ ∃ a l c, V = .slice a l c := ⟨own_any h.d, own_any h.i, own_any h.n, own_any h.v⟩
set_option maxRecDepth 100000
open Go.RowKit
set_option linter.unusedVariables false
end Go.Proofs.YtigikgphipebiaaGreatDoor
