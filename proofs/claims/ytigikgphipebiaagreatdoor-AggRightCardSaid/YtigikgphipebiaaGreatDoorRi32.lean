/- Contracts that the law leans on, pruned and merged: Bufd Bufe Bufh Scht Scia Schm Facc Keye. -/
import Derived.Lib.Bytealg
import Derived.Deep.Slices
import Derived.Deep.Fields
import Derived.ChangeSame
import Derived.ChangeSlices
import Derived.Lib.SmallJoins
import Derived.SliceStrings
import Derived.Test.YtigikgphipebiaaGreatDoorRi06
import Derived.Test.YtigikgphipebiaaGreatDoorRi27
import Derived.Test.YtigikgphipebiaaGreatDoorRi29
import Derived.Test.YtigikgphipebiaaGreatDoorRi30
/- What the reader finds as bytes. -/
namespace Go.Proofs.YtigikgphipebiaaGreatDoor
set_option maxRecDepth 100000
open Go.RowKit
set_option linter.unusedVariables false
theorem below_grown {w0 w w' : World} {N : Nat} (h : Below w0.heap.size w0 w) (g : w.grownBy w' (some N)) (hN : w0.heap.size ≤ N) : Below w0.heap.size w0 w' :=
  h.grown g h.size (fun k hk => by have e : N = k := Option.some.inj hk; omega)
/-- The four cells of a reader. -/
def In4 (w : World) (N : Nat) (v : Value) (p e : Nat) : Prop := w.heap[N]? = some (.cells #[v, .int .i64 p, .int .i64 e, .bool true] 197 (0, 0))
theorem In4.reads {w : World} {N : Nat} {v : Value} {p e : Nat} (h : In4 w N v p e) :
    w.cell? ⟨N, 0, none⟩ = some v ∧ w.cell? ⟨N, 1, none⟩ = some (.int .i64 p) ∧ w.cell? ⟨N, 2, none⟩ = some (.int .i64 e) ∧ w.cell? ⟨N, 3, none⟩ = some (.bool true) := by
  unfold In4 at h
  refine ⟨by simp [World.cell?, h], by simp [World.cell?, h], by simp [World.cell?, h], by simp [World.cell?, h]⟩
theorem In4.free {w : World} {N : Nat} {v : Value} {p e : Nat} (h : In4 w N v p e) : w.frozen? ⟨N, 1, none⟩ = false ∧ w.frozen? ⟨N, 2, none⟩ = false := by
  unfold In4 at h
  refine ⟨by simp [World.frozen?, h], by simp [World.frozen?, h]⟩
theorem In4.lt {w : World} {N : Nat} {v : Value} {p e : Nat} (h : In4 w N v p e) : N < w.heap.size := (Array.getElem?_eq_some_iff.1 h).1
theorem In4.below {w w' : World} {N : Nat} {v : Value} {p e : Nat} (h : In4 w N v p e) (hb : Below w.heap.size w w') : In4 w' N v p e := by
  unfold In4; rw [hb.block N h.lt]; exact h
/-- A reader of bytes b, at position p, with the error e (0: none). -/
def InAt (w : World) (N : Nat) (b : List Int) (p e : Nat) : Prop := ∃ v, In4 w N v p e ∧ Ints .u8 w v b ∧ Typed 5 w v ∧ Bt b ∧ b.length ≤ 20000 ∧ p ≤ b.length
theorem InAt.lt {w : World} {N : Nat} {b : List Int} {p e : Nat} (h : InAt w N b p e) : N < w.heap.size := by obtain ⟨v, h, -⟩ := h; exact h.lt
theorem InAt.below {w w' : World} {N : Nat} {b : List Int} {p e : Nat} (h : InAt w N b p e) (hb : Below w.heap.size w w') : InAt w' N b p e := by
  obtain ⟨v, h1, h2, h3, h4⟩ := h
  exact ⟨v, h1.below hb, h2.below hb, h3.below hb, h4⟩
theorem InAt.pos {w : World} {N : Nat} {b : List Int} {p e : Nat} (h : InAt w N b p e) {q : Nat} (hq : q ≤ b.length) : InAt (w.setCell ⟨N, 1, none⟩ (.int .i64 q)) N b q e := by
  obtain ⟨v, h1, h2, h3, h4, h5, h6⟩ := h
  refine ⟨v, ?_, h2.grown h3 h1 (by decide) (grown_set w N 1 _), h3.grown h1 (by decide) (grown_set w N 1 _), h4, h5, hq⟩
  have := heap_setCell_same w N 1 _ _ (.int .i64 q) h1
  exact this
set_option maxRecDepth 100000
open Go.RowKit
set_option linter.unusedVariables false
/-- A reader that was not made, or none. -/
def NoIn (w : World) (v : Value) : Prop := v = .pointer none ∨ ∃ N, v = .pointer (some ⟨N, 0, none⟩) ∧ w.heap[N]? = some (.cells #[.slice none 0 0, .int .i64 0, .int .i64 0, .bool false] 197 (0, 0))
theorem NoIn.below {w w' : World} {v : Value} (h : NoIn w v) (hb : Below w.heap.size w w') : NoIn w' v := by
  rcases h with rfl | ⟨N, rfl, h⟩
  · exact .inl rfl
  · exact .inr ⟨N, rfl, by rw [hb.block N (Array.getElem?_eq_some_iff.1 h).1]; exact h⟩
/-- A reader that reads nothing any more: its error is e. -/
def Shut (v : Value) (e : Nat) (w : World) : Prop := e ≠ 0 ∧ e < 100 ∧ ∀ w', Below w.heap.size w w' → Calls Tryz.prog 153 #[v] w' fun r w2 => r = .returned (.int .i64 e) ∧ w' = w2
theorem Shut.below {v : Value} {e : Nat} {w w' : World} (h : Shut v e w) (hb : Below w.heap.size w w') : Shut v e w' := ⟨h.1, h.2.1, fun w2 h2 => h.2.2 w2 (hb.trans (h2.mono hb.size))⟩
set_option maxRecDepth 100000
open Go.RowKit
set_option linter.unusedVariables false
set_option maxRecDepth 100000
open Go.RowKit
set_option linter.unusedVariables false
end Go.Proofs.YtigikgphipebiaaGreatDoor
/- The generic read at its five types; the reader's functions. -/
namespace Go.Proofs.YtigikgphipebiaaGreatDoor
set_option maxRecDepth 100000
open Go.RowKit
set_option linter.unusedVariables false
/-- What a reading function leaves: the value, the reader behind it, and that nothing else has changed. -/
def ReadP (V : Value → World → Prop) (w : World) (N : Nat) (b : List Int) (p n e : Nat) (r : Ending) (w' : World) : Prop := (∃ v, r = .returned v ∧ V v w') ∧ InAt w' N b (if e = 0 then p + n else p) e ∧ w.grownBy w' (some N)
end Go.Proofs.YtigikgphipebiaaGreatDoor
/- The statement's read: what a reader that goes on answers. -/
namespace Go.Proofs.YtigikgphipebiaaGreatDoor
set_option maxRecDepth 100000
open Go.RowKit
set_option linter.unusedVariables false
theorem ReadP.from {V : Value → World → Prop} {w w1 w' : World} {N : Nat} {b : List Int} {p n e : Nat} {r : Ending} (h : ReadP V w1 N b p n e r w') (hb : Below w.heap.size w w1) : ReadP V w N b p n e r w' :=
  ⟨h.1, h.2.1, grown_then (grown_below hb (some N)) h.2.2⟩
set_option maxRecDepth 100000
open Go.RowKit
set_option linter.unusedVariables false
theorem cell_far {w w' : World} {N : Nat} {a : Addr} {v : Value} (hg : w.grownBy w' (some N)) (h : w.cell? a = some v) (hne : a.block ≠ N) : w'.cell? a = some v := by
  rw [hg.cell_far a (World.block_lt_of_cell? w a h) (by simpa using hne)]; exact h
end Go.Proofs.YtigikgphipebiaaGreatDoor
/- Layer 11: the program's Get. -/
namespace Go.Proofs.YtigikgphipebiaaGreatDoor
set_option maxRecDepth 100000
open Go.RowKit
set_option linter.unusedVariables false
set_option maxRecDepth 100000
open Go.RowKit
set_option linter.unusedVariables false
theorem cell_grown {w w' : World} {N : Nat} {a : Addr} {v : Value} (hg : w.grownBy w' (some N)) (h : w.cell? a = some v) (hne : a.block ≠ N) : w'.cell? a = some v := by
  rw [hg.cell_far a (World.block_lt_of_cell? w a h) (by simpa using hne)]; exact h
/-- A reader stays where another block changes. -/
theorem InAt.far {w w' : World} {N K : Nat} {b : List Int} {p e : Nat} {cur : Array Value} {T : TypeId} {fr : Nat × Nat} (h : InAt w N b p e) (hp : w.heap[K]? = some (.cells cur T fr)) (hT : T ≠ 5) (hne : N ≠ K) (hg : w.grownBy w' (some K)) : InAt w' N b p e := by
  obtain ⟨v, h1, h2, h3, h4⟩ := h
  refine ⟨v, ?_, h2.grown h3 hp hT hg, h3.grown hp hT hg, h4⟩
  unfold In4
  rw [hg.block N h1.lt (by simpa using hne)]
  exact h1
/-- A block of a dimension. -/
def Dim2 (w : World) (K : Nat) (x : ByteArray) (z : Int) : Prop := w.heap[K]? = some (.cells #[.string x, .int .i64 z] 73 (0, 0))
theorem Dim2.reads {w : World} {K : Nat} {x : ByteArray} {z : Int} (h : Dim2 w K x z) : w.cell? ⟨K, 0, none⟩ = some (.string x) ∧ w.cell? ⟨K, 1, none⟩ = some (.int .i64 z) ∧ w.frozen? ⟨K, 0, none⟩ = false ∧ w.frozen? ⟨K, 1, none⟩ = false := by
  unfold Dim2 at h
  refine ⟨by simp [World.cell?, h], by simp [World.cell?, h], by simp [World.frozen?, h], by simp [World.frozen?, h]⟩
theorem Dim2.lt {w : World} {K : Nat} {x : ByteArray} {z : Int} (h : Dim2 w K x z) : K < w.heap.size := (Array.getElem?_eq_some_iff.1 h).1
theorem Dim2.grown {w w' : World} {K N : Nat} {x : ByteArray} {z : Int} (h : Dim2 w K x z) (hg : w.grownBy w' (some N)) (hne : K ≠ N) : Dim2 w' K x z := by
  unfold Dim2; rw [hg.block K h.lt (by simpa using hne)]; exact h
theorem Dim2.set0 {w : World} {K : Nat} {x y : ByteArray} {z : Int} (h : Dim2 w K x z) : Dim2 (w.setCell ⟨K, 0, none⟩ (.string y)) K y z := heap_setCell_same w K 0 _ _ (.string y) h
theorem Dim2.set1 {w : World} {K : Nat} {x : ByteArray} {z y : Int} (h : Dim2 w K x z) : Dim2 (w.setCell ⟨K, 1, none⟩ (.int .i64 y)) K x y := heap_setCell_same w K 1 _ _ (.int .i64 y) h
theorem Dim2.low {w w' : World} {K : Nat} {x : ByteArray} {z : Int} (h : Dim2 w K x z) (hb : Below w.heap.size w w') : Dim2 w' K x z := by
  unfold Dim2; rw [hb.block K h.lt]; exact h
set_option maxRecDepth 100000
open Go.RowKit
set_option linter.unusedVariables false
theorem own_far {w w' : World} {B E sz n N : Nat} {v : Value} {xs : List Value} (h : w.ownsRow B E sz v n xs) (hg : w.grownBy w' (some N)) (hN : N < B) : w'.ownsRow B E sz v n xs := by
  refine h.kept hg ?_
  cases hv : v.ownBlock with
  | none => exact .inl rfl
  | some g => right; intro e; have e2 := Option.some.inj e; have := (h.lt g hv).1; omega
theorem InAt.own {w w' : World} {N : Nat} {b : List Int} {p e B E sz n : Nat} {v : Value} {xs : List Value} (h : InAt w N b p e) (ho : w.ownsRow B E sz v n xs) (hE : E ≠ 5) (hN : N < B) (hg : w.grownBy w' v.ownBlock) : InAt w' N b p e := by
  rcases ho.2 with ⟨rfl, -⟩ | ⟨g, cap, cur, rfl, h2, h3, -⟩
  · exact h.below ((Below.refl _ _).grown hg (Nat.le_refl _) (fun k hk => by simp [Value.ownBlock] at hk))
  · exact h.far h3 hE (by omega) hg
/-- A slice of dimensions of the call's own. -/
def cellsD (ds : List (ByteArray × Int)) : List Value := ds.flatMap fun d => [.string d.1, .int .i64 d.2]
abbrev DOwn (w : World) (B : Nat) (v : Value) (ds : List (ByteArray × Int)) : Prop := w.ownsRow B 73 2 v ds.length (cellsD ds)
theorem cellsD_get : ∀ (ds : List (ByteArray × Int)) (i : Nat), i < ds.length → (cellsD ds)[i * 2]? = some (.string (dn ds i)) ∧ (cellsD ds)[i * 2 + 1]? = some (.int .i64 (dz ds i))
  | [], i, h => by simp at h
  | d :: ds, 0, _ => by simp [cellsD, dn, dz]
  | d :: ds, i + 1, h => by
    have ih := cellsD_get ds i (by simpa using h)
    have e : cellsD (d :: ds) = .string d.1 :: .int .i64 d.2 :: cellsD ds := by simp [cellsD]
    have e1 : (i + 1) * 2 = i * 2 + 1 + 1 := by omega
    rw [e, e1]
    simp only [List.getElem?_cons_succ]
    refine ⟨ih.1.trans ?_, ih.2.trans ?_⟩
    · simp [dn]
    · simp [dz]
theorem own_slices {w : World} {B E sz n : Nat} {v : Value} {xs : List Value} (h : w.ownsRow B E sz v n xs) : ∃ a c, v = .slice a n c := by
  rcases h.2 with ⟨rfl, rfl⟩ | ⟨g, cap, cur, rfl, -⟩
  · exact ⟨_, _, rfl⟩
  · exact ⟨_, _, rfl⟩
theorem own_any {w : World} {B E sz n : Nat} {v : Value} {xs : List Value} (h : w.ownsRow B E sz v n xs) : ∃ a l c, v = .slice a l c := by
  obtain ⟨a, c, e⟩ := own_slices h
  exact ⟨a, n, c, e⟩
theorem Dims.own {w : World} {B : Nat} {v : Value} {ds : List (ByteArray × Int)} (h : DOwn w B v ds) : Dims w v ds := by
  obtain ⟨hl, h⟩ := h
  rcases h with ⟨rfl, h0⟩ | ⟨g, cap, cur, rfl, _, hb, hnc, hm, hs, ht⟩
  · have : ds = [] := List.length_eq_zero_iff.1 h0
    subst this
    exact ⟨none, 0, rfl, by simp, by simp, .inl rfl⟩
  · refine ⟨_, cap, rfl, hnc, by unfold maxLen at hm; omega, .inr ⟨g, 0, rfl, (Array.getElem?_eq_some_iff.1 hb).1, fun i hi => ?_⟩⟩
    obtain ⟨c0, c1⟩ := cellsD_get ds i hi
    rw [← ht, List.getElem?_take, if_pos (by omega)] at c0 c1
    refine ⟨?_, ?_⟩
    · rw [Nat.zero_add, cell_of_row _ _ (i * 2) _ _ (0, 0) hb]
      simpa using c0
    · rw [Nat.zero_add, cell_of_row _ _ (i * 2 + 1) _ _ (0, 0) hb]
      simpa using c1
set_option maxRecDepth 100000
open Go.RowKit
set_option linter.unusedVariables false
theorem Box.set0 {w : World} {K : Nat} {D I M V u : Value} (h : Box w K D I M V) : Box (w.setCell ⟨K, 0, none⟩ u) K u I M V := heap_setCell_same w K 0 _ _ u h
theorem Box.set1 {w : World} {K : Nat} {D I M V u : Value} (h : Box w K D I M V) : Box (w.setCell ⟨K, 1, none⟩ u) K D u M V := heap_setCell_same w K 1 _ _ u h
theorem Box.set3 {w : World} {K : Nat} {D I M V u : Value} (h : Box w K D I M V) : Box (w.setCell ⟨K, 3, none⟩ u) K D I M u := heap_setCell_same w K 3 _ _ u h
theorem Box.free {w : World} {N : Nat} {D I M V : Value} (h : Box w N D I M V) : w.frozen? ⟨N, 0, none⟩ = false ∧ w.frozen? ⟨N, 1, none⟩ = false ∧ w.frozen? ⟨N, 2, none⟩ = false ∧ w.frozen? ⟨N, 3, none⟩ = false := by
  unfold Box at h
  refine ⟨by simp [World.frozen?, h], by simp [World.frozen?, h], by simp [World.frozen?, h], by simp [World.frozen?, h]⟩
theorem Box.grown {w w' : World} {K N : Nat} {D I M V : Value} (h : Box w K D I M V) (hg : w.grownBy w' (some N)) (hne : K ≠ N) : Box w' K D I M V := by
  unfold Box; rw [hg.block K h.lt (by simpa using hne)]; exact h
/-- What stands in memory while a schema is read: the reader, the variable that the closures hold, the result's cells, the schema's cells. -/
structure Rd (w wr : World) (N : Nat) (b : List Int) (s : Nat × Nat) (D I M V : Value) : Prop where
  i : InAt wr N b s.1 s.2
  m : wr.cell? ⟨w.heap.size, 0, none⟩ = some (.pointer (some ⟨N, 0, none⟩))
  r : Box wr (w.heap.size + 1) (.slice none 0 0) (.slice none 0 0) (.slice none 0 0) (.slice none 0 0)
  k : Box wr (w.heap.size + 1 + 1) D I M V
  g : w.grownBy wr (some N)
  sz : w.heap.size + 3 ≤ wr.heap.size
theorem Rd.call {w wr w1 : World} {N : Nat} {b : List Int} {s t : Nat × Nat} {D I M V : Value} (h : Rd w wr N b s D I M V) (hN : N < w.heap.size) (hi : InAt w1 N b t.1 t.2) (hg : wr.grownBy w1 (some N)) : Rd w w1 N b t D I M V :=
  ⟨hi, cell_grown hg h.m (by show w.heap.size ≠ N; omega), h.r.grown hg (by omega), h.k.grown hg (by omega), grown_then h.g hg, Nat.le_trans h.sz hg.size⟩
/-- A schema of the call's own. -/
structure Own4 (w : World) (B : Nat) (D I M V : Value) (S : Sc) : Prop where
  d : DOwn w B D S.ds
  i : SOwn w B I S.is
  n : SOwn w B M S.ns
  v : UOwn w B V S.vs
theorem Own4.far {w w' : World} {B N : Nat} {D I M V : Value} {S : Sc} (h : Own4 w B D I M V S) (hg : w.grownBy w' (some N)) (hN : N < B) : Own4 w' B D I M V S := ⟨own_far h.d hg hN, own_far h.i hg hN, own_far h.n hg hN, own_far h.v hg hN⟩
theorem Own4.alloc {w : World} {B : Nat} {D I M V : Value} {S : Sc} (h : Own4 w B D I M V S) (o : Obj) : Own4 (w.alloc o) B D I M V S := ⟨h.d.alloc o, h.i.alloc o, h.n.alloc o, h.v.alloc o⟩
theorem Own4.slices {w : World} {B : Nat} {D I M V : Value} {S : Sc} (h : Own4 w B D I M V S) : (∃ a l c, D = .slice a l c) ∧ (∃ a l c, I = .slice a l c) ∧ (∃ a l c, M = .slice a l c) ∧ ∃ a l c, V = .slice a l c := ⟨own_any h.d, own_any h.i, own_any h.n, own_any h.v⟩
set_option maxRecDepth 100000
open Go.RowKit
set_option linter.unusedVariables false
end Go.Proofs.YtigikgphipebiaaGreatDoor
/- Layer 11: the reference's Put. -/
namespace Go.Proofs.YtigikgphipebiaaGreatDoor
set_option maxRecDepth 100000
open Go.RowKit
set_option linter.unusedVariables false
set_option maxRecDepth 100000
open Go.RowKit
set_option linter.unusedVariables false
theorem check_cnt' {S : Sc} (h : checkL S = 0) : cntB S = true ∧ sizB S.ds = true := by
  unfold checkL at h
  split at h
  · cases h
  · rename_i h1
    split at h
    · cases h
    · split at h
      · cases h
      · split at h
        · cases h
        · rename_i h2
          exact ⟨by simpa using h1, by simpa using h2⟩
set_option maxRecDepth 100000
open Go.RowKit
set_option linter.unusedVariables false
set_option maxRecDepth 100000
open Go.RowKit
set_option linter.unusedVariables false
end Go.Proofs.YtigikgphipebiaaGreatDoor
/- Layer 11: a schema as it comes in. -/
namespace Go.Proofs.YtigikgphipebiaaGreatDoor
set_option maxRecDepth 100000
open Go.RowKit
set_option linter.unusedVariables false
set_option maxRecDepth 100000
open Go.RowKit Go.ChangeShapes Go.WideShapes Go.Deep
set_option linter.unusedVariables false
theorem dim_cells : Tryz.prog.cellsOf 73 = 2 ∧ Tryz.prog.cellsOf 9 = 1 ∧ Tryz.prog.cellsOf 3 = 1 := by
  refine ⟨?_, ?_, ?_⟩ <;> kernel_rfl
theorem read_dim {H : Type} {enc : TypeId × Value → H} {w : World} {base : Nat} {spare : Nat → Bool} {held : Bool} {fuel : Nat} {cs : List Value} {x : DataW H × List MemPlace}
    (h : DataW.trod enc Tryz.prog w base spare held fuel 73 cs = some x) :
    ∃ (s : ByteArray) (n : Int), cs = [.string s, .int .i64 n] ∧ s.size ≤ maxLen ∧ -9223372036854775808 ≤ n ∧ n ≤ 9223372036854775807 := by
  obtain ⟨xs, n, -, hx, hlen, hxl, hf⟩ := DataW.trod_struct Tryz.underlying73 h
  rw [dim_cells.1] at hlen
  match cs, hlen with
  | [c0, c1], _ =>
    match xs, hxl with
    | [y0, y1], _ =>
      have h0 := hf 0 _ rfl
      have h1 := hf 1 _ rfl
      simp only [List.getElem?_cons_succ] at h0 h1
      obtain ⟨s, e0, -, w0⟩ := DataW.trod_string Tryz.underlying9 h0
      obtain ⟨m, e1, -, w1⟩ := DataW.trod_int Tryz.underlying3 h1
      cases e0; cases e1
      simp [Lit.wf, IntKind.min, IntKind.max, IntKind.signed, IntKind.bits] at w1
      exact ⟨s, m, rfl, w0, by omega, by omega⟩
theorem dims_of {H : Type} {enc : TypeId × Value → H} {w : World} {base : Nat} {spare : Nat → Bool} {held : Bool} {fuel : Nat} {v : Value} {x : DataW H × List MemPlace}
    (h : DataW.trod enc Tryz.prog w base spare held fuel 22 [v] = some x) :
    ∃ ds, Dims w v ds ∧ ∀ d ∈ ds, d.1.size ≤ maxLen ∧ -9223372036854775808 ≤ d.2 ∧ d.2 ≤ 9223372036854775807 := by
  rcases open_slice Tryz.underlying22 h with ⟨hv, -⟩ | ⟨a, len, cap, m, nn, Dx, Pl, hv, -, hl, hcm, hmm, -, hi⟩
  · obtain rfl : v = .slice none 0 0 := by simpa using hv
    exact ⟨[], ⟨none, 0, rfl, by simp, by simp, .inl rfl⟩, fun _ h => by cases h⟩
  · obtain rfl : v = .slice (some a) len cap := by simpa using hv
    have hlm : len ≤ m := by rw [hmm]; split <;> omega
    have hq : ∀ k, ∃ q : ByteArray × Int, k < len → (∀ j, j < 2 → w.cell? ((a.add (k * 2)).add j) = [Value.string q.1, .int .i64 q.2][j]?) ∧ q.1.size ≤ maxLen ∧ -9223372036854775808 ≤ q.2 ∧ q.2 ≤ 9223372036854775807 := by
      intro k
      by_cases hk : k < len
      · obtain ⟨cs', hc, ht⟩ := hi k (by omega)
        obtain ⟨s, n, rfl, hwf⟩ := read_dim ht
        rw [dim_cells.1] at hc
        obtain ⟨-, -, hat⟩ := World.cells?_some hc
        exact ⟨(s, n), fun _ => ⟨hat, hwf⟩⟩
      · exact ⟨(ByteArray.empty, 0), fun h => absurd h hk⟩
    obtain ⟨q, hq⟩ := Classical.axiomOfChoice hq
    have hle : ((List.range len).map q).length = len := by simp
    have hget : ∀ k, k < len → ((List.range len).map q).getD k (ByteArray.empty, 0) = q k := fun k hk => by simp [List.getD, hk]
    refine ⟨(List.range len).map q, ⟨some a, cap, by rw [hle], by rw [hle]; exact hl, by rw [hle]; unfold maxLen at hcm; omega, ?_⟩, fun d hd => ?_⟩
    · by_cases h0 : len = 0
      · exact .inl (by subst h0; rfl)
      · refine .inr ?_
        obtain ⟨b, off, spot⟩ := a
        have hc := (hq 0 (by omega)).1 0 (by omega)
        have hspot : spot = none := by simpa [Addr.add] using World.cell?_spot hc
        subst hspot
        refine ⟨b, off, rfl, World.block_lt_of_cell? w _ hc, fun k hk => ?_⟩
        rw [hle] at hk
        have hh := (hq k hk).1
        have ha : (⟨b, off, none⟩ : Addr).add (k * 2) = ⟨b, off + k * 2, none⟩ := by
          by_cases k0 : k = 0
          · subst k0; simp [Addr.add]
          · have k6 : ¬ k * 2 = 0 := by omega
            simp only [Addr.add, if_neg k6]
        rw [ha] at hh
        have h0 := hh 0 (by omega)
        have h1 := hh 1 (by omega)
        simp only [Addr.add, if_true, Nat.one_ne_zero, if_false] at h0 h1
        unfold dn dz
        rw [hget k hk]
        exact ⟨h0, h1⟩
    · obtain ⟨k, hk, rfl⟩ := List.mem_map.1 hd
      exact (hq k (by simpa using hk)).2
theorem sets_of {H : Type} {enc : TypeId × Value → H} {w : World} {base : Nat} {spare : Nat → Bool} {held : Bool} {fuel : Nat} {v : Value} {x : DataW H × List MemPlace}
    (h : DataW.trod enc Tryz.prog w base spare held fuel 24 [v] = some x) :
    ∃ vs, Ints .u32 w v vs ∧ ∀ d ∈ vs, 0 ≤ d ∧ d ≤ 4294967295 := by
  rcases open_ints Tryz.underlying24 Tryz.underlying27 (by kernel_rfl) h with ⟨hcs, _⟩ | ⟨x, l, c, zs, hcs, _, hl, hm, hz, _, hcell, hwz⟩
  · obtain rfl : v = .slice none 0 0 := by simpa using hcs
    exact ⟨[], ⟨none, 0, rfl, by simp, .inl rfl⟩, fun _ h => by cases h⟩
  · obtain rfl : v = .slice (some x) l c := by simpa using hcs
    have hlz : l ≤ zs.length := by rw [hz]; split <;> omega
    have ht : (zs.take l).length = l := by rw [List.length_take]; omega
    refine ⟨zs.take l, ⟨some x, c, by rw [ht], by omega, ?_⟩, fun n hn => ?_⟩
    · by_cases h0 : l = 0
      · subst h0; exact .inl (by simp)
      · refine .inr ?_
        obtain ⟨b, off, spot⟩ := x
        have hc := hcell 0 (by omega)
        have hspot : spot = none := by simpa [Addr.add] using World.cell?_spot hc
        subst hspot
        refine ⟨b, off, rfl, World.block_lt_of_cell? w _ hc, fun i hi => ?_⟩
        rw [ht] at hi
        have e : (zs.take l).getD i 0 = zs.getD i 0 := by simp [List.getD, hi]
        rw [e]
        have hh := hcell i (by omega)
        by_cases h0 : i = 0
        · subst h0; simpa [Addr.add] using hh
        · simpa [Addr.add, h0] using hh
    · have := hwz n (List.mem_of_mem_take hn)
      simp [Lit.wf, IntKind.min, IntKind.max, IntKind.signed, IntKind.bits] at this
      omega
theorem texts_of {H : Type} {enc : TypeId × Value → H} {w : World} {base : Nat} {spare : Nat → Bool} {held : Bool} {fuel : Nat} {v : Value} {x : DataW H × List MemPlace}
    (h : DataW.trod enc Tryz.prog w base spare held fuel 23 [v] = some x) :
    ∃ l, Strs w v l ∧ ∀ s ∈ l, s.size ≤ maxLen := by
  rcases open_strings Tryz.underlying23 Tryz.underlying9 (by kernel_rfl) h with ⟨hcs, _⟩ | ⟨x, l, c, zs, hcs, _, hl, hm, hz, _, hcell, hwz⟩
  · obtain rfl : v = .slice none 0 0 := by simpa using hcs
    exact ⟨[], givenS_nil⟩
  · obtain rfl : v = .slice (some x) l c := by simpa using hcs
    have hlz : l ≤ zs.length := by rw [hz]; split <;> omega
    have ht : (zs.take l).length = l := by rw [List.length_take]; omega
    refine ⟨zs.take l, ⟨some x, c, by rw [ht], by omega, by rw [ht]; unfold maxLen at hm; omega, ?_⟩, fun n hn => hwz n (List.mem_of_mem_take hn)⟩
    by_cases h0 : l = 0
    · subst h0; exact .inl (by simp)
    · refine .inr ?_
      obtain ⟨b, off, spot⟩ := x
      have hc := hcell 0 (by omega)
      have hspot : spot = none := by simpa [Addr.add] using World.cell?_spot hc
      subst hspot
      refine ⟨b, off, rfl, World.block_lt_of_cell? w _ hc, fun i hi => ?_⟩
      rw [ht] at hi
      have e : txt (zs.take l) i = zs.getD i ByteArray.empty := by simp [txt, List.getD, hi]
      rw [e]
      have hh := hcell i (by omega)
      by_cases h0 : i = 0
      · subst h0; simpa [Addr.add] using hh
      · simpa [Addr.add, h0] using hh
theorem schema_of {H : Type} {enc : TypeId × Value → H} {w : World} {base : Nat} {spare : Nat → Bool} {held : Bool} {r : Reach} {b0 : Nat} {v : Value} {d : DataW H} {p : List MemPlace}
    (hv : Value.okWide Tryz.prog w r b0 26 v) (h : DataW.Trod enc Tryz.prog w base spare held 26 v d p) :
    ∃ D I N V S, v = SchV D I N V ∧ Sch4 w D I N V S ∧ SWf S := by
  obtain ⟨u0, u1, u2, u3, y0, y1, y2, y3, m, rfl, -, -, t0, t1, t2, t3⟩ := Go.Joins.open_agg4 Tryz.underlying26 (by kernel_rfl) (by kernel_rfl) hv h
  obtain ⟨ds, k0, w0⟩ := dims_of t0
  obtain ⟨is, k1, w1⟩ := texts_of t1
  obtain ⟨ns, k2, w2⟩ := texts_of t2
  obtain ⟨vs, k3, w3⟩ := sets_of t3
  exact ⟨u0, u1, u2, u3, ⟨ds, is, ns, vs⟩, rfl, ⟨k0, k1, k2, k3⟩, ⟨w0, w1, w2, w3⟩⟩
end Go.Proofs.YtigikgphipebiaaGreatDoor
/- Layer 12: facts in memory, as they come in. -/
namespace Go.Proofs.YtigikgphipebiaaGreatDoor
set_option maxRecDepth 100000
open Go.RowKit
set_option linter.unusedVariables false
/-- The bytes of a float. -/
def eN (x : Nat) : List Int := encF (keyI x).toNat
set_option maxRecDepth 100000
open Go.RowKit
set_option linter.unusedVariables false
/-- A fact: codes, whole numbers, floats (their words). -/
structure Fa where
  cs : List Int
  is : List Int
  ns : List Nat
def eU (v : Int) : List Int := encU v.toNat
def encFa (f : Fa) : List Int := f.cs.flatMap eU ++ f.is.flatMap encI ++ f.ns.flatMap eN
/-- A fact of a schema's shape: the greatest codes, how many whole and real numbers. -/
structure FitFa (ms : List Int) (ni nn : Nat) (f : Fa) : Prop where
  lc : f.cs.length = ms.length
  li : f.is.length = ni
  ln : f.ns.length = nn
  c : ∀ k x, f.cs[k]? = some x → 0 ≤ x ∧ x ≤ ms.getD k 0 ∧ x ≤ 4096
  i : ∀ x ∈ f.is, -9223372036854775808 ≤ x ∧ x ≤ 9223372036854775807
  n : ∀ x ∈ f.ns, Keyed (keyI x)
set_option maxRecDepth 100000
open Go.RowKit
set_option linter.unusedVariables false
/-- The k-th code is one of its dimension. -/
def codAt (ds : List (ByteArray × Int)) (cs : List Int) (k : Nat) : Bool := decide (0 ≤ cs.getD k 0) && decide (cs.getD k 0 < dz ds k)
def codB (ds : List (ByteArray × Int)) (cs : List Int) : Bool := (List.range cs.length).all (codAt ds cs)
theorem cod_bad {ds : List (ByteArray × Int)} {cs : List Int} {k : Nat} (hk : k < cs.length) (h : codAt ds cs k = false) : codB ds cs = false := List.all_eq_false.2 ⟨k, by simpa using hk, by simp [h]⟩
theorem cod_good {ds : List (ByteArray × Int)} {cs : List Int} (h : ∀ j, j < cs.length → codAt ds cs j = true) : codB ds cs = true := List.all_eq_true.2 fun x hx => h x (by simpa using hx)
theorem cod_get {ds : List (ByteArray × Int)} {cs : List Int} (h : codB ds cs = true) {k : Nat} (hk : k < cs.length) : 0 ≤ cs.getD k 0 ∧ cs.getD k 0 < dz ds k := by
  have := List.all_eq_true.1 h k (by simpa using hk)
  simpa [codAt] using this
/-- The error of a fact, of a schema that is right. -/
def fitsL (S : Sc) (f : Fa) : Nat := if f.cs.length ≠ S.ds.length ∨ f.is.length ≠ S.is.length ∨ f.ns.length ≠ S.ns.length then 3 else if codB S.ds f.cs = true then 0 else 2
theorem fits_ok {S : Sc} {f : Fa} (h : fitsL S f = 0) : f.cs.length = S.ds.length ∧ f.is.length = S.is.length ∧ f.ns.length = S.ns.length ∧ codB S.ds f.cs = true := by
  unfold fitsL at h
  split at h
  · simp at h
  · rename_i q
    split at h
    · rename_i q2
      refine ⟨?_, ?_, ?_, q2⟩ <;> omega
    · simp at h
/-- The greatest codes. -/
def mostsS (S : Sc) : List Int := S.ds.map fun d => d.2 - 1
theorem mosts_get {S : Sc} {k : Nat} (hk : k < S.ds.length) : (mostsS S).getD k 0 = dz S.ds k - 1 := by
  rw [dz_get hk]
  simp [mostsS, List.getD, hk]
theorem mosts_len (S : Sc) : (mostsS S).length = S.ds.length := by simp [mostsS]
theorem check_siz {S : Sc} (h : checkL S = 0) {k : Nat} (hk : k < S.ds.length) : 1 ≤ dz S.ds k ∧ dz S.ds k ≤ 4096 := by
  have := siz_get (check_cnt' h).2 hk
  exact ⟨this.1, this.2.1⟩
theorem fit_of_fits {S : Sc} {f : Fa} (hc : checkL S = 0) (hi : ∀ x ∈ f.is, -9223372036854775808 ≤ x ∧ x ≤ 9223372036854775807) (hn : ∀ x ∈ f.ns, W64 x) (h : fitsL S f = 0) : FitFa (mostsS S) S.is.length S.ns.length f := by
  obtain ⟨h1, h2, h3, h4⟩ := fits_ok h
  refine ⟨by rw [mosts_len]; exact h1, h2, h3, fun k x hx => ?_, hi, fun x hx => keyed_key (hn x hx)⟩
  have hk := (List.getElem?_eq_some_iff.1 hx).1
  have hg := cod_get h4 hk
  have e : f.cs.getD k 0 = x := by simp [List.getD, hx]
  rw [e] at hg
  have hs := check_siz hc (k := k) (by omega)
  rw [mosts_get (by omega)]
  omega
set_option maxRecDepth 100000
open Go.RowKit Go.ChangeShapes Go.WideShapes Go.Deep
set_option linter.unusedVariables false
/-- A slice value reads as a list of floats. -/
def Fls (w : World) (v : Value) (xs : List Nat) : Prop :=
  ∃ a cap, v = .slice a xs.length cap ∧ xs.length ≤ cap ∧ (xs = [] ∨ ∃ b off, a = some ⟨b, off, none⟩ ∧ b < w.heap.size ∧ ∀ i, i < xs.length → w.cell? ⟨b, off + i, none⟩ = some (.float .f64 (xs.getD i 0)))
theorem Fls.below {w w' : World} {v : Value} {xs : List Nat} (h : Fls w v xs) (hb : Below w.heap.size w w') : Fls w' v xs := by
  obtain ⟨a, cap, rfl, h1, h3⟩ := h
  refine ⟨a, cap, rfl, h1, ?_⟩
  rcases h3 with h3 | ⟨b, off, rfl, hlt, hc⟩
  · exact .inl h3
  · exact .inr ⟨b, off, rfl, Nat.lt_of_lt_of_le hlt hb.size, fun i hi => (hb.cell (p := ⟨b, _, none⟩) hlt).trans (hc i hi)⟩
/-- The three slices of a fact. -/
structure Fact3 (w : World) (C I N : Value) (f : Fa) : Prop where
  c : Ints .i64 w C f.cs
  i : Ints .i64 w I f.is
  n : Fls w N f.ns
theorem Fact3.below {w w' : World} {C I N : Value} {f : Fa} (h : Fact3 w C I N f) (hb : Below w.heap.size w w') : Fact3 w' C I N f := ⟨h.c.below hb, h.i.below hb, h.n.below hb⟩
theorem Fact3.slices {w : World} {C I N : Value} {f : Fa} (h : Fact3 w C I N f) : (∃ a c, C = .slice a f.cs.length c) ∧ (∃ a c, I = .slice a f.is.length c) ∧ ∃ a c, N = .slice a f.ns.length c := by
  obtain ⟨⟨a, c, h1, -⟩, ⟨a2, c2, h2, -⟩, a3, c3, h3, -⟩ := h
  exact ⟨⟨a, c, h1⟩, ⟨a2, c2, h2⟩, a3, c3, h3⟩
/-- The numbers of a fact fit. -/
structure FaWf (f : Fa) : Prop where
  c : ∀ x ∈ f.cs, -9223372036854775808 ≤ x ∧ x ≤ 9223372036854775807
  i : ∀ x ∈ f.is, -9223372036854775808 ≤ x ∧ x ≤ 9223372036854775807
  n : ∀ x ∈ f.ns, W64 x
  l : f.cs.length ≤ 9223372036854775807 ∧ f.is.length ≤ 9223372036854775807 ∧ f.ns.length ≤ 9223372036854775807
abbrev FactV (C I N : Value) : Value := .agg #[C, I, N]
/-- A slice of facts: three cells each. -/
def Facts (w : World) (v : Value) (l : List Fa) : Prop :=
  ∃ a cap, v = .slice a l.length cap ∧ l.length ≤ cap ∧ l.length ≤ 9223372036854775807 ∧ (l = [] ∨ ∃ b off, a = some ⟨b, off, none⟩ ∧ b < w.heap.size ∧
    ∀ i (h : i < l.length), ∃ C I N, (w.cell? ⟨b, off + i * 3, none⟩ = some C ∧ w.cell? ⟨b, off + i * 3 + 1, none⟩ = some I ∧ w.cell? ⟨b, off + i * 3 + 2, none⟩ = some N) ∧ Fact3 w C I N l[i])
theorem Facts.below {w w' : World} {v : Value} {l : List Fa} (h : Facts w v l) (hb : Below w.heap.size w w') : Facts w' v l := by
  obtain ⟨a, cap, rfl, h1, h2, h3⟩ := h
  refine ⟨a, cap, rfl, h1, h2, ?_⟩
  rcases h3 with h3 | ⟨b, off, rfl, hlt, hc⟩
  · exact .inl h3
  · refine .inr ⟨b, off, rfl, Nat.lt_of_lt_of_le hlt hb.size, fun i hi => ?_⟩
    obtain ⟨C, I, N, ⟨q0, q1, q2⟩, q3⟩ := hc i hi
    exact ⟨C, I, N, ⟨(hb.cell (p := ⟨b, _, none⟩) hlt).trans q0, (hb.cell (p := ⟨b, _, none⟩) hlt).trans q1, (hb.cell (p := ⟨b, _, none⟩) hlt).trans q2⟩, q3.below hb⟩
theorem trod_f64 {H : Type} {enc : TypeId × Value → H} {P : Program} {w : World} {base : Nat} {spare : Nat → Bool} {held : Bool} {fuel : Nat} {t : TypeId} {cs : List Value} {x : DataW H × List MemPlace} {k : FloatKind} (ht : P.underlying t = some (.float k)) (h : DataW.trod enc P w base spare held fuel t cs = some x) : ∃ n, cs = [.float k n] ∧ (Lit.float k n).wf = true := by
  cases fuel with
  | zero => simp [DataW.trod] at h
  | succ n =>
    unfold DataW.trod at h
    rw [ht] at h
    split at h <;> simp_all
end Go.Proofs.YtigikgphipebiaaGreatDoor
/- Layer 13: the program's Down, Of. -/
namespace Go.Proofs.YtigikgphipebiaaGreatDoor
set_option maxRecDepth 100000
open Go.RowKit
set_option linter.unusedVariables false
/-- The code of a dimension in the set is in its range. -/
def rngAt (ds : List (ByteArray × Int)) (m : Int) (l : List Int) (k : Nat) : Bool := !bitG m k || (decide (0 ≤ cz l k) && decide (cz l k < dz ds k))
def rngB (ds : List (ByteArray × Int)) (m : Int) (l : List Int) : Bool := (List.range ds.length).all (rngAt ds m l)
theorem rng_in {ds : List (ByteArray × Int)} {m : Int} {l : List Int} (h : ∀ k, k < ds.length → rngAt ds m l k = true) : InG (dz ds) (cz l) (bitG m) ds.length := fun k hk hp => by
  have := h k hk
  unfold rngAt at this
  rw [hp] at this
  simpa using this
theorem rng_good {ds : List (ByteArray × Int)} {m : Int} {l : List Int} (h : ∀ k, k < ds.length → rngAt ds m l k = true) : rngB ds m l = true := List.all_eq_true.2 fun x hx => h x (by simpa using hx)
theorem rng_bad {ds : List (ByteArray × Int)} {m : Int} {l : List Int} {k : Nat} (hk : k < ds.length) (h : rngAt ds m l k = false) : rngB ds m l = false := List.all_eq_false.2 ⟨k, by simpa using hk, by simp [h]⟩
theorem rng_get {ds : List (ByteArray × Int)} {m : Int} {l : List Int} (h : rngB ds m l = true) : ∀ k, k < ds.length → rngAt ds m l k = true := fun k hk => List.all_eq_true.1 h k (by simpa using hk)
/-- Why codes have no key: 0 where they have. -/
def ofE (S : Sc) (m : Int) (l : List Int) : Nat := if numE S m = 0 then if l.length = S.ds.length then if rngB S.ds m l = true then 0 else 2 else 3 else numE S m
def ofL (S : Sc) (m : Int) (l : List Int) : Int := if ofE S m l = 0 then keyG (dz S.ds) (cz l) (bitG m) S.ds.length else 0
theorem of_yes {S : Sc} {m : Int} {l : List Int} (h : ofE S m l = 0) : numE S m = 0 ∧ l.length = S.ds.length ∧ InG (dz S.ds) (cz l) (bitG m) S.ds.length := by
  unfold ofE at h
  split at h
  · rename_i h1
    split at h
    · rename_i h2
      split at h
      · rename_i h3; exact ⟨h1, h2, rng_in (rng_get h3)⟩
      · cases h
    · cases h
  · rename_i h1; exact absurd h h1
end Go.Proofs.YtigikgphipebiaaGreatDoor
