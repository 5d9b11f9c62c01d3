/- Contracts that the law leans on, pruned and merged: Bufd Bufe Bufh Scht Schh Scia. -/
import Derived.Lib.Bytealg
import Derived.BigQuiet
import Derived.Deep.QuietTactic
import Derived.Test.YtigikgphipebiaaGreatDoorJa08
import Derived.Test.YtigikgphipebiaaGreatDoorJa33
/- What the reader finds as bytes. -/
namespace Go.Proofs.YtigikgphipebiaaGreatDoor
set_option maxRecDepth 100000
open Go.RowKit
set_option linter.unusedVariables false
theorem below_grown {w0 w w' : World} {N : Nat} (h : Below w0.heap.size w0 w) (g : w.grownBy w' (some N)) (hN : w0.heap.size ≤ N) : Below w0.heap.size w0 w' :=
  h.grown g h.size (fun k hk => by have e : N = k := Option.some.inj hk; omega)
/-- The four cells of a reader. -/
def In4 (w : World) (N : Nat) (v : Value) (p e : Nat) : Prop := w.heap[N]? = some (.cells #[v, .int .i64 p, .int .i64 e, .bool true] 197 (0, 0))
theorem In4.reads {w : World} {N : Nat} {v : Value} {p e : Nat} (h : In4 w N v p e) :
    w.cell? ⟨N, 0, none⟩ = some v ∧ w.cell? ⟨N, 1, none⟩ = some (.int .i64 p) ∧ w.cell? ⟨N, 2, none⟩ = some (.int .i64 e) ∧ w.cell? ⟨N, 3, none⟩ = some (.bool true) := by
  unfold In4 at h
  refine ⟨by simp [World.cell?, h], by simp [World.cell?, h], by simp [World.cell?, h], by simp [World.cell?, h]⟩
theorem In4.free {w : World} {N : Nat} {v : Value} {p e : Nat} (h : In4 w N v p e) : w.frozen? ⟨N, 1, none⟩ = false ∧ w.frozen? ⟨N, 2, none⟩ = false := by
  unfold In4 at h
  refine ⟨by simp [World.frozen?, h], by simp [World.frozen?, h]⟩
theorem In4.lt {w : World} {N : Nat} {v : Value} {p e : Nat} (h : In4 w N v p e) : N < w.heap.size := (Array.getElem?_eq_some_iff.1 h).1
theorem In4.below {w w' : World} {N : Nat} {v : Value} {p e : Nat} (h : In4 w N v p e) (hb : Below w.heap.size w w') : In4 w' N v p e := by
  unfold In4; rw [hb.block N h.lt]; exact h
/-- A reader of bytes b, at position p, with the error e (0: none). -/
def InAt (w : World) (N : Nat) (b : List Int) (p e : Nat) : Prop := ∃ v, In4 w N v p e ∧ Ints .u8 w v b ∧ Typed 5 w v ∧ Bt b ∧ b.length ≤ 20000 ∧ p ≤ b.length
theorem InAt.lt {w : World} {N : Nat} {b : List Int} {p e : Nat} (h : InAt w N b p e) : N < w.heap.size := by obtain ⟨v, h, -⟩ := h; exact h.lt
theorem InAt.below {w w' : World} {N : Nat} {b : List Int} {p e : Nat} (h : InAt w N b p e) (hb : Below w.heap.size w w') : InAt w' N b p e := by
  obtain ⟨v, h1, h2, h3, h4⟩ := h
  exact ⟨v, h1.below hb, h2.below hb, h3.below hb, h4⟩
theorem InAt.pos {w : World} {N : Nat} {b : List Int} {p e : Nat} (h : InAt w N b p e) {q : Nat} (hq : q ≤ b.length) : InAt (w.setCell ⟨N, 1, none⟩ (.int .i64 q)) N b q e := by
  obtain ⟨v, h1, h2, h3, h4, h5, h6⟩ := h
  refine ⟨v, ?_, h2.grown h3 h1 (by decide) (grown_set w N 1 _), h3.grown h1 (by decide) (grown_set w N 1 _), h4, h5, hq⟩
  have := heap_setCell_same w N 1 _ _ (.int .i64 q) h1
  exact this
set_option maxRecDepth 100000
open Go.RowKit
set_option linter.unusedVariables false
/-- A reader that was not made, or none. -/
def NoIn (w : World) (v : Value) : Prop := v = .pointer none ∨ ∃ N, v = .pointer (some ⟨N, 0, none⟩) ∧ w.heap[N]? = some (.cells #[.slice none 0 0, .int .i64 0, .int .i64 0, .bool false] 197 (0, 0))
theorem NoIn.below {w w' : World} {v : Value} (h : NoIn w v) (hb : Below w.heap.size w w') : NoIn w' v := by
  rcases h with rfl | ⟨N, rfl, h⟩
  · exact .inl rfl
  · exact .inr ⟨N, rfl, by rw [hb.block N (Array.getElem?_eq_some_iff.1 h).1]; exact h⟩
/-- A reader that reads nothing any more: its error is e. -/
def Shut (v : Value) (e : Nat) (w : World) : Prop := e ≠ 0 ∧ e < 100 ∧ ∀ w', Below w.heap.size w w' → Calls Tryz.prog 153 #[v] w' fun r w2 => r = .returned (.int .i64 e) ∧ w' = w2
theorem Shut.below {v : Value} {e : Nat} {w w' : World} (h : Shut v e w) (hb : Below w.heap.size w w') : Shut v e w' := ⟨h.1, h.2.1, fun w2 h2 => h.2.2 w2 (hb.trans (h2.mono hb.size))⟩
set_option maxRecDepth 100000
open Go.RowKit
set_option linter.unusedVariables false
set_option maxRecDepth 100000
open Go.RowKit
set_option linter.unusedVariables false
end Go.Proofs.YtigikgphipebiaaGreatDoor
/- The generic read at its five types; the reader's functions. -/
namespace Go.Proofs.YtigikgphipebiaaGreatDoor
set_option maxRecDepth 100000
open Go.RowKit
set_option linter.unusedVariables false
/-- What a reading function leaves: the value, the reader behind it, and that nothing else has changed. -/
def ReadP (V : Value → World → Prop) (w : World) (N : Nat) (b : List Int) (p n e : Nat) (r : Ending) (w' : World) : Prop := (∃ v, r = .returned v ∧ V v w') ∧ InAt w' N b (if e = 0 then p + n else p) e ∧ w.grownBy w' (some N)
end Go.Proofs.YtigikgphipebiaaGreatDoor
/- The statement's read: what a reader that goes on answers. -/
namespace Go.Proofs.YtigikgphipebiaaGreatDoor
set_option maxRecDepth 100000
open Go.RowKit
set_option linter.unusedVariables false
theorem ReadP.from {V : Value → World → Prop} {w w1 w' : World} {N : Nat} {b : List Int} {p n e : Nat} {r : Ending} (h : ReadP V w1 N b p n e r w') (hb : Below w.heap.size w w1) : ReadP V w N b p n e r w' :=
  ⟨h.1, h.2.1, grown_then (grown_below hb (some N)) h.2.2⟩
set_option maxRecDepth 100000
open Go.RowKit
set_option linter.unusedVariables false
theorem cell_far {w w' : World} {N : Nat} {a : Addr} {v : Value} (hg : w.grownBy w' (some N)) (h : w.cell? a = some v) (hne : a.block ≠ N) : w'.cell? a = some v := by
  rw [hg.cell_far a (World.block_lt_of_cell? w a h) (by simpa using hne)]; exact h
end Go.Proofs.YtigikgphipebiaaGreatDoor
/- Layer 11: the program's Get. -/
namespace Go.Proofs.YtigikgphipebiaaGreatDoor
set_option maxRecDepth 100000
open Go.RowKit
set_option linter.unusedVariables false
set_option maxRecDepth 100000
open Go.RowKit
set_option linter.unusedVariables false
theorem cell_grown {w w' : World} {N : Nat} {a : Addr} {v : Value} (hg : w.grownBy w' (some N)) (h : w.cell? a = some v) (hne : a.block ≠ N) : w'.cell? a = some v := by
  rw [hg.cell_far a (World.block_lt_of_cell? w a h) (by simpa using hne)]; exact h
/-- A reader stays where another block changes. -/
theorem InAt.far {w w' : World} {N K : Nat} {b : List Int} {p e : Nat} {cur : Array Value} {T : TypeId} {fr : Nat × Nat} (h : InAt w N b p e) (hp : w.heap[K]? = some (.cells cur T fr)) (hT : T ≠ 5) (hne : N ≠ K) (hg : w.grownBy w' (some K)) : InAt w' N b p e := by
  obtain ⟨v, h1, h2, h3, h4⟩ := h
  refine ⟨v, ?_, h2.grown h3 hp hT hg, h3.grown hp hT hg, h4⟩
  unfold In4
  rw [hg.block N h1.lt (by simpa using hne)]
  exact h1
/-- A block of a dimension. -/
def Dim2 (w : World) (K : Nat) (x : ByteArray) (z : Int) : Prop := w.heap[K]? = some (.cells #[.string x, .int .i64 z] 73 (0, 0))
theorem Dim2.reads {w : World} {K : Nat} {x : ByteArray} {z : Int} (h : Dim2 w K x z) : w.cell? ⟨K, 0, none⟩ = some (.string x) ∧ w.cell? ⟨K, 1, none⟩ = some (.int .i64 z) ∧ w.frozen? ⟨K, 0, none⟩ = false ∧ w.frozen? ⟨K, 1, none⟩ = false := by
  unfold Dim2 at h
  refine ⟨by simp [World.cell?, h], by simp [World.cell?, h], by simp [World.frozen?, h], by simp [World.frozen?, h]⟩
theorem Dim2.lt {w : World} {K : Nat} {x : ByteArray} {z : Int} (h : Dim2 w K x z) : K < w.heap.size := (Array.getElem?_eq_some_iff.1 h).1
theorem Dim2.grown {w w' : World} {K N : Nat} {x : ByteArray} {z : Int} (h : Dim2 w K x z) (hg : w.grownBy w' (some N)) (hne : K ≠ N) : Dim2 w' K x z := by
  unfold Dim2; rw [hg.block K h.lt (by simpa using hne)]; exact h
theorem Dim2.set0 {w : World} {K : Nat} {x y : ByteArray} {z : Int} (h : Dim2 w K x z) : Dim2 (w.setCell ⟨K, 0, none⟩ (.string y)) K y z := heap_setCell_same w K 0 _ _ (.string y) h
theorem Dim2.set1 {w : World} {K : Nat} {x : ByteArray} {z y : Int} (h : Dim2 w K x z) : Dim2 (w.setCell ⟨K, 1, none⟩ (.int .i64 y)) K x y := heap_setCell_same w K 1 _ _ (.int .i64 y) h
theorem Dim2.low {w w' : World} {K : Nat} {x : ByteArray} {z : Int} (h : Dim2 w K x z) (hb : Below w.heap.size w w') : Dim2 w' K x z := by
  unfold Dim2; rw [hb.block K h.lt]; exact h
set_option maxRecDepth 100000
open Go.RowKit
set_option linter.unusedVariables false
theorem own_far {w w' : World} {B E sz n N : Nat} {v : Value} {xs : List Value} (h : w.ownsRow B E sz v n xs) (hg : w.grownBy w' (some N)) (hN : N < B) : w'.ownsRow B E sz v n xs := by
  refine h.kept hg ?_
  cases hv : v.ownBlock with
  | none => exact .inl rfl
  | some g => right; intro e; have e2 := Option.some.inj e; have := (h.lt g hv).1; omega
theorem InAt.own {w w' : World} {N : Nat} {b : List Int} {p e B E sz n : Nat} {v : Value} {xs : List Value} (h : InAt w N b p e) (ho : w.ownsRow B E sz v n xs) (hE : E ≠ 5) (hN : N < B) (hg : w.grownBy w' v.ownBlock) : InAt w' N b p e := by
  rcases ho.2 with ⟨rfl, -⟩ | ⟨g, cap, cur, rfl, h2, h3, -⟩
  · exact h.below ((Below.refl _ _).grown hg (Nat.le_refl _) (fun k hk => by simp [Value.ownBlock] at hk))
  · exact h.far h3 hE (by omega) hg
/-- A slice of dimensions of the call's own. -/
def cellsD (ds : List (ByteArray × Int)) : List Value := ds.flatMap fun d => [.string d.1, .int .i64 d.2]
abbrev DOwn (w : World) (B : Nat) (v : Value) (ds : List (ByteArray × Int)) : Prop := w.ownsRow B 73 2 v ds.length (cellsD ds)
theorem cellsD_get : ∀ (ds : List (ByteArray × Int)) (i : Nat), i < ds.length → (cellsD ds)[i * 2]? = some (.string (dn ds i)) ∧ (cellsD ds)[i * 2 + 1]? = some (.int .i64 (dz ds i))
  | [], i, h => by simp at h
  | d :: ds, 0, _ => by simp [cellsD, dn, dz]
  | d :: ds, i + 1, h => by
    have ih := cellsD_get ds i (by simpa using h)
    have e : cellsD (d :: ds) = .string d.1 :: .int .i64 d.2 :: cellsD ds := by simp [cellsD]
    have e1 : (i + 1) * 2 = i * 2 + 1 + 1 := by omega
    rw [e, e1]
    simp only [List.getElem?_cons_succ]
    refine ⟨ih.1.trans ?_, ih.2.trans ?_⟩
    · simp [dn]
    · simp [dz]
theorem own_slices {w : World} {B E sz n : Nat} {v : Value} {xs : List Value} (h : w.ownsRow B E sz v n xs) : ∃ a c, v = .slice a n c := by
  rcases h.2 with ⟨rfl, rfl⟩ | ⟨g, cap, cur, rfl, -⟩
  · exact ⟨_, _, rfl⟩
  · exact ⟨_, _, rfl⟩
theorem own_any {w : World} {B E sz n : Nat} {v : Value} {xs : List Value} (h : w.ownsRow B E sz v n xs) : ∃ a l c, v = .slice a l c := by
  obtain ⟨a, c, e⟩ := own_slices h
  exact ⟨a, n, c, e⟩
theorem Dims.own {w : World} {B : Nat} {v : Value} {ds : List (ByteArray × Int)} (h : DOwn w B v ds) : Dims w v ds := by
  obtain ⟨hl, h⟩ := h
  rcases h with ⟨rfl, h0⟩ | ⟨g, cap, cur, rfl, _, hb, hnc, hm, hs, ht⟩
  · have : ds = [] := List.length_eq_zero_iff.1 h0
    subst this
    exact ⟨none, 0, rfl, by simp, by simp, .inl rfl⟩
  · refine ⟨_, cap, rfl, hnc, by unfold maxLen at hm; omega, .inr ⟨g, 0, rfl, (Array.getElem?_eq_some_iff.1 hb).1, fun i hi => ?_⟩⟩
    obtain ⟨c0, c1⟩ := cellsD_get ds i hi
    rw [← ht, List.getElem?_take, if_pos (by omega)] at c0 c1
    refine ⟨?_, ?_⟩
    · rw [Nat.zero_add, cell_of_row _ _ (i * 2) _ _ (0, 0) hb]
      simpa using c0
    · rw [Nat.zero_add, cell_of_row _ _ (i * 2 + 1) _ _ (0, 0) hb]
      simpa using c1
set_option maxRecDepth 100000
open Go.RowKit
set_option linter.unusedVariables false
theorem Box.set0 {w : World} {K : Nat} {D I M V u : Value} (h : Box w K D I M V) : Box (w.setCell ⟨K, 0, none⟩ u) K u I M V := heap_setCell_same w K 0 _ _ u h
theorem Box.set1 {w : World} {K : Nat} {D I M V u : Value} (h : Box w K D I M V) : Box (w.setCell ⟨K, 1, none⟩ u) K D u M V := heap_setCell_same w K 1 _ _ u h
theorem Box.set3 {w : World} {K : Nat} {D I M V u : Value} (h : Box w K D I M V) : Box (w.setCell ⟨K, 3, none⟩ u) K D I M u := heap_setCell_same w K 3 _ _ u h
theorem Box.free {w : World} {N : Nat} {D I M V : Value} (h : Box w N D I M V) : w.frozen? ⟨N, 0, none⟩ = false ∧ w.frozen? ⟨N, 1, none⟩ = false ∧ w.frozen? ⟨N, 2, none⟩ = false ∧ w.frozen? ⟨N, 3, none⟩ = false := by
  unfold Box at h
  refine ⟨by simp [World.frozen?, h], by simp [World.frozen?, h], by simp [World.frozen?, h], by simp [World.frozen?, h]⟩
theorem Box.grown {w w' : World} {K N : Nat} {D I M V : Value} (h : Box w K D I M V) (hg : w.grownBy w' (some N)) (hne : K ≠ N) : Box w' K D I M V := by
  unfold Box; rw [hg.block K h.lt (by simpa using hne)]; exact h
/-- What stands in memory while a schema is read: the reader, the variable that the closures hold, the result's cells, the schema's cells. -/
structure Rd (w wr : World) (N : Nat) (b : List Int) (s : Nat × Nat) (D I M V : Value) : Prop where
  i : InAt wr N b s.1 s.2
  m : wr.cell? ⟨w.heap.size, 0, none⟩ = some (.pointer (some ⟨N, 0, none⟩))
  r : Box wr (w.heap.size + 1) (.slice none 0 0) (.slice none 0 0) (.slice none 0 0) (.slice none 0 0)
  k : Box wr (w.heap.size + 1 + 1) D I M V
  g : w.grownBy wr (some N)
  sz : w.heap.size + 3 ≤ wr.heap.size
theorem Rd.call {w wr w1 : World} {N : Nat} {b : List Int} {s t : Nat × Nat} {D I M V : Value} (h : Rd w wr N b s D I M V) (hN : N < w.heap.size) (hi : InAt w1 N b t.1 t.2) (hg : wr.grownBy w1 (some N)) : Rd w w1 N b t D I M V :=
  ⟨hi, cell_grown hg h.m (by show w.heap.size ≠ N; omega), h.r.grown hg (by omega), h.k.grown hg (by omega), grown_then h.g hg, Nat.le_trans h.sz hg.size⟩
/-- A schema of the call's own. -/
structure Own4 (w : World) (B : Nat) (D I M V : Value) (S : Sc) : Prop where
  d : DOwn w B D S.ds
  i : SOwn w B I S.is
  n : SOwn w B M S.ns
  v : UOwn w B V S.vs
theorem Own4.far {w w' : World} {B N : Nat} {D I M V : Value} {S : Sc} (h : Own4 w B D I M V S) (hg : w.grownBy w' (some N)) (hN : N < B) : Own4 w' B D I M V S := ⟨own_far h.d hg hN, own_far h.i hg hN, own_far h.n hg hN, own_far h.v hg hN⟩
theorem Own4.alloc {w : World} {B : Nat} {D I M V : Value} {S : Sc} (h : Own4 w B D I M V S) (o : Obj) : Own4 (w.alloc o) B D I M V S := ⟨h.d.alloc o, h.i.alloc o, h.n.alloc o, h.v.alloc o⟩
theorem Own4.slices {w : World} {B : Nat} {D I M V : Value} {S : Sc} (h : Own4 w B D I M V S) : (∃ a l c, D = .slice a l c) ∧ (∃ a l c, I = .slice a l c) ∧ (∃ a l c, M = .slice a l c) ∧ ∃ a l c, V = .slice a l c := ⟨own_any h.d, own_any h.i, own_any h.n, own_any h.v⟩
set_option maxRecDepth 100000
open Go.RowKit
set_option linter.unusedVariables false
end Go.Proofs.YtigikgphipebiaaGreatDoor
/- Layer 11: the reference's Full, Views, Masks, Keys, names. -/
namespace Go.Proofs.YtigikgphipebiaaGreatDoor
set_option maxRecDepth 100000
open Go.RowKit
set_option linter.unusedVariables false
theorem check_cnt {S : Sc} (h : checkL S = 0) : cntB S = true ∧ sizB S.ds = true ∧ vieB (fullL S.ds) S.vs = true := by
  unfold checkL at h
  split at h
  · cases h
  · rename_i h1
    split at h
    · cases h
    · split at h
      · cases h
      · split at h
        · cases h
        · rename_i h2
          split at h
          · cases h
          · rename_i h3
            exact ⟨by simpa using h1, by simpa using h2, by simpa using h3⟩
/-- The number of keys of a set: the product of the Sizes whose bits it has. -/
def keysL (ds : List (ByteArray × Int)) (m : Int) : Nat → Int
  | 0 => 1
  | k + 1 => if m / 2 ^ k % 2 = 1 then keysL ds m k * dz ds k else keysL ds m k
theorem prod_pos {ds : List (ByteArray × Int)} (h : sizB ds = true) : ∀ k, k ≤ ds.length → 1 ≤ prodL (ds.take k) ∧ prodL (ds.take k) ≤ 1099511627776
  | 0, _ => by simp [prodL]
  | k + 1, hk => by
    have i := prod_pos h k (by omega)
    have s := siz_get h (k := k) (by omega)
    refine ⟨?_, s.2.2⟩
    rw [prod_next (by omega)]
    have := Int.mul_le_mul i.1 s.1 (by omega) (by omega)
    omega
theorem keys_range {ds : List (ByteArray × Int)} (m : Int) (h : sizB ds = true) : ∀ k, k ≤ ds.length → 1 ≤ keysL ds m k ∧ keysL ds m k ≤ prodL (ds.take k)
  | 0, _ => by simp [prodL, keysL]
  | k + 1, hk => by
    have i := keys_range m h k (by omega)
    have s := siz_get h (k := k) (by omega)
    have p := prod_pos h k (by omega)
    rw [prod_next (by omega)]
    unfold keysL
    have e1 := Int.mul_le_mul i.1 s.1 (by omega) (by omega)
    have e2 := Int.mul_le_mul_of_nonneg_right i.2 (show 0 ≤ dz ds k by omega)
    have e3 := Int.mul_le_mul (Int.le_refl (prodL (ds.take k))) s.1 (by omega) (by omega)
    split
    · constructor <;> omega
    · constructor <;> omega
theorem set_one {k : IntKind} {w : World} {x : Int} {T : TypeId} {N : Nat} (hN : w.heap.size = N) : Ints k (w.alloc (.cells #[.int k x] T)) (.slice (some ⟨N, 0, none⟩) 1 1) [x] := by
  subst hN
  refine ⟨_, _, rfl, Nat.le_refl _, .inr ⟨w.heap.size, 0, rfl, by simp, fun i hi => ?_⟩⟩
  have h0 : i = 0 := by simp at hi; omega
  subst h0
  simp [go_sem]
theorem and_one32 {x : Int} (h0 : 0 ≤ x) (h1 : x ≤ 4294967295) : (bits .and .u32 x 1 == 1) = decide (x % 2 = 1) := by
  rw [u32_and x 1 h0 (by omega) (by decide) (by decide)]
  have e : x.toNat &&& (1 : Int).toNat = x.toNat % 2 := Nat.and_one_is_mod _
  rw [e, Bool.eq_iff_iff]
  simp
  omega
theorem div_range {m : Int} (m0 : 0 ≤ m) (m1 : m ≤ 4294967295) (k : Nat) : 0 ≤ m / 2 ^ k ∧ m / 2 ^ k ≤ 4294967295 := by
  have hp : (0 : Int) < 2 ^ k := Int.pow_pos (by decide)
  refine ⟨Int.ediv_nonneg m0 (by omega), ?_⟩
  have := Int.ediv_le_self (b := 2 ^ k) m0
  omega
set_option maxHeartbeats 4000000 in
theorem keys_any (w : World) (D I M V : Value) (S : Sc) (m : Int) (h : Sch4 w D I M V S) (hw : SWf S) (m0 : 0 ≤ m) (m1 : m ≤ 4294967295) :
    Calls Tryz.prog 47 #[SchV D I M V, .int .u32 m] w fun e w' => e = .returned (.tuple #[.int .u64 (if checkL S = 0 ∧ m ≤ fullL S.ds then keysL S.ds m S.ds.length else 0), .bool (decide (checkL S = 0 ∧ m ≤ fullL S.ds))]) ∧ Below w.heap.size w w' := by
  have HB0 := Lib.hid (below_one w (SchO D I M V))
  have hx0 := box_new w D I M V
  have HC := Lib.hid (fun w1 (hb : Below w.heap.size w w1) => check_any w1 D I M V S (h.below hb) hw)
  have HF := Lib.hid (fun w1 (hb : Below w.heap.size w w1) (hn : S.ds.length ≤ 6) => base_any w1 D I M V S (h.below hb) hn)
  have HX := Lib.hid hx0
  have HH := Lib.hid h
  obtain ⟨⟨a, c, rfl⟩, ⟨a2, c2, rfl⟩, ⟨a3, c3, rfl⟩, a4, c4, rfl⟩ := h.slices
  clear h hw hx0
  by_cases hc : checkL S = 0
  · rw [hc] at HC
    have hck := check_cnt hc
    have hn := (cnt_iff.1 hck.1).2.1
    have hA := andNot_full hn m0 m1
    have he : (2 : Int) ^ S.ds.length - 1 = fullL S.ds := rfl
    have he2 : (2 : Int) ^ S.ds.length = fullL S.ds + 1 := by omega
    rw [he, he2] at hA
    have hHH := HH.out.d
    obtain ⟨a', cap', e', h1, h2, h3⟩ := hHH
    obtain ⟨rfl, rfl⟩ : a = a' ∧ c = cap' := by injection e' with e1 e2 e3; exact ⟨e1, e3⟩
    have hpos := (cnt_iff.1 hck.1).1
    rcases h3 with h3 | ⟨b, off, rfl, hlt, hcell⟩
    · rw [h3] at hpos; simp at hpos
    have HCE := Lib.hid hcell
    have HKn := Lib.hid (fun k => show keysL S.ds m (k + 1) = if m / 2 ^ k % 2 = 1 then keysL S.ds m k * dz S.ds k else keysL S.ds m k from rfl)
    have HR := Lib.hid (fun k hk => And.intro (keys_range m hck.2.1 k hk) (prod_pos hck.2.1 k hk))
    have HZ := Lib.hid (fun k (hk : k < S.ds.length) => siz_get hck.2.1 hk)
    clear hcell e' he he2
    by_cases hm : m ≤ fullL S.ds
    · have e1 : checkL S = 0 ∧ m ≤ fullL S.ds := ⟨hc, hm⟩
      rw [if_pos e1, decide_eq_true e1]
      rw [decide_eq_false (by omega)] at hA
      generalize fullL S.ds = fu at *
      clear hm e1 hc hck
      go_enter Tryz.func47, Tryz.ntmps47
      go_wp2_with fail
      refine (HC.out _ HB0.out).mono ?_; rintro e w1 ⟨rfl, hb⟩
      have HB1 := Lib.hid (below_then HB0.out hb)
      obtain ⟨x0, x1, x2, x3⟩ := (HX.out.below hb).reads
      clear hb
      go_wp2_with fail
      refine (HF.out _ HB1.out hn).mono ?_; rintro e w2 ⟨rfl, hb⟩
      have HB2 := Lib.hid (below_then HB1.out hb)
      obtain ⟨y0, y1, y2, y3⟩ := quad_hold hb ⟨x0, x1, x2, x3⟩
      clear hb x0 x1 x2 x3
      go_wp2_with fail
      clear hA
      go_loopw [6, 22] (fun pv i wr => ∃ k : Nat, k ≤ S.ds.length ∧ i = .int .i64 k ∧ (∃ p : Int, pv = .int .u64 p ∧ 1 ≤ p ∧ p ≤ 1099511627776 ∧ Hid (p = keysL S.ds m k)) ∧ Hid (Below w.heap.size w wr)) (fun _ i _ => S.ds.length - (intOf i).toNat)
      case atStart => exact ⟨0, Nat.zero_le _, rfl, ⟨1, rfl, by decide, by decide, Lib.hid rfl⟩, HB2⟩
      case round =>
        obtain ⟨k, hk, rfl, ⟨p, rfl, hp0, hp1, HE⟩, HB⟩ := hrel
        by_cases hlk : k < S.ds.length
        · obtain ⟨c0, c1⟩ := HCE.out k hlk
          have c0 : wr.cell? ⟨b, off + k * 2, none⟩ = _ := (HB.out.cell (p := ⟨b, off + k * 2, none⟩) hlt).trans c0
          have c1 : wr.cell? ⟨b, off + k * 2 + 1, none⟩ = _ := (HB.out.cell (p := ⟨b, off + k * 2 + 1, none⟩) hlt).trans c1
          have HKk := Lib.hid (HKn.out k)
          have hz := HZ.out k hlk
          have hr := HR.out (k + 1) (by omega)
          have hBs := HB.out.size
          have HB1' := Lib.hid (HB.out.alloc hBs (.cells #[.string (dn S.ds k), .int .i64 (dz S.ds k)] 73))
          have hq := prod_step hp0 hp1 hz.1 hz.2.1
          have HRk := Lib.hid (show 1 ≤ keysL S.ds m (k + 1) ∧ keysL S.ds m (k + 1) ≤ 1099511627776 by omega)
          generalize dn S.ds k = x at *
          generalize dz S.ds k = z at *
          have i1 : IntKind.u64.wrap z = z := by rw [IntKind.wrap_u64]; omega
          have i2 : IntKind.u64.wrap (p * z) = p * z := by rw [IntKind.wrap_u64]; omega
          have hb1 := and_one32 (div_range m0 m1 k).1 (div_range m0 m1 k).2
          rw [← HE.out] at HKk
          have HE3 := Lib.hid hq
          clear hr hz hq
          by_cases hbit : m / 2 ^ k % 2 = 1
          · rw [decide_eq_true hbit] at hb1
            rw [if_pos hbit] at HKk
            clear hbit
            go_wp2_with fail
            go_roundw
            case rel => exact ⟨k + 1, by omega, by go_num, ⟨p * z, rfl, HE3.out.1, by rw [← HKk.out]; exact HRk.out.2, Lib.hid HKk.out.symm⟩, HB1'⟩
            case measure => simp [intOf]; omega
          · rw [decide_eq_false hbit] at hb1
            rw [if_neg hbit] at HKk
            clear hbit
            go_wp2_with fail
            go_roundw
            case rel => exact ⟨k + 1, by omega, by go_num, ⟨p, rfl, hp0, hp1, Lib.hid HKk.out.symm⟩, HB1'⟩
            case measure => simp [intOf]; omega
        · have : k = S.ds.length := by omega
          subst this
          have HE2 := Lib.hid HE.out
          clear HE
          go_wp2_with fail
          exact bodyPost_ret (v := .tuple #[.int .u64 p, .bool true]) (by simp [results, Tryz.results47, go_sem]) rfl ⟨by rw [HE2.out], HB.out⟩
    · have e1 : ¬ (checkL S = 0 ∧ m ≤ fullL S.ds) := fun h => hm h.2
      rw [if_neg e1, decide_eq_false e1]
      rw [decide_eq_true (by omega)] at hA
      generalize fullL S.ds = fu at *
      clear hm e1 hc hck
      go_enter Tryz.func47, Tryz.ntmps47
      go_wp2_with fail
      refine (HC.out _ HB0.out).mono ?_; rintro e w1 ⟨rfl, hb⟩
      have HB1 := Lib.hid (below_then HB0.out hb)
      obtain ⟨x0, x1, x2, x3⟩ := (HX.out.below hb).reads
      clear hb
      go_wp2_with fail
      refine (HF.out _ HB1.out hn).mono ?_; rintro e w2 ⟨rfl, hb⟩
      have HB2 := Lib.hid (below_then HB1.out hb)
      clear hb
      go_wp2_with fail
      exact bodyPost_ret (v := .tuple #[.int .u64 0, .bool false]) (by simp [results, Tryz.results47, go_sem]) rfl ⟨rfl, HB2.out⟩
  · have e1 : ¬ (checkL S = 0 ∧ m ≤ fullL S.ds) := fun h => hc h.1
    rw [if_neg e1, decide_eq_false e1]
    have hc2 : ((checkL S : Int) != 0) = true := by simp; omega
    generalize (checkL S : Int) = ck at *
    clear hc e1
    go_enter Tryz.func47, Tryz.ntmps47
    go_wp2_with fail
    refine (HC.out _ HB0.out).mono ?_; rintro e w1 ⟨rfl, hb⟩
    have HB1 := Lib.hid (below_then HB0.out hb)
    clear hb
    go_wp2_with fail
    exact bodyPost_ret (v := .tuple #[.int .u64 0, .bool false]) (by simp [results, Tryz.results47, go_sem]) rfl ⟨rfl, HB1.out⟩
set_option maxRecDepth 100000
open Go.RowKit
set_option linter.unusedVariables false
set_option maxRecDepth 100000
open Go.RowKit
set_option linter.unusedVariables false
end Go.Proofs.YtigikgphipebiaaGreatDoor
/- Layer 11: the reference's Put. -/
namespace Go.Proofs.YtigikgphipebiaaGreatDoor
set_option maxRecDepth 100000
open Go.RowKit
set_option linter.unusedVariables false
set_option maxRecDepth 100000
open Go.RowKit
set_option linter.unusedVariables false
theorem check_cnt' {S : Sc} (h : checkL S = 0) : cntB S = true ∧ sizB S.ds = true := by
  unfold checkL at h
  split at h
  · cases h
  · rename_i h1
    split at h
    · cases h
    · split at h
      · cases h
      · split at h
        · cases h
        · rename_i h2
          exact ⟨by simpa using h1, by simpa using h2⟩
set_option maxRecDepth 100000
open Go.RowKit
set_option linter.unusedVariables false
set_option maxRecDepth 100000
open Go.RowKit
set_option linter.unusedVariables false
end Go.Proofs.YtigikgphipebiaaGreatDoor
