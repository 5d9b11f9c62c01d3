/- Contracts that the law leans on, pruned and merged: Codeb Agga Floi Codei. -/
import Derived.Lib.ItoaNum
import Derived.OwnWalk
import Derived.Deep.AppendLies
import Derived.Deep.RegionLawGrows
import Derived.Laws.BytesArg
import Derived.Test.YtigikgphipebiaaGreatDoorRi05
/- Bytes of the call's own; the program's encoders. -/
namespace Go.Proofs.YtigikgphipebiaaGreatDoor
set_option maxRecDepth 100000
set_option linter.unusedVariables false
def Bt (l : List Int) : Prop := ∀ x ∈ l, 0 ≤ x ∧ x ≤ 255
theorem Bt.append {a b : List Int} (h : Bt a) (k : Bt b) : Bt (a ++ b) := fun x hx => by
  rcases List.mem_append.1 hx with h' | h'
  · exact h x h'
  · exact k x h'
theorem Bt.cons {c : Int} {l : List Int} (h0 : 0 ≤ c) (h1 : c ≤ 255) (h : Bt l) : Bt (c :: l) := fun x hx => by
  rcases List.mem_cons.1 hx with rfl | h'
  · exact ⟨h0, h1⟩
  · exact h x h'
theorem Bt.head {c : Int} {l : List Int} (h : Bt (c :: l)) : 0 ≤ c ∧ c ≤ 255 := h c (by simp)
theorem Bt.tail {c : Int} {l : List Int} (h : Bt (c :: l)) : Bt l := fun x hx => h x (by simp [hx])
theorem Bt.tl {l : List Int} (h : Bt l) : Bt l.tail := fun x hx => h x (List.mem_of_mem_tail hx)
theorem Bt.drop {l : List Int} (h : Bt l) (n : Nat) : Bt (l.drop n) := fun x hx => h x (List.mem_of_mem_drop hx)
theorem Bt.getD {l : List Int} (h : Bt l) {d : Int} (d0 : 0 ≤ d) (d1 : d ≤ 255) (i : Nat) : 0 ≤ l.getD i d ∧ l.getD i d ≤ 255 := by
  by_cases hi : i < l.length
  · rw [List.getD, List.getElem?_eq_getElem hi]; exact h _ (List.getElem_mem hi)
  · rw [List.getD, List.getElem?_eq_none (by omega)]; exact ⟨d0, d1⟩
/-- The n lowest bytes of x, the highest of them first. -/
def bigN (x : Nat) : Nat → List Int
  | 0 => []
  | n + 1 => ((x / 256 ^ n % 256 : Nat) : Int) :: bigN x n
theorem bigN_len (x : Nat) : ∀ n, (bigN x n).length = n
  | 0 => rfl
  | n + 1 => by simp [bigN, bigN_len x n]
/-- How many bytes a number needs. -/
def bytesN (x : Nat) : Nat := (Lib.bitLen x + 7) / 8
theorem pow_8 (n : Nat) : 256 ^ n = 2 ^ (8 * n) := by rw [show (256 : Nat) = 2 ^ 8 by decide, ← Nat.pow_mul]
def IsLen (x n : Nat) : Prop := x < 256 ^ n ∧ (n = 0 ∨ 256 ^ (n - 1) ≤ x)
theorem IsLen.unique {x n m : Nat} (h : IsLen x n) (k : IsLen x m) : n = m := by
  have key : ∀ {n m : Nat}, IsLen x n → IsLen x m → ¬ n < m := by
    intro n m h k hlt
    rcases k.2 with h0 | h0
    · omega
    · have : 256 ^ n ≤ 256 ^ (m - 1) := Nat.pow_le_pow_right (by decide) (by omega)
      have := h.1
      omega
  have := key h k
  have := key k h
  omega
theorem bytesN_is (x : Nat) (h : x < 18446744073709551616) : IsLen x (bytesN x) := by
  by_cases h0 : x = 0
  · subst h0; unfold IsLen bytesN; decide
  · obtain ⟨b1, b2, b3⟩ := Lib.bitLenAux_bounds 64 x h h0
    have e : Lib.bitLen x = Lib.bitLenAux 64 x := rfl
    unfold IsLen bytesN
    rw [e]
    generalize Lib.bitLenAux 64 x = b at b1 b2 b3
    refine ⟨?_, .inr ?_⟩
    · rw [pow_8]; exact Nat.lt_of_lt_of_le b3 (Nat.pow_le_pow_right (by decide) (by omega))
    · rw [pow_8]; exact Nat.le_trans (Nat.pow_le_pow_right (by decide) (by omega)) b2
theorem bytesN_le (x : Nat) (h : x < 18446744073709551616) : bytesN x ≤ 8 := by
  have := Lib.bitLen_le x 64 (by decide) h
  unfold bytesN; omega
/-- The encodings. -/
def encU (x : Nat) : List Int := (bytesN x : Int) :: bigN x (bytesN x)
def encI (x : Int) : List Int := if 0 ≤ x then (9 + bytesN x.toNat : Int) :: bigN x.toNat (bytesN x.toNat) else (8 - bytesN (-1 - x).toNat : Int) :: bigN (x % 18446744073709551616).toNat (bytesN (-1 - x).toNat)
def encF (k : Nat) : List Int := bigN k 8
theorem encU_len {x : Nat} (h : x < 18446744073709551616) : (encU x).length = bytesN x + 1 ∧ (encU x).length ≤ 9 := by
  have := bytesN_le x h
  simp [encU, bigN_len]; omega
def headI (x : Int) : Nat := if 0 ≤ x then x.toNat else (-1 - x).toNat
theorem headI_lt {x : Int} (h0 : -9223372036854775808 ≤ x) (h1 : x ≤ 9223372036854775807) : headI x < 9223372036854775808 := by unfold headI; split <;> omega
theorem encI_len {x : Int} (h0 : -9223372036854775808 ≤ x) (h1 : x ≤ 9223372036854775807) : (encI x).length = bytesN (headI x) + 1 ∧ (encI x).length ≤ 9 := by
  have h := headI_lt h0 h1
  have := bytesN_le (headI x) (by omega)
  unfold encI headI at *
  split
  · rename_i hx; rw [if_pos hx] at this; simp [bigN_len]; omega
  · rename_i hx; rw [if_neg hx] at this; simp [bigN_len]; omega
def Keyed (k : Int) : Prop := k = 18446744073709551615 ∨ (4503599627370495 ≤ k ∧ k ≤ 18442240474082181120)
instance (k : Int) : Decidable (Keyed k) := by unfold Keyed; infer_instance
set_option maxRecDepth 100000
open Go.RowKit
set_option linter.unusedVariables false
abbrev BOwn (w : World) (B : Nat) (v : Value) (l : List Int) : Prop := w.ownsRow B 5 1 v l.length (l.map (Value.int .u8))
theorem own_slice3 {w : World} {B E : Nat} {v : Value} {n : Nat} {xs : List Value} (h : w.ownsRow B E 1 v n xs) : ∃ a l c, v = .slice a l c := by
  obtain ⟨a, c, e⟩ := own_slice h
  exact ⟨a, n, c, e⟩
section
variable {P : Program} (w : World)
theorem app_nil_run (base : Nat) (t ty e : TypeId) (i : TypeInfo) (size : Nat) (ht : P.underlying t = some (.slice e)) (hi : P.info? e = some i)
    (v : Value) (n : Nat) (xs : List Value) (hown : w.ownsRow base e size v n xs) (c : Nat) : (Builtin.append_ #[t, t] ty #[v, .slice none 0 c]).run P w = .ok v w := by
  rcases hown.2 with ⟨rfl, rfl⟩ | ⟨g, cap, cur, rfl, _, _, hnc, _⟩
  · simp [Builtin.append_, run_underlying ht, sizeOf, typeInfo, hi, Builtin.lenOf, Builtin.firstCells]
  · simp [Builtin.append_, run_underlying ht, sizeOf, typeInfo, hi, Builtin.lenOf, Builtin.firstCells, hnc, storeCells]
end
end Go.Proofs.YtigikgphipebiaaGreatDoor
/- Layer 14: cells as lists; cells in memory; the reference's Light. -/
namespace Go.Proofs.YtigikgphipebiaaGreatDoor
set_option maxRecDepth 100000
open Go.RowKit
set_option linter.unusedVariables false
/-- What a cell has of a whole measure, of a real one; a cell. -/
structure Wh where
  sum : Int
  abs : Int
  sq : List Int
  mn : Int
  mx : Int
structure Re where
  sum : List Int
  mn : Nat
  mx : Nat
structure Ce where
  key : Int
  cnt : Int
  is : List Wh
  ns : List Re
def wh0 : Wh := ⟨0, 0, [], 0, 0⟩
def re0 : Re := ⟨[], 0, 0⟩
def wg (l : List Wh) (i : Nat) : Wh := l.getD i wh0
def rg (l : List Re) (i : Nat) : Re := l.getD i re0
theorem wg_get {l : List Wh} {i : Nat} (h : i < l.length) : wg l i = l[i] := by simp [wg, List.getD, List.getElem?_eq_getElem h]
theorem rg_get {l : List Re} {i : Nat} (h : i < l.length) : rg l i = l[i] := by simp [rg, List.getD, List.getElem?_eq_getElem h]
/-- A whole measure's five cells, from o on; a real one's three. -/
structure WhAt (w : World) (b o : Nat) (q : Value) (x : Wh) : Prop where
  c0 : w.cell? ⟨b, o, none⟩ = some (.int .i64 x.sum)
  c1 : w.cell? ⟨b, o + 1, none⟩ = some (.int .i64 x.abs)
  c2 : w.cell? ⟨b, o + 2, none⟩ = some q
  c3 : w.cell? ⟨b, o + 3, none⟩ = some (.int .i64 x.mn)
  c4 : w.cell? ⟨b, o + 4, none⟩ = some (.int .i64 x.mx)
  s : Ints .u32 w q x.sq
structure ReAt (w : World) (b o : Nat) (q : Value) (x : Re) : Prop where
  c0 : w.cell? ⟨b, o, none⟩ = some q
  c1 : w.cell? ⟨b, o + 1, none⟩ = some (.float .f64 x.mn)
  c2 : w.cell? ⟨b, o + 2, none⟩ = some (.float .f64 x.mx)
  s : Ints .u8 w q x.sum
theorem WhAt.below {w w' : World} {b o : Nat} {q : Value} {x : Wh} (h : WhAt w b o q x) (hb : Below w.heap.size w w') : WhAt w' b o q x :=
  ⟨cell_later hb h.c0, cell_later hb h.c1, cell_later hb h.c2, cell_later hb h.c3, cell_later hb h.c4, h.s.below hb⟩
theorem ReAt.below {w w' : World} {b o : Nat} {q : Value} {x : Re} (h : ReAt w b o q x) (hb : Below w.heap.size w w') : ReAt w' b o q x :=
  ⟨cell_later hb h.c0, cell_later hb h.c1, cell_later hb h.c2, h.s.below hb⟩
def Wholes (w : World) (v : Value) (l : List Wh) : Prop :=
  ∃ a cap, v = .slice a l.length cap ∧ l.length ≤ cap ∧ l.length ≤ 9223372036854775807 ∧ (l = [] ∨ ∃ b off, a = some ⟨b, off, none⟩ ∧ b < w.heap.size ∧ ∀ i, i < l.length → ∃ q, WhAt w b (off + i * 5) q (wg l i))
def Reals (w : World) (v : Value) (l : List Re) : Prop :=
  ∃ a cap, v = .slice a l.length cap ∧ l.length ≤ cap ∧ l.length ≤ 9223372036854775807 ∧ (l = [] ∨ ∃ b off, a = some ⟨b, off, none⟩ ∧ b < w.heap.size ∧ ∀ i, i < l.length → ∃ q, ReAt w b (off + i * 3) q (rg l i))
theorem Wholes.below {w w' : World} {v : Value} {l : List Wh} (h : Wholes w v l) (hb : Below w.heap.size w w') : Wholes w' v l := by
  obtain ⟨a, cap, rfl, h1, h2, h3⟩ := h
  refine ⟨a, cap, rfl, h1, h2, h3.imp id ?_⟩
  rintro ⟨b, off, rfl, hlt, hc⟩
  exact ⟨b, off, rfl, Nat.lt_of_lt_of_le hlt hb.size, fun i hi => (hc i hi).imp fun q h => h.below hb⟩
theorem Reals.below {w w' : World} {v : Value} {l : List Re} (h : Reals w v l) (hb : Below w.heap.size w w') : Reals w' v l := by
  obtain ⟨a, cap, rfl, h1, h2, h3⟩ := h
  refine ⟨a, cap, rfl, h1, h2, h3.imp id ?_⟩
  rintro ⟨b, off, rfl, hlt, hc⟩
  exact ⟨b, off, rfl, Nat.lt_of_lt_of_le hlt hb.size, fun i hi => (hc i hi).imp fun q h => h.below hb⟩
theorem Wholes.at {w : World} {a : Option Addr} {n cap : Nat} {l : List Wh} (h : Wholes w (.slice a n cap) l) {i : Nat} (hi : i < l.length) : ∃ b off q, a = some ⟨b, off, none⟩ ∧ WhAt w b (off + i * 5) q (wg l i) := by
  obtain ⟨a', cap', e, -, -, h3⟩ := h
  injection e with e1 e2 e3
  subst e1
  rcases h3 with h3 | ⟨b, off, rfl, -, hc⟩
  · rw [h3] at hi; cases hi
  · obtain ⟨q, hq⟩ := hc i hi; exact ⟨b, off, q, rfl, hq⟩
theorem Reals.at {w : World} {a : Option Addr} {n cap : Nat} {l : List Re} (h : Reals w (.slice a n cap) l) {i : Nat} (hi : i < l.length) : ∃ b off q, a = some ⟨b, off, none⟩ ∧ ReAt w b (off + i * 3) q (rg l i) := by
  obtain ⟨a', cap', e, -, -, h3⟩ := h
  injection e with e1 e2 e3
  subst e1
  rcases h3 with h3 | ⟨b, off, rfl, -, hc⟩
  · rw [h3] at hi; cases hi
  · obtain ⟨q, hq⟩ := hc i hi; exact ⟨b, off, q, rfl, hq⟩
abbrev CeV (c : Ce) (I N : Value) : Value := .agg #[.int .u64 c.key, .int .i64 c.cnt, I, N]
abbrev CeO (c : Ce) (I N : Value) : Obj := .cells #[.int .u64 c.key, .int .i64 c.cnt, I, N] 41
structure CeM (w : World) (I N : Value) (c : Ce) : Prop where
  i : Wholes w I c.is
  n : Reals w N c.ns
theorem CeM.below {w w' : World} {I N : Value} {c : Ce} (h : CeM w I N c) (hb : Below w.heap.size w w') : CeM w' I N c := ⟨h.i.below hb, h.n.below hb⟩
theorem CeM.slices {w : World} {I N : Value} {c : Ce} (h : CeM w I N c) : (∃ a k, I = .slice a c.is.length k) ∧ ∃ a k, N = .slice a c.ns.length k := by
  obtain ⟨⟨a, k, h1, -⟩, ⟨a2, k2, h2, -⟩⟩ := h
  exact ⟨⟨a, k, h1⟩, a2, k2, h2⟩
def I64 (x : Int) : Prop := -9223372036854775808 ≤ x ∧ x ≤ 9223372036854775807
structure WhW (x : Wh) : Prop where
  sum : I64 x.sum
  abs : I64 x.abs
  sq : ∀ z ∈ x.sq, 0 ≤ z ∧ z ≤ 4294967295
  len : x.sq.length ≤ 9223372036854775807
  mn : I64 x.mn
  mx : I64 x.mx
structure ReW (x : Re) : Prop where
  sum : Bt x.sum
  len : x.sum.length ≤ 9223372036854775807
  mn : W64 x.mn
  mx : W64 x.mx
structure CeW (c : Ce) : Prop where
  key : 0 ≤ c.key ∧ c.key ≤ 18446744073709551615
  cnt : I64 c.cnt
  is : ∀ x ∈ c.is, WhW x
  ns : ∀ x ∈ c.ns, ReW x
theorem CeW.wg {c : Ce} (h : CeW c) {i : Nat} (hi : i < c.is.length) : WhW (wg c.is i) := by rw [wg_get hi]; exact h.is _ (List.getElem_mem hi)
theorem CeW.rg {c : Ce} (h : CeW c) {i : Nat} (hi : i < c.ns.length) : ReW (rg c.ns i) := by rw [rg_get hi]; exact h.ns _ (List.getElem_mem hi)
/-- A box of a cell. -/
def BoxC (w : World) (B : Nat) (c : Ce) (I N : Value) : Prop := w.heap[B]? = some (.cells #[.int .u64 c.key, .int .i64 c.cnt, I, N] 41 (0, 0))
theorem BoxC.reads {w : World} {B : Nat} {c : Ce} {I N : Value} (h : BoxC w B c I N) : w.cell? ⟨B, 0, none⟩ = some (.int .u64 c.key) ∧ w.cell? ⟨B, 1, none⟩ = some (.int .i64 c.cnt) ∧ w.cell? ⟨B, 2, none⟩ = some I ∧ w.cell? ⟨B, 3, none⟩ = some N := by
  unfold BoxC at h
  refine ⟨by simp [World.cell?, h], by simp [World.cell?, h], by simp [World.cell?, h], by simp [World.cell?, h]⟩
theorem BoxC.below {w w' : World} {B : Nat} {c : Ce} {I N : Value} (h : BoxC w B c I N) (hb : Below w.heap.size w w') : BoxC w' B c I N := by
  unfold BoxC at *; rw [hb.block B (Array.getElem?_eq_some_iff.1 h).1]; exact h
theorem boxC_new (w : World) (c : Ce) (I N : Value) : BoxC (w.alloc (CeO c I N)) w.heap.size c I N := heap_alloc_new w _
/-- A cell that is small. -/
def lightC (c : Ce) : Bool := decide (c.is.length ≤ 10) && decide (c.ns.length ≤ 10) && ((List.range c.is.length).all fun k => decide ((wg c.is k).sq.length ≤ 20)) && (List.range c.ns.length).all fun k => decide ((rg c.ns k).sum.length ≤ 300)
theorem light_yes {c : Ce} : lightC c = true ↔ c.is.length ≤ 10 ∧ c.ns.length ≤ 10 ∧ (∀ k, k < c.is.length → (wg c.is k).sq.length ≤ 20) ∧ ∀ k, k < c.ns.length → (rg c.ns k).sum.length ≤ 300 := by
  simp [lightC, and_assoc]
theorem light_no {c : Ce} (h : ¬ (c.is.length ≤ 10 ∧ c.ns.length ≤ 10 ∧ (∀ k, k < c.is.length → (wg c.is k).sq.length ≤ 20) ∧ ∀ k, k < c.ns.length → (rg c.ns k).sum.length ≤ 300)) : lightC c = false := by
  cases e : lightC c with
  | false => rfl
  | true => exact absurd (light_yes.1 e) h
set_option maxHeartbeats 2000000 in
theorem rlight_any (w : World) (c : Ce) (I N : Value) (h : CeM w I N c) :
    Calls Tryz.prog 19 #[CeV c I N] w fun e w' => e = .returned (.bool (lightC c)) ∧ Below w.heap.size w w' := by
  have HB0 := Lib.hid (below_one w (CeO c I N))
  have HX := Lib.hid (boxC_new w c I N)
  have HI := Lib.hid (h.i.below HB0.out)
  have HN := Lib.hid (h.n.below HB0.out)
  obtain ⟨⟨p, k1, rfl⟩, p2, k2, rfl⟩ := h.slices
  have HY := Lib.hid (@light_yes c)
  have HF := Lib.hid (@light_no c)
  clear h
  generalize lightC c = R at *
  go_enter Tryz.func19, Tryz.ntmps19
  go_upto_region 1 with fail
  generalize w.alloc (CeO c (.slice p c.is.length k1) (.slice p2 c.ns.length k2)) = W at *
  obtain ⟨x0, x1, x2, x3⟩ := HX.out.reads
  by_cases h1 : 10 < c.is.length
  · have hR := HF.out (fun q => by omega)
    subst hR
    go_wp2_with fail
    go_ret
    exact ⟨rfl, HB0.out⟩
  · by_cases h2 : 10 < c.ns.length
    · have hR := HF.out (fun q => by omega)
      subst hR
      go_wp2_with fail
      go_ret
      exact ⟨rfl, HB0.out⟩
    · have HLn := Lib.hid (And.intro (show c.is.length ≤ 10 by omega) (show c.ns.length ≤ 10 by omega))
      go_wp2_with fail
      go_loopw [3] (fun i wr => ∃ k : Nat, k ≤ c.is.length ∧ i = .int .i64 k ∧ W = wr ∧ Hid (∀ j, j < k → (wg c.is j).sq.length ≤ 20)) (fun i _ => c.is.length - (intOf i).toNat)
      case atStart => exact ⟨0, Nat.zero_le _, rfl, rfl, Lib.hid (fun j hj => by omega)⟩
      case round =>
        obtain ⟨k, hk, rfl, rfl, HJ⟩ := hrel
        by_cases hlk : k < c.is.length
        · have hlk' : (k : Int) < (c.is.length : Int) := by omega
          obtain ⟨b, off, q, rfl, hq⟩ := HI.out.at hlk
          have g2 := hq.c2
          obtain ⟨qa, qc, rfl, -, -⟩ := hq.s
          have hle : Hid (k + 1 ≤ c.is.length) := Lib.hid (by omega)
          clear hq
          by_cases hs : 20 < (wg c.is k).sq.length
          · have hR := HF.out (fun q => by have := q.2.2.1 k hlk; omega)
            subst hR
            generalize (wg c.is k).sq.length = sl at *
            go_wp2_with fail
            go_ret
            exact ⟨rfl, HB0.out⟩
          · have HJ2 := Lib.hid (show ∀ j, j < k + 1 → (wg c.is j).sq.length ≤ 20 from fun j hj => if e : j = k then by subst e; omega else HJ.out j (by omega))
            generalize (wg c.is k).sq.length = sl at *
            go_wp2_with fail
            go_roundw
            case rel => exact ⟨k + 1, hle.out, by go_num, by trivial, HJ2⟩
            case measure => simp [intOf]; omega
        · have : k = c.is.length := by omega
          subst this
          go_wp2_with fail
          go_loopw [4] (fun i wr => ∃ k : Nat, k ≤ c.ns.length ∧ i = .int .i64 k ∧ W = wr ∧ Hid (∀ j, j < k → (rg c.ns j).sum.length ≤ 300)) (fun i _ => c.ns.length - (intOf i).toNat)
          case atStart => exact ⟨0, Nat.zero_le _, rfl, rfl, Lib.hid (fun j hj => by omega)⟩
          case round =>
            obtain ⟨k, hk, rfl, rfl, HJ3⟩ := hrel
            by_cases hlk : k < c.ns.length
            · have hlk' : (k : Int) < (c.ns.length : Int) := by omega
              obtain ⟨b, off, q, rfl, hq⟩ := HN.out.at hlk
              have g0 := hq.c0
              obtain ⟨qa, qc, rfl, -, -⟩ := hq.s
              have hle : Hid (k + 1 ≤ c.ns.length) := Lib.hid (by omega)
              clear hq
              by_cases hs : 300 < (rg c.ns k).sum.length
              · have hR := HF.out (fun q => by have := q.2.2.2 k hlk; omega)
                subst hR
                generalize (rg c.ns k).sum.length = sl at *
                go_wp2_with fail
                go_ret
                exact ⟨rfl, HB0.out⟩
              · have HJ2 := Lib.hid (show ∀ j, j < k + 1 → (rg c.ns j).sum.length ≤ 300 from fun j hj => if e : j = k then by subst e; omega else HJ3.out j (by omega))
                generalize (rg c.ns k).sum.length = sl at *
                go_wp2_with fail
                go_roundw
                case rel => exact ⟨k + 1, hle.out, by go_num, by trivial, HJ2⟩
                case measure => simp [intOf]; omega
            · have : k = c.ns.length := by omega
              subst this
              have hR : R = true := HY.out.2 ⟨HLn.out.1, HLn.out.2, HJ.out, HJ3.out⟩
              subst hR
              go_wp2_with fail
              go_ret
              exact ⟨rfl, HB0.out⟩
end Go.Proofs.YtigikgphipebiaaGreatDoor
/- Ranks and keys of floats: what the reference returns. -/
namespace Go.Proofs.YtigikgphipebiaaGreatDoor
set_option maxRecDepth 100000
open Go.RowKit
set_option linter.unusedVariables false
theorem lt_zero {x : Nat} (hx : W64 x) (hn : isNaNB x = false) (hz : isZeroB x = false) : (FloatKind.f64.format.order x 0 == some .lt) = negB x := by
  rw [ord_lt (notNan_of hx hn) (y := 0) ⟨by decide, by decide⟩, skey_pos (x := 0) (by omega)]
  unfold isZeroB at hz
  unfold W64 at hx
  unfold negB skey
  simp only [decide_eq_false_iff_not] at hz
  rw [decide_eq_decide]
  by_cases k : x < 9223372036854775808
  · rw [if_pos k]; omega
  · rw [if_neg k]; omega
theorem kind_one {x : Nat} (hx : W64 x) (h : kindI x = 1) : isNaNB x = false ∧ isInfB x = false ∧ isZeroB x = false ∧ 0 < x % 9223372036854775808 ∧ x % 9223372036854775808 < 9218868437227405312 := by
  unfold kindI at h
  cases h1 : isNaNB x with
  | true => rw [h1] at h; simp at h
  | false =>
    cases h2 : isInfB x with
    | true => rw [h1, h2] at h; simp at h
    | false =>
      cases h3 : isZeroB x with
      | true => rw [h1, h2, h3] at h; simp at h
      | false =>
        refine ⟨rfl, rfl, rfl, ?_⟩
        unfold isNaNB at h1; unfold isInfB at h2; unfold isZeroB at h3
        simp only [decide_eq_false_iff_not] at h1 h2 h3
        omega
theorem fvc {c : Nat} {q : Int} (h : Canon c q) (hq : q ≤ 971) : FV false (rungOf c q) c q := FV.canon h hq false
theorem rung_w64 {c : Nat} {q : Int} (h : Canon c q) (hq : q ≤ 971) : W64 (rungOf c q) ∧ notNan (rungOf c q) := by
  have := rung_lt h hq
  exact ⟨by unfold W64; omega, by omega, by omega⟩
theorem canon_of_fin {r : Nat} (h0 : 0 < r) (h1 : r < 9218868437227405312) : ∃ c q, Canon c q ∧ q ≤ 971 ∧ c ≠ 0 ∧ rungOf c q = r := by
  obtain ⟨c, q, k1, k2, k3, -⟩ := canon_rung h1
  refine ⟨c, q, k1, k2, ?_, k3⟩
  rintro rfl
  rw [canon_zero k1] at k3
  have : rungOf 0 (-1074) = 0 := by decide
  omega
theorem word_false (r : Nat) : Ieee.double.word false r = r := rfl
theorem SameD.add {m c : Nat} {p q : Int} (h : SameD m p c q) (e : Int) : SameD m (p + e) c (q + e) := by
  obtain ⟨k, ⟨h1, h2⟩ | ⟨h1, h2⟩⟩ := h
  · exact ⟨k, .inl ⟨by omega, h2⟩⟩
  · exact ⟨k, .inr ⟨by omega, h2⟩⟩
theorem log2_le {c : Nat} (h : c < 9007199254740992) : c.log2 ≤ 52 := by
  by_cases h0 : c = 0
  · subst h0; simp
  · have := (Nat.log2_lt h0 (k := 53)).2 h; omega
/-- m is odd, and m 2^e is c 2^q. -/
def IsSplit (c : Nat) (q : Int) (m : Int) (e : Int) : Prop := 0 < m ∧ m % 2 = 1 ∧ SameD m.toNat e c q ∧ m < 9007199254740992
theorem IsSplit.unique {c : Nat} {q m e m' e' : Int} (h : IsSplit c q m e) (k : IsSplit c q m' e') : m = m' ∧ e = e' := by
  obtain ⟨h0, h1, h2, -⟩ := h
  obtain ⟨k0, k1, k2, -⟩ := k
  obtain ⟨a, ⟨g1, g2⟩ | ⟨g1, g2⟩⟩ := h2.trans k2.symm
  · cases a with
    | zero => simp at g1 g2; exact ⟨by omega, by omega⟩
    | succ a => rw [Nat.pow_succ, ← Nat.mul_assoc] at g2; omega
  · cases a with
    | zero => simp at g1 g2; exact ⟨by omega, by omega⟩
    | succ a => rw [Nat.pow_succ, ← Nat.mul_assoc] at g2; omega
theorem two_fv : FV false 4611686018427387904 1 1 := ⟨4503599627370496, -51, ⟨52, .inl ⟨by decide, by decide⟩⟩, ⟨by decide, by decide, .inl (by decide)⟩, by decide, by decide⟩
/-- A number cut to a whole one. -/
def wholeN (c : Nat) (q : Int) : Nat := c / 2 ^ (-q).toNat
theorem whole_le (c : Nat) (q : Int) : wholeN c q ≤ c := Nat.div_le_self _ _
theorem whole_cut {c : Nat} {q : Int} (hc : Canon c q) (hq : q ≤ 0) : floatToIntVal .f64 (rungOf c q) .u64 = some (wholeN c q : Int) := by
  have h1 : c * 2 ^ q.toNat = c := by rw [show q.toNat = 0 by omega]; simp
  refine fv_cut hc (by omega) (word_false _).symm _ ?_ ?_
  · rw [h1]; rfl
  · have := whole_le c q; have := hc.1; omega
/-- The float of a whole number below 2^53. -/
theorem float_of {n : Nat} (h : n < 9007199254740992) : ∃ d p, Canon d p ∧ p ≤ 0 ∧ SameD n 0 d p ∧ floatOfInt .f64 (n : Int) = rungOf d p := by
  obtain ⟨d, p, h1, h2, h3⟩ := canon_ex _ n 0 (Nat.le_refl _) h (by omega)
  refine ⟨d, p, h2, h3, h1, fv_int ?_⟩
  exact ⟨d, p, h1, h2, by omega, rfl⟩
set_option maxRecDepth 100000
open Go.RowKit
set_option linter.unusedVariables false
def SplitPost (x c : Nat) (q : Int) (w : World) (e : Ending) (w' : World) : Prop := (∃ m k : Int, IsSplit c q m k ∧ e = .returned (.tuple #[.bool (negB x), .int .u64 m, .int .i64 k])) ∧ Drawn w w'
set_option maxRecDepth 100000
open Go.RowKit
set_option linter.unusedVariables false
theorem IsSplit.ge {c : Nat} {q m e : Int} (h : IsSplit c q m e) : q ≤ e := by
  obtain ⟨h0, h1, ⟨a, ⟨g1, g2⟩ | ⟨g1, g2⟩⟩, h3⟩ := h
  · omega
  · cases a with
    | zero => omega
    | succ a => rw [Nat.pow_succ, ← Nat.mul_assoc] at g2; omega
theorem rank_bounds {c : Nat} {q z e : Int} (hc : Canon c q) (hq : q ≤ 971) (h0 : c ≠ 0) (hs : SameD z.toNat e c q) : e ≤ 1023 := by
  have h1 := hs.log2 h0
  have h2 := log2_le hc.1
  omega
end Go.Proofs.YtigikgphipebiaaGreatDoor
/- The program's GetF and GetT. -/
namespace Go.Proofs.YtigikgphipebiaaGreatDoor
set_option maxRecDepth 100000
open Go.RowKit
set_option linter.unusedVariables false
set_option maxRecDepth 100000
open Go.RowKit
set_option linter.unusedVariables false
def Box2 (w : World) (g : Nat) (a b : Int) : Prop := w.heap[g]? = some (.cells #[.int .u64 a, .int .u64 b] 262)
theorem Box2.set0 {w : World} {g : Nat} {a b : Int} (h : Box2 w g a b) (x : Int) : Box2 (w.setCell ⟨g, 0, none⟩ (.int .u64 x)) g x b := heap_setCell_same w g 0 _ _ (.int .u64 x) h
theorem Box2.set1 {w : World} {g : Nat} {a b : Int} (h : Box2 w g a b) (x : Int) : Box2 (w.setCell ⟨g, 1, none⟩ (.int .u64 x)) g a x := heap_setCell_same w g 1 _ _ (.int .u64 x) h
theorem Box2.far {w : World} {g k j : Nat} {a b : Int} (h : Box2 w g a b) (hk : g ≠ k) (x : Value) : Box2 (w.setCell ⟨k, j, none⟩ x) g a b := by
  unfold Box2
  rw [heap_setCell_other w ⟨k, j, none⟩ g x hk]; exact h
theorem Box2.below {w w' : World} {g : Nat} {a b : Int} {B : Nat} (h : Box2 w g a b) (hb : Below B w w') (hg : g < B) : Box2 w' g a b := by
  unfold Box2
  rw [hb.block g hg]; exact h
theorem Box2.new (w : World) (a b : Int) : Box2 (w.alloc (.cells #[.int .u64 a, .int .u64 b] 262)) w.heap.size a b := heap_alloc_new w _
set_option maxRecDepth 100000
open Go.RowKit
set_option linter.unusedVariables false
set_option maxRecDepth 100000
open Go.RowKit
set_option linter.unusedVariables false
def strB (l : List Int) : ByteArray := ⟨(l.map fun x => UInt8.ofNat x.toNat).toArray⟩
theorem conv_ints {w : World} {v : Value} {l : List Int} (h : Ints .u8 w v l) (hb : Bt l) : (convert 61 9 v).run Tryz.prog w = .ok (.string (strB l)) w := by
  obtain ⟨a, cap, rfl, -, h0 | ⟨b, off, rfl, hbl, hcell⟩⟩ := h
  · subst h0
    show (convert 61 9 (.slice a 0 cap)).run Tryz.prog w = _
    rw [run_convert_bytes_string w 61 9 5 _ 0 cap Tryz.underlying61 Tryz.underlying5 Tryz.underlying9]
    cases a <;> simp [Conv.bytesToString, loadCells]
    all_goals rfl
  have hlen : (l.map fun x => UInt8.ofNat x.toNat).length = l.length := by simp
  have := run_convert_bytes_back (P := Tryz.prog) w 61 9 5 ⟨b, off, none⟩ cap (l.map fun x => UInt8.ofNat x.toNat) Tryz.underlying61 Tryz.underlying5 Tryz.underlying9 (fun j hj => by
    have hj2 : j < l.length := by simpa using hj
    have hc := hcell j hj2
    have hm := hb _ (List.getElem_mem hj2)
    have e : l.getD j 0 = (((l.map fun x => UInt8.ofNat x.toNat)[j]).toNat : Int) := by
      rw [List.getElem_map, UInt8.toNat_ofNat_of_lt' (by show _ < 256; omega), List.getD, List.getElem?_eq_getElem hj2]
      show l[j] = _
      omega
    rw [e] at hc
    by_cases h0 : j = 0
    · subst h0; simpa [Addr.add] using hc
    · simpa [Addr.add, h0] using hc)
  rw [hlen] at this
  exact this
theorem keyed_key {x : Nat} (hx : W64 x) : Keyed (keyI x) := by
  unfold W64 at hx
  unfold keyI Keyed
  split
  · left; rfl
  · rename_i hn
    have hn : isNaNB x = false := by simpa using hn
    unfold isNaNB at hn
    rw [decide_eq_false_iff_not] at hn
    split
    · rename_i hg
      unfold negB at hg
      rw [decide_eq_true_iff] at hg
      right; omega
    · rename_i hg
      unfold negB at hg
      rw [decide_eq_true_iff] at hg
      right; omega
end Go.Proofs.YtigikgphipebiaaGreatDoor
