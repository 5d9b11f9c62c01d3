/- Contracts that the law leans on, pruned and merged: Codeb Agga Floi. -/
import Derived.Lib.ItoaNum
import Derived.OwnWalk
import Derived.Deep.AppendLies
import Derived.Deep.RegionLawGrows
import Derived.Test.YtigikgphipebiaaGreatDoorOn06
/- Bytes of the call's own; the program's encoders. -/
namespace Go.Proofs.YtigikgphipebiaaGreatDoor
set_option maxRecDepth 100000
set_option linter.unusedVariables false
def Bt (l : List Int) : Prop := ∀ x ∈ l, 0 ≤ x ∧ x ≤ 255
theorem Bt.append {a b : List Int} (h : Bt a) (k : Bt b) : Bt (a ++ b) := fun x hx => by
  rcases List.mem_append.1 hx with h' | h'
  · exact h x h'
  · exact k x h'
theorem Bt.cons {c : Int} {l : List Int} (h0 : 0 ≤ c) (h1 : c ≤ 255) (h : Bt l) : Bt (c :: l) := fun x hx => by
  rcases List.mem_cons.1 hx with rfl | h'
  · exact ⟨h0, h1⟩
  · exact h x h'
theorem Bt.head {c : Int} {l : List Int} (h : Bt (c :: l)) : 0 ≤ c ∧ c ≤ 255 := h c (by simp)
theorem Bt.tail {c : Int} {l : List Int} (h : Bt (c :: l)) : Bt l := fun x hx => h x (by simp [hx])
theorem Bt.tl {l : List Int} (h : Bt l) : Bt l.tail := fun x hx => h x (List.mem_of_mem_tail hx)
theorem Bt.drop {l : List Int} (h : Bt l) (n : Nat) : Bt (l.drop n) := fun x hx => h x (List.mem_of_mem_drop hx)
theorem Bt.getD {l : List Int} (h : Bt l) {d : Int} (d0 : 0 ≤ d) (d1 : d ≤ 255) (i : Nat) : 0 ≤ l.getD i d ∧ l.getD i d ≤ 255 := by
  by_cases hi : i < l.length
  · rw [List.getD, List.getElem?_eq_getElem hi]; exact h _ (List.getElem_mem hi)
  · rw [List.getD, List.getElem?_eq_none (by omega)]; exact ⟨d0, d1⟩
def IsLen (x n : Nat) : Prop := x < 256 ^ n ∧ (n = 0 ∨ 256 ^ (n - 1) ≤ x)
theorem IsLen.unique {x n m : Nat} (h : IsLen x n) (k : IsLen x m) : n = m := by
  have key : ∀ {n m : Nat}, IsLen x n → IsLen x m → ¬ n < m := by
    intro n m h k hlt
    rcases k.2 with h0 | h0
    · omega
    · have : 256 ^ n ≤ 256 ^ (m - 1) := Nat.pow_le_pow_right (by decide) (by omega)
      have := h.1
      omega
  have := key h k
  have := key k h
  omega
def Keyed (k : Int) : Prop := k = 18446744073709551615 ∨ (4503599627370495 ≤ k ∧ k ≤ 18442240474082181120)
instance (k : Int) : Decidable (Keyed k) := by unfold Keyed; infer_instance
set_option maxRecDepth 100000
open Go.RowKit
set_option linter.unusedVariables false
abbrev BOwn (w : World) (B : Nat) (v : Value) (l : List Int) : Prop := w.ownsRow B 5 1 v l.length (l.map (Value.int .u8))
theorem own_slice3 {w : World} {B E : Nat} {v : Value} {n : Nat} {xs : List Value} (h : w.ownsRow B E 1 v n xs) : ∃ a l c, v = .slice a l c := by
  obtain ⟨a, c, e⟩ := own_slice h
  exact ⟨a, n, c, e⟩
section
variable {P : Program} (w : World)
theorem app_nil_run (base : Nat) (t ty e : TypeId) (i : TypeInfo) (size : Nat) (ht : P.underlying t = some (.slice e)) (hi : P.info? e = some i)
    (v : Value) (n : Nat) (xs : List Value) (hown : w.ownsRow base e size v n xs) (c : Nat) : (Builtin.append_ #[t, t] ty #[v, .slice none 0 c]).run P w = .ok v w := by
  rcases hown.2 with ⟨rfl, rfl⟩ | ⟨g, cap, cur, rfl, _, _, hnc, _⟩
  · simp [Builtin.append_, run_underlying ht, sizeOf, typeInfo, hi, Builtin.lenOf, Builtin.firstCells]
  · simp [Builtin.append_, run_underlying ht, sizeOf, typeInfo, hi, Builtin.lenOf, Builtin.firstCells, hnc, storeCells]
end
end Go.Proofs.YtigikgphipebiaaGreatDoor
/- Layer 14: cells as lists; cells in memory; the reference's Light. -/
namespace Go.Proofs.YtigikgphipebiaaGreatDoor
set_option maxRecDepth 100000
open Go.RowKit
set_option linter.unusedVariables false
/-- What a cell has of a whole measure, of a real one; a cell. -/
structure Wh where
  sum : Int
  abs : Int
  sq : List Int
  mn : Int
  mx : Int
structure Re where
  sum : List Int
  mn : Nat
  mx : Nat
structure Ce where
  key : Int
  cnt : Int
  is : List Wh
  ns : List Re
def wh0 : Wh := ⟨0, 0, [], 0, 0⟩
def re0 : Re := ⟨[], 0, 0⟩
def wg (l : List Wh) (i : Nat) : Wh := l.getD i wh0
def rg (l : List Re) (i : Nat) : Re := l.getD i re0
theorem wg_get {l : List Wh} {i : Nat} (h : i < l.length) : wg l i = l[i] := by simp [wg, List.getD, List.getElem?_eq_getElem h]
theorem rg_get {l : List Re} {i : Nat} (h : i < l.length) : rg l i = l[i] := by simp [rg, List.getD, List.getElem?_eq_getElem h]
/-- A whole measure's five cells, from o on; a real one's three. -/
structure WhAt (w : World) (b o : Nat) (q : Value) (x : Wh) : Prop where
  c0 : w.cell? ⟨b, o, none⟩ = some (.int .i64 x.sum)
  c1 : w.cell? ⟨b, o + 1, none⟩ = some (.int .i64 x.abs)
  c2 : w.cell? ⟨b, o + 2, none⟩ = some q
  c3 : w.cell? ⟨b, o + 3, none⟩ = some (.int .i64 x.mn)
  c4 : w.cell? ⟨b, o + 4, none⟩ = some (.int .i64 x.mx)
  s : Ints .u32 w q x.sq
structure ReAt (w : World) (b o : Nat) (q : Value) (x : Re) : Prop where
  c0 : w.cell? ⟨b, o, none⟩ = some q
  c1 : w.cell? ⟨b, o + 1, none⟩ = some (.float .f64 x.mn)
  c2 : w.cell? ⟨b, o + 2, none⟩ = some (.float .f64 x.mx)
  s : Ints .u8 w q x.sum
theorem WhAt.below {w w' : World} {b o : Nat} {q : Value} {x : Wh} (h : WhAt w b o q x) (hb : Below w.heap.size w w') : WhAt w' b o q x :=
  ⟨cell_later hb h.c0, cell_later hb h.c1, cell_later hb h.c2, cell_later hb h.c3, cell_later hb h.c4, h.s.below hb⟩
theorem ReAt.below {w w' : World} {b o : Nat} {q : Value} {x : Re} (h : ReAt w b o q x) (hb : Below w.heap.size w w') : ReAt w' b o q x :=
  ⟨cell_later hb h.c0, cell_later hb h.c1, cell_later hb h.c2, h.s.below hb⟩
def Wholes (w : World) (v : Value) (l : List Wh) : Prop :=
  ∃ a cap, v = .slice a l.length cap ∧ l.length ≤ cap ∧ l.length ≤ 9223372036854775807 ∧ (l = [] ∨ ∃ b off, a = some ⟨b, off, none⟩ ∧ b < w.heap.size ∧ ∀ i, i < l.length → ∃ q, WhAt w b (off + i * 5) q (wg l i))
def Reals (w : World) (v : Value) (l : List Re) : Prop :=
  ∃ a cap, v = .slice a l.length cap ∧ l.length ≤ cap ∧ l.length ≤ 9223372036854775807 ∧ (l = [] ∨ ∃ b off, a = some ⟨b, off, none⟩ ∧ b < w.heap.size ∧ ∀ i, i < l.length → ∃ q, ReAt w b (off + i * 3) q (rg l i))
theorem Wholes.below {w w' : World} {v : Value} {l : List Wh} (h : Wholes w v l) (hb : Below w.heap.size w w') : Wholes w' v l := by
  obtain ⟨a, cap, rfl, h1, h2, h3⟩ := h
  refine ⟨a, cap, rfl, h1, h2, h3.imp id ?_⟩
  rintro ⟨b, off, rfl, hlt, hc⟩
  exact ⟨b, off, rfl, Nat.lt_of_lt_of_le hlt hb.size, fun i hi => (hc i hi).imp fun q h => h.below hb⟩
theorem Reals.below {w w' : World} {v : Value} {l : List Re} (h : Reals w v l) (hb : Below w.heap.size w w') : Reals w' v l := by
  obtain ⟨a, cap, rfl, h1, h2, h3⟩ := h
  refine ⟨a, cap, rfl, h1, h2, h3.imp id ?_⟩
  rintro ⟨b, off, rfl, hlt, hc⟩
  exact ⟨b, off, rfl, Nat.lt_of_lt_of_le hlt hb.size, fun i hi => (hc i hi).imp fun q h => h.below hb⟩
theorem Wholes.at {w : World} {a : Option Addr} {n cap : Nat} {l : List Wh} (h : Wholes w (.slice a n cap) l) {i : Nat} (hi : i < l.length) : ∃ b off q, a = some ⟨b, off, none⟩ ∧ WhAt w b (off + i * 5) q (wg l i) := by
  obtain ⟨a', cap', e, -, -, h3⟩ := h
  injection e with e1 e2 e3
  subst e1
  rcases h3 with h3 | ⟨b, off, rfl, -, hc⟩
  · rw [h3] at hi; cases hi
  · obtain ⟨q, hq⟩ := hc i hi; exact ⟨b, off, q, rfl, hq⟩
theorem Reals.at {w : World} {a : Option Addr} {n cap : Nat} {l : List Re} (h : Reals w (.slice a n cap) l) {i : Nat} (hi : i < l.length) : ∃ b off q, a = some ⟨b, off, none⟩ ∧ ReAt w b (off + i * 3) q (rg l i) := by
  obtain ⟨a', cap', e, -, -, h3⟩ := h
  injection e with e1 e2 e3
  subst e1
  rcases h3 with h3 | ⟨b, off, rfl, -, hc⟩
  · rw [h3] at hi; cases hi
  · obtain ⟨q, hq⟩ := hc i hi; exact ⟨b, off, q, rfl, hq⟩
abbrev CeV (c : Ce) (I N : Value) : Value := .agg #[.int .u64 c.key, .int .i64 c.cnt, I, N]
abbrev CeO (c : Ce) (I N : Value) : Obj := .cells #[.int .u64 c.key, .int .i64 c.cnt, I, N] 41
structure CeM (w : World) (I N : Value) (c : Ce) : Prop where
  i : Wholes w I c.is
  n : Reals w N c.ns
theorem CeM.below {w w' : World} {I N : Value} {c : Ce} (h : CeM w I N c) (hb : Below w.heap.size w w') : CeM w' I N c := ⟨h.i.below hb, h.n.below hb⟩
theorem CeM.slices {w : World} {I N : Value} {c : Ce} (h : CeM w I N c) : (∃ a k, I = .slice a c.is.length k) ∧ ∃ a k, N = .slice a c.ns.length k := by
  obtain ⟨⟨a, k, h1, -⟩, ⟨a2, k2, h2, -⟩⟩ := h
  exact ⟨⟨a, k, h1⟩, a2, k2, h2⟩
def I64 (x : Int) : Prop := -9223372036854775808 ≤ x ∧ x ≤ 9223372036854775807
structure WhW (x : Wh) : Prop where
  sum : I64 x.sum
  abs : I64 x.abs
  sq : ∀ z ∈ x.sq, 0 ≤ z ∧ z ≤ 4294967295
  len : x.sq.length ≤ 9223372036854775807
  mn : I64 x.mn
  mx : I64 x.mx
structure ReW (x : Re) : Prop where
  sum : Bt x.sum
  len : x.sum.length ≤ 9223372036854775807
  mn : W64 x.mn
  mx : W64 x.mx
structure CeW (c : Ce) : Prop where
  key : 0 ≤ c.key ∧ c.key ≤ 18446744073709551615
  cnt : I64 c.cnt
  is : ∀ x ∈ c.is, WhW x
  ns : ∀ x ∈ c.ns, ReW x
theorem CeW.wg {c : Ce} (h : CeW c) {i : Nat} (hi : i < c.is.length) : WhW (wg c.is i) := by rw [wg_get hi]; exact h.is _ (List.getElem_mem hi)
theorem CeW.rg {c : Ce} (h : CeW c) {i : Nat} (hi : i < c.ns.length) : ReW (rg c.ns i) := by rw [rg_get hi]; exact h.ns _ (List.getElem_mem hi)
/-- A box of a cell. -/
def BoxC (w : World) (B : Nat) (c : Ce) (I N : Value) : Prop := w.heap[B]? = some (.cells #[.int .u64 c.key, .int .i64 c.cnt, I, N] 41 (0, 0))
theorem BoxC.reads {w : World} {B : Nat} {c : Ce} {I N : Value} (h : BoxC w B c I N) : w.cell? ⟨B, 0, none⟩ = some (.int .u64 c.key) ∧ w.cell? ⟨B, 1, none⟩ = some (.int .i64 c.cnt) ∧ w.cell? ⟨B, 2, none⟩ = some I ∧ w.cell? ⟨B, 3, none⟩ = some N := by
  unfold BoxC at h
  refine ⟨by simp [World.cell?, h], by simp [World.cell?, h], by simp [World.cell?, h], by simp [World.cell?, h]⟩
theorem BoxC.below {w w' : World} {B : Nat} {c : Ce} {I N : Value} (h : BoxC w B c I N) (hb : Below w.heap.size w w') : BoxC w' B c I N := by
  unfold BoxC at *; rw [hb.block B (Array.getElem?_eq_some_iff.1 h).1]; exact h
theorem boxC_new (w : World) (c : Ce) (I N : Value) : BoxC (w.alloc (CeO c I N)) w.heap.size c I N := heap_alloc_new w _
end Go.Proofs.YtigikgphipebiaaGreatDoor
/- Ranks and keys of floats: what the reference returns. -/
namespace Go.Proofs.YtigikgphipebiaaGreatDoor
set_option maxRecDepth 100000
open Go.RowKit
set_option linter.unusedVariables false
theorem lt_zero {x : Nat} (hx : W64 x) (hn : isNaNB x = false) (hz : isZeroB x = false) : (FloatKind.f64.format.order x 0 == some .lt) = negB x := by
  rw [ord_lt (notNan_of hx hn) (y := 0) ⟨by decide, by decide⟩, skey_pos (x := 0) (by omega)]
  unfold isZeroB at hz
  unfold W64 at hx
  unfold negB skey
  simp only [decide_eq_false_iff_not] at hz
  rw [decide_eq_decide]
  by_cases k : x < 9223372036854775808
  · rw [if_pos k]; omega
  · rw [if_neg k]; omega
theorem kind_one {x : Nat} (hx : W64 x) (h : kindI x = 1) : isNaNB x = false ∧ isInfB x = false ∧ isZeroB x = false ∧ 0 < x % 9223372036854775808 ∧ x % 9223372036854775808 < 9218868437227405312 := by
  unfold kindI at h
  cases h1 : isNaNB x with
  | true => rw [h1] at h; simp at h
  | false =>
    cases h2 : isInfB x with
    | true => rw [h1, h2] at h; simp at h
    | false =>
      cases h3 : isZeroB x with
      | true => rw [h1, h2, h3] at h; simp at h
      | false =>
        refine ⟨rfl, rfl, rfl, ?_⟩
        unfold isNaNB at h1; unfold isInfB at h2; unfold isZeroB at h3
        simp only [decide_eq_false_iff_not] at h1 h2 h3
        omega
theorem fvc {c : Nat} {q : Int} (h : Canon c q) (hq : q ≤ 971) : FV false (rungOf c q) c q := FV.canon h hq false
theorem rung_w64 {c : Nat} {q : Int} (h : Canon c q) (hq : q ≤ 971) : W64 (rungOf c q) ∧ notNan (rungOf c q) := by
  have := rung_lt h hq
  exact ⟨by unfold W64; omega, by omega, by omega⟩
theorem canon_of_fin {r : Nat} (h0 : 0 < r) (h1 : r < 9218868437227405312) : ∃ c q, Canon c q ∧ q ≤ 971 ∧ c ≠ 0 ∧ rungOf c q = r := by
  obtain ⟨c, q, k1, k2, k3, -⟩ := canon_rung h1
  refine ⟨c, q, k1, k2, ?_, k3⟩
  rintro rfl
  rw [canon_zero k1] at k3
  have : rungOf 0 (-1074) = 0 := by decide
  omega
theorem word_false (r : Nat) : Ieee.double.word false r = r := rfl
theorem SameD.add {m c : Nat} {p q : Int} (h : SameD m p c q) (e : Int) : SameD m (p + e) c (q + e) := by
  obtain ⟨k, ⟨h1, h2⟩ | ⟨h1, h2⟩⟩ := h
  · exact ⟨k, .inl ⟨by omega, h2⟩⟩
  · exact ⟨k, .inr ⟨by omega, h2⟩⟩
theorem log2_le {c : Nat} (h : c < 9007199254740992) : c.log2 ≤ 52 := by
  by_cases h0 : c = 0
  · subst h0; simp
  · have := (Nat.log2_lt h0 (k := 53)).2 h; omega
/-- m is odd, and m 2^e is c 2^q. -/
def IsSplit (c : Nat) (q : Int) (m : Int) (e : Int) : Prop := 0 < m ∧ m % 2 = 1 ∧ SameD m.toNat e c q ∧ m < 9007199254740992
theorem IsSplit.unique {c : Nat} {q m e m' e' : Int} (h : IsSplit c q m e) (k : IsSplit c q m' e') : m = m' ∧ e = e' := by
  obtain ⟨h0, h1, h2, -⟩ := h
  obtain ⟨k0, k1, k2, -⟩ := k
  obtain ⟨a, ⟨g1, g2⟩ | ⟨g1, g2⟩⟩ := h2.trans k2.symm
  · cases a with
    | zero => simp at g1 g2; exact ⟨by omega, by omega⟩
    | succ a => rw [Nat.pow_succ, ← Nat.mul_assoc] at g2; omega
  · cases a with
    | zero => simp at g1 g2; exact ⟨by omega, by omega⟩
    | succ a => rw [Nat.pow_succ, ← Nat.mul_assoc] at g2; omega
theorem two_fv : FV false 4611686018427387904 1 1 := ⟨4503599627370496, -51, ⟨52, .inl ⟨by decide, by decide⟩⟩, ⟨by decide, by decide, .inl (by decide)⟩, by decide, by decide⟩
/-- The first loop: while 2^53 or more is there, half of it. -/
theorem half_step {c : Nat} {q : Int} (hc : Canon c q) (hq : q ≤ 971) (h1 : 1 ≤ q) : Canon c (q - 1) ∧ floatBits .quo .f64 (rungOf c q) 4611686018427387904 = some (rungOf c (q - 1)) := by
  have h2 : Canon c (q - 1) := by
    obtain ⟨a, b, d | d⟩ := hc
    · exact ⟨a, by omega, .inl d⟩
    · omega
  exact ⟨h2, fv_half (fvc hc hq) (fvc h2 (by omega))⟩
theorem big_test {c : Nat} {q : Int} (hc : Canon c q) : 4845873199050653696 ≤ rungOf c q ↔ 1 ≤ q := by
  obtain ⟨a, b, d⟩ := hc
  unfold rungOf
  constructor <;> intro <;> omega
/-- A number cut to a whole one. -/
def wholeN (c : Nat) (q : Int) : Nat := c / 2 ^ (-q).toNat
theorem whole_le (c : Nat) (q : Int) : wholeN c q ≤ c := Nat.div_le_self _ _
theorem whole_cut {c : Nat} {q : Int} (hc : Canon c q) (hq : q ≤ 0) : floatToIntVal .f64 (rungOf c q) .u64 = some (wholeN c q : Int) := by
  have h1 : c * 2 ^ q.toNat = c := by rw [show q.toNat = 0 by omega]; simp
  refine fv_cut hc (by omega) (word_false _).symm _ ?_ ?_
  · rw [h1]; rfl
  · have := whole_le c q; have := hc.1; omega
/-- The float of a whole number below 2^53. -/
theorem float_of {n : Nat} (h : n < 9007199254740992) : ∃ d p, Canon d p ∧ p ≤ 0 ∧ SameD n 0 d p ∧ floatOfInt .f64 (n : Int) = rungOf d p := by
  obtain ⟨d, p, h1, h2, h3⟩ := canon_ex _ n 0 (Nat.le_refl _) h (by omega)
  refine ⟨d, p, h2, h3, h1, fv_int ?_⟩
  exact ⟨d, p, h1, h2, by omega, rfl⟩
theorem rung_inj {c d : Nat} {q p : Int} (hc : Canon c q) (hd : Canon d p) (h : rungOf c q = rungOf d p) : c = d ∧ q = p := by
  obtain ⟨a1, a2, a3⟩ := hc
  obtain ⟨b1, b2, b3⟩ := hd
  unfold rungOf at h
  omega
/-- The second loop: while there is a fraction, twice of it. -/
theorem twice_step {c : Nat} {q : Int} (hc : Canon c q) (h0 : c ≠ 0) (hq : q ≤ 0) :
    (∃ n : Nat, n = wholeN c q ∧ SameD n 0 c q ∧ floatOfInt .f64 (n : Int) = rungOf c q) ∨
    (∃ z, floatOfInt .f64 (wholeN c q : Int) = z ∧ notNan z ∧ z ≠ rungOf c q ∧ z < 9223372036854775808 ∧ ∃ d p, Canon d p ∧ p ≤ 0 ∧ d ≠ 0 ∧ SameD d p c (q + 1) ∧ floatBits .mul .f64 (rungOf c q) 4611686018427387904 = some (rungOf d p)) := by
  have hw : wholeN c q < 9007199254740992 := by have := whole_le c q; have := hc.1; omega
  obtain ⟨d, p, k1, k2, k3, k4⟩ := float_of hw
  by_cases hs : SameD (wholeN c q) 0 c q
  · have := canon_same2 (k3.symm.trans hs) k1 hc
    exact .inl ⟨_, rfl, hs, by rw [k4, this.1, this.2]⟩
  · have hne : rungOf d p ≠ rungOf c q := fun e => by
      obtain ⟨rfl, rfl⟩ := rung_inj k1 hc e
      exact hs k3
    have hr := rung_lt k1 (by omega : p ≤ 971)
    have hlt : q ≤ -1 := by
      by_cases e : q = 0
      · subst e; exact absurd (by unfold wholeN; simp; exact SameD.refl _ _) hs
      · omega
    refine .inr ⟨_, k4, (rung_w64 k1 (by omega)).2, hne, by omega, ?_⟩
    obtain ⟨c1, c2, c3⟩ := id hc
    by_cases h52 : 4503599627370496 ≤ c
    · have h2 : Canon c (q + 1) := ⟨c1, by omega, .inl h52⟩
      refine ⟨c, q + 1, h2, by omega, h0, SameD.refl _ _, fv_mul (fvc hc (by omega)) two_fv ?_⟩
      rw [Nat.mul_one]; exact fvc h2 (by omega)
    · have hq2 : q = -1074 := by omega
      subst hq2
      have h2 : Canon (c * 2) (-1074) := ⟨by omega, by omega, .inr rfl⟩
      have hs2 : SameD (c * 2) (-1074) c (-1074 + 1) := ⟨1, .inr ⟨by omega, by simp⟩⟩
      refine ⟨c * 2, -1074, h2, by omega, by omega, hs2, fv_mul (fvc hc (by omega)) two_fv ?_⟩
      rw [Nat.mul_one]; exact (fvc h2 (by omega)).same hs2.symm
set_option maxRecDepth 100000
open Go.RowKit
set_option linter.unusedVariables false
def SplitPost (x c : Nat) (q : Int) (w : World) (e : Ending) (w' : World) : Prop := (∃ m k : Int, IsSplit c q m k ∧ e = .returned (.tuple #[.bool (negB x), .int .u64 m, .int .i64 k])) ∧ Drawn w w'
theorem split_bounds {c d : Nat} {q p e : Int} (hc : Canon c q) (hq : q ≤ 971) (h0 : c ≠ 0) (hd : d < 9007199254740992) (hp : -1074 ≤ p) (hp2 : p ≤ 0) (hs : SameD d (p + e) c q) : -1200 ≤ e ∧ e ≤ 2200 := by
  have h1 := hs.log2 h0
  have h2 := log2_le hc.1
  have h3 := log2_le hd
  have := hc.2.1
  omega
theorem odd_step {c : Nat} {q z e : Int} (h0 : 0 < z) (hm : z % 2 = 0) (hs : SameD z.toNat e c q) : 0 < z / 2 ∧ SameD (z / 2).toNat (e + 1) c q := by
  refine ⟨by omega, SameD.trans ⟨1, .inl ⟨by omega, by omega⟩⟩ hs⟩
set_option maxHeartbeats 4000000 in
theorem rsplit_fin (x c : Nat) (q : Int) (w : World) (hx : W64 x) (hk : kindI x = 1) (hc : Canon c q) (hq : q ≤ 971) (h0 : c ≠ 0) (hr : rungOf c q = x % 9223372036854775808) :
    Calls Tryz.prog 169 #[.float .f64 x] w (SplitPost x c q w) := by
  have hA := Lib.hid (rkind_any x w hx)
  obtain ⟨g1, g2, g3, g4, g5⟩ := kind_one hx hk
  have hL := lt_zero hx g1 g3
  have hU := run_neg (P := Tryz.prog) x hx
  have hne : (kindI x != 1) = false := by rw [hk]; rfl
  have hflip : negB x = true → flipN x = rungOf c q := fun h => by
    unfold negB at h; simp only [decide_eq_true_eq] at h
    unfold W64 at hx; unfold flipN
    rw [if_neg (by omega)]; omega
  have hsame : negB x = false → x = rungOf c q := fun h => by
    unfold negB at h; simp at h
    omega
  have hC := Lib.hid (And.intro hc (And.intro hq h0))
  generalize kindI x = K at *
  have h53 : notNan 4845873199050653696 := ⟨by decide, by decide⟩
  have hstart : ∃ y0, y0 = rungOf c q := ⟨_, rfl⟩
  unfold SplitPost
  generalize hb : negB x = b at *
  clear hk hr g1 g2 g3 g4 g5 hc hq h0 hstart
  have hH53 := Lib.hid h53
  clear h53
  have hB : (b = true ∧ Hid (flipN x = rungOf c q)) ∨ (b = false ∧ Hid (x = rungOf c q)) := by
    cases b
    · exact .inr ⟨rfl, Lib.hid (hsame rfl)⟩
    · exact .inl ⟨rfl, Lib.hid (hflip rfl)⟩
  clear hflip hsame hb
  rcases hB with ⟨rfl, hy⟩ | ⟨rfl, hy⟩
  all_goals
    generalize flipN x = fx at *
    go_enter Tryz.func169, Tryz.ntmps169
    go_wp2_with fail
    refine (hA.out).mono ?_; rintro e w1 ⟨rfl, hd1⟩
    have hd1 := Lib.hid hd1
    go_wp2_with fail
    have HL := Lib.hid hL
    clear hL hU hA hne
    go_loop [5, 6] (fun y i => ∃ k : Nat, (k : Int) ≤ max q 0 ∧ (q ≤ 0 → k = 0) ∧ i = .int .i64 k ∧ Hid (Canon c (q - k)) ∧ ∃ Y : Nat, y = .float .f64 Y ∧ Hid (Y = rungOf c (q - k))) (fun _ i => (q - intOf i).toNat)
    case atStart => exact ⟨0, by omega, fun _ => rfl, rfl, Lib.hid (by simpa using hC.out.1), _, rfl, Lib.hid (by rw [hy.out]; simp)⟩
    case round =>
      obtain ⟨k, hk1, hk2, rfl, hcan, Y, rfl, hY⟩ := hrel
      have hq := hC.out.2.1
      have hbig := big_test hcan.out
      rw [← hY.out] at hbig
      have hnn : notNan Y := by rw [hY.out]; exact (rung_w64 hcan.out (by omega)).2
      have hYlt : Y < 9223372036854775808 := by have := rung_lt hcan.out (by omega); rw [← hY.out] at this; omega
      have hgt := ord_gt hnn hH53.out
      have heq := ord_eq hnn hH53.out
      rw [skey_pos hYlt, skey_pos (x := 4845873199050653696) (by omega)] at hgt heq
      by_cases hcont : 1 ≤ q - k
      · have hst := half_step hcan.out (by omega) hcont
        rw [← hY.out] at hst
        have hcan2 := Lib.hid hst.1
        have hop : ∀ t w, (binOp .quo t (.float .f64 Y) (.float .f64 4611686018427387904)).run Tryz.prog w = .ok (.float .f64 (rungOf c (q - k - 1))) w := fun t w => run_float_arith w .quo t .f64 _ _ _ hst.2
        have hb := hbig.2 hcont
        have hYr := Lib.hid (show rungOf c (q - k - 1) = rungOf c (q - (k + 1 : Nat)) by congr 1; omega)
        have hcan3 := Lib.hid (show Canon c (q - (k + 1 : Nat)) by rw [show q - ((k + 1 : Nat) : Int) = q - k - 1 by omega]; exact hcan2.out)
        generalize rungOf c (q - k - 1) = Y2 at *
        clear hst hbig hcan hY hnn
        have hge : ((FloatKind.f64.format.order Y 4845873199050653696 == some .gt) = true) ∨ ((FloatKind.f64.format.order Y 4845873199050653696 == some .gt) = false ∧ (FloatKind.f64.format.order Y 4845873199050653696 == some .eq) = true) := by
          rw [hgt, heq]
          by_cases e : (Y : Int) = ((4845873199050653696 : Nat) : Int)
          · exact .inr ⟨by simp; omega, by simpa using e⟩
          · exact .inl (by simp; omega)
        clear hgt heq
        rcases hge with hgt | ⟨hgt, heq⟩
        all_goals
          go_wp2_with (simp only [hop])
          go_round
          case rel => exact ⟨k + 1, by omega, by omega, by go_num, hcan3, _, rfl, hYr⟩
          case measure => simp [intOf]; omega
      · have hgt2 : (FloatKind.f64.format.order Y 4845873199050653696 == some .gt) = false := by rw [hgt]; simp; omega
        have heq2 : (FloatKind.f64.format.order Y 4845873199050653696 == some .eq) = false := by rw [heq]; simp; omega
        clear hgt heq hbig
        have hrel2 : Hid (SameD c (q - k + k) c q) := Lib.hid (by rw [show q - (k : Int) + k = q by omega]; exact SameD.refl _ _)
        go_wp2_with fail
        clear hgt2 heq2
        have hq0 : q - k ≤ 0 := by omega
        have hI := Lib.hid (And.intro hcan.out (And.intro hq0 (And.intro hC.out.2.2 hrel2.out)))
        have hHL := HL.out
        clear hHL hcan hrel2 hnn hcont hk1 hk2 hYlt hq hq0
        generalize q - (k : Int) = p0 at *
        go_loop [5, 6] (fun y i => ∃ (d : Nat) (p e : Int), i = .int .i64 e ∧ Hid (Canon d p ∧ p ≤ 0 ∧ d ≠ 0 ∧ SameD d (p + e) c q) ∧ ∃ Y : Nat, y = .float .f64 Y ∧ Hid (Y = rungOf d p)) (fun _ i => (intOf i + 2000).toNat)
        case atStart => exact ⟨c, p0, k, rfl, hI, _, rfl, hY⟩
        case round =>
          clear hI hY
          obtain ⟨d, p, e, rfl, hI, Y, rfl, hY⟩ := hrel
          obtain ⟨i1, i2, i3, i4⟩ := hI.out
          obtain ⟨b1, b2⟩ := split_bounds hC.out.1 hC.out.2.1 hC.out.2.2 i1.1 i1.2.1 i2 i4
          have hcv := whole_cut i1 i2
          have hnn : notNan Y := by rw [hY.out]; exact (rung_w64 i1 (by omega)).2
          have hYlt : Y < 9223372036854775808 := by have := rung_lt i1 (show p ≤ 971 by omega); rw [← hY.out] at this; omega
          have hwl : wholeN d p < 9007199254740992 := by have := whole_le d p; have := i1.1; omega
          have hst := twice_step i1 i3 i2
          rw [← hY.out] at hcv hst
          have hwh := Lib.hid (show wholeN d p = wholeN d p from rfl)
          generalize hn : wholeN d p = n at *
          have hcv2 : ∀ w, (convert 59 37 (.float .f64 Y)).run Tryz.prog w = .ok (.int .u64 (n : Int)) w := fun w => run_convert_float_int w 59 37 .f64 .u64 Y n (by rw [Tryz.underlying59]; rfl) Tryz.underlying37 hcv
          rcases hst with ⟨n', rfl, hs, hfi⟩ | ⟨z, hfi, hz1, hz2, hz3, d2, p2, k1, k2, k3, k4, k5⟩
          · have hS := Lib.hid (show SameD n' e c q from by
              have := (hs.add e).trans i4
              rw [Int.zero_add] at this; exact this)
            have hne : (FloatKind.f64.format.order Y Y != some .eq) = false := by rw [bne_of (ord_eq hnn hnn)]; simp
            have hpos : 0 < n' := by
              rcases Nat.eq_zero_or_pos n' with h | h
              · exact absurd (hs.zero.1 h) i3
              · exact h
            clear hwh hn hI hY i1 i2 i3 i4 hs hcv hnn hYlt
            go_wp2_with (simp only [hcv2])
            clear hne hfi hcv2
            go_loop [7, 6] (fun m i => ∃ z e : Int, m = .int .u64 z ∧ i = .int .i64 e ∧ 0 < z ∧ z < 9007199254740992 ∧ Hid (SameD z.toNat e c q)) (fun m _ => (intOf m).toNat)
            case atStart => exact ⟨n', e, rfl, rfl, by omega, by omega, by simpa using hS⟩
            case round =>
              clear hS
              obtain ⟨z, e, rfl, rfl, z0, z1, hS⟩ := hrel
              have hb2 : -1200 ≤ e ∧ e ≤ 2200 := split_bounds (d := z.toNat) (p := 0) hC.out.1 hC.out.2.1 hC.out.2.2 (by omega) (by omega) (by omega) (by rw [Int.zero_add]; exact hS.out)
              obtain ⟨b1, b2⟩ := hb2
              have z2 : 0 ≤ z := by omega
              by_cases hm : z % 2 = 0
              · have hst := odd_step z0 hm hS.out
                have hS2 := Lib.hid hst.2
                have hp := hst.1
                have hm2 : (z % 2 == 0) = true := by rw [hm]; rfl
                clear hst hS hm
                go_wp2_with fail
                go_round
                case rel => exact ⟨z / 2, e + 1, rfl, rfl, hp, by omega, hS2⟩
                case measure => simp [intOf]; omega
              · have hm2 : (z % 2 == 0) = false := by simpa using hm
                have hE := Lib.hid (show IsSplit c q z e from ⟨z0, by omega, hS.out, z1⟩)
                have hL := HL.out
                clear hS hm
                go_wp2_with fail
                go_ret3
                exact ⟨⟨z, e, hE.out, rfl⟩, hd1.out⟩
          · have hI2 := Lib.hid (And.intro k1 (And.intro k2 (And.intro k3 (show SameD d2 (p2 + (e - 1)) c q from by
              have := k4.add (e - 1)
              rw [show p + 1 + (e - 1) = p + e by omega] at this
              exact this.trans i4))))
            have hop : ∀ t w, (binOp .mul t (.float .f64 Y) (.float .f64 4611686018427387904)).run Tryz.prog w = .ok (.float .f64 (rungOf d2 p2)) w := fun t w => run_float_arith w .mul t .f64 _ _ _ k5
            have hne : (FloatKind.f64.format.order Y z != some .eq) = true := by
              rw [bne_of (ord_eq hnn hz1), skey_pos hYlt, skey_pos hz3]; simp; omega
            have hY2 := Lib.hid (show rungOf d2 p2 = rungOf d2 p2 from rfl)
            generalize hrr : rungOf d2 p2 = R at *
            have hY3 : Hid (R = rungOf d2 p2) := Lib.hid hrr.symm
            clear hrr hY2 hwh hn hI hY i1 i2 i3 i4 hcv hnn hYlt k1 k2 k3 k4 k5 hz1 hz2 hz3
            go_wp2_with (first | simp only [hcv2] | simp only [hop])
            go_round
            case rel => exact ⟨d2, p2, e - 1, rfl, hI2, _, rfl, hY3⟩
            case measure => simp [intOf]; omega
set_option maxRecDepth 100000
open Go.RowKit
set_option linter.unusedVariables false
theorem IsSplit.ge {c : Nat} {q m e : Int} (h : IsSplit c q m e) : q ≤ e := by
  obtain ⟨h0, h1, ⟨a, ⟨g1, g2⟩ | ⟨g1, g2⟩⟩, h3⟩ := h
  · omega
  · cases a with
    | zero => omega
    | succ a => rw [Nat.pow_succ, ← Nat.mul_assoc] at g2; omega
theorem rank_bounds {c : Nat} {q z e : Int} (hc : Canon c q) (hq : q ≤ 971) (h0 : c ≠ 0) (hs : SameD z.toNat e c q) : e ≤ 1023 := by
  have h1 := hs.log2 h0
  have h2 := log2_le hc.1
  omega
end Go.Proofs.YtigikgphipebiaaGreatDoor
