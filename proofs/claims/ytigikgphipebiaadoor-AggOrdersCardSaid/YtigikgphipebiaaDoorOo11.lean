/- Contracts that the law leans on, pruned and merged: Natv Power Numw Awake2 Laid2 Meet Natw Ofr. -/
import Derived.WalkSpells
import Derived.RegionTactic
import Derived.ChangeAlike
import Derived.Deep.LoopGhost
import Derived.Laws.IdiomStrings
import Derived.Deep.RegionWith
import Derived.ProofKit
import Derived.LaidMore
import Derived.OpenShut
import Derived.Stop.Joined
import Derived.Lib.LaidTab
import Derived.Deep.RegionHeld3
import Derived.Outline
import Derived.Test.YtigikgphipebiaaDoorRows
import Derived.Test.YtigikgphipebiaaDoorOo03
import Derived.Test.YtigikgphipebiaaDoorOo10
/- What Text of package nat returns. -/
namespace Go.Proofs.YtigikgphipebiaaDoor
set_option maxRecDepth 100000
open Go.RowKit
set_option linter.unusedVariables false
def TenRel (a : List Int) (d : Int) (i : Nat) (out : List Int) (c : Int) : Prop :=
  wvN a i * 10 + d = wvN out i + 4294967296 ^ i * c ∧ Wd out ∧ out.length = a.length ∧ 0 ≤ c ∧ c ≤ 9 ∧ ∀ j, i ≤ j → out.getD j 0 = a.getD j 0
theorem TenRel.start {a : List Int} {d : Int} (ha : Wd a) (d0 : 0 ≤ d) (d1 : d ≤ 9) : TenRel a d 0 a d := ⟨by simp [wvN], ha, rfl, d0, d1, fun _ _ => rfl⟩
theorem TenRel.step {a out : List Int} {d c : Int} {i : Nat} (h : TenRel a d i out c) (hi : i < a.length) (x : Int) (hx : out.getD i 0 = x) :
    TenRel a d (i + 1) (out.set i ((c + x * 10) % 4294967296)) ((c + x * 10) / 4294967296) := by
  obtain ⟨h1, h2, h3, h4, h5, h6⟩ := h
  have hxr := h2.getD i
  have hxa := h6 i (Nat.le_refl _)
  rw [hx] at hxr hxa
  refine ⟨?_, h2.set (by omega) (by omega), by simpa using h3, by omega, by omega, fun j hj => ?_⟩
  · rw [wvN_set_succ (by omega), wvN, ← hxa, q_succ, Int.add_mul]
    have e := wcarry_step (c + x * 10) (4294967296 ^ i)
    have e1 : (c + x * 10) * 4294967296 ^ i = c * 4294967296 ^ i + x * 4294967296 ^ i * 10 := by rw [Int.add_mul, Int.mul_assoc, Int.mul_comm 10, ← Int.mul_assoc]
    have e2 : 4294967296 ^ i * 4294967296 * ((c + x * 10) / 4294967296) = (c + x * 10) / 4294967296 * (4294967296 ^ i * 4294967296) := Int.mul_comm _ _
    have e3 : 4294967296 ^ i * c = c * 4294967296 ^ i := Int.mul_comm _ _
    omega
  · rw [getD_set_other (by omega)]; exact h6 j (by omega)
set_option maxRecDepth 100000
open Go.RowKit
set_option linter.unusedVariables false
set_option maxRecDepth 100000
open Go.RowKit
set_option linter.unusedVariables false
/-- A row of bytes of the call's own. -/
def BRow (w : World) (B g cap : Nat) (a : List Int) : Prop := w.ownsRow B 5 1 (.slice (some ⟨g, 0, none⟩) a.length cap) a.length (a.map (Value.int .u8))
theorem BRow.facts {w : World} {B g cap : Nat} {a : List Int} (h : BRow w B g cap a) : B ≤ g ∧ g < w.heap.size ∧ a.length ≤ cap ∧ cap ≤ maxLen ∧ ∀ j, j < a.length → w.cell? ⟨g, j, none⟩ = some (.int .u8 (a.getD j 0)) ∧ w.frozen? ⟨g, j, none⟩ = false := by
  have h0 := h
  obtain ⟨hl, hh⟩ := h
  have h1 := World.ownsRow.lt h0 g rfl
  refine ⟨h1.1, h1.2, ?_, ?_, fun j hj => ⟨?_, World.ownsRow.frozenAt h0 j⟩⟩
  · rcases hh with ⟨e, _⟩ | ⟨g', cap', cur, e, _, _, hc, _⟩
    · simp at e
    · simp at e; omega
  · rcases hh with ⟨e, _⟩ | ⟨g', cap', cur, e, _, _, _, hc, _⟩
    · simp at e
    · simp at e; omega
  · rw [World.ownsRow.cellAt h0 j (by omega)]
    simp [List.getD, hj]
theorem BRow.set {w : World} {B g cap : Nat} {a : List Int} (h : BRow w B g cap a) (j : Nat) (x : Int) : BRow (w.setCell ⟨g, j, none⟩ (.int .u8 x)) B g cap (a.set j x) := by
  have := (World.ownsRow.stored h j (.int .u8 x)).1
  simpa [BRow, List.map_set] using this
theorem BRow.drewN {w : World} {B g cap : Nat} {a : List Int} (h : BRow w B g cap a) (n : Nat) : BRow (w.drewN n) B g cap a := h
theorem BRow.cut {w : World} {B g cap n : Nat} {a : List Int} (h : BRow w B g cap a) (hn : n ≤ a.length) : BRow w B g cap (a.take n) := by
  have hl : (a.take n).length = n := by rw [List.length_take]; omega
  obtain ⟨k1, k2⟩ := h
  refine ⟨by simp, ?_⟩
  rcases k2 with ⟨e, _⟩ | ⟨g', cap', cur, e, q1, q2, q3, q4, q5, q6⟩
  · simp at e
  · refine .inr ⟨g', cap', cur, by simp at e ⊢; exact ⟨e.1, e.2⟩, q1, q2, by omega, q4, q5, ?_⟩
    have := congrArg (List.take n) q6
    rw [List.take_take] at this
    rw [hl, show n * 1 = min n (a.length * 1) from by omega, this, List.map_take]
/-- The first i and the last i cells are exchanged. -/
def RevRel (a : List Int) (i : Nat) (out : List Int) : Prop := out.length = a.length ∧ ∀ k, k < a.length → out.getD k 0 = if k < i ∨ a.length ≤ k + i then a.getD (a.length - 1 - k) 0 else a.getD k 0
theorem RevRel.start (a : List Int) : RevRel a 0 a := ⟨rfl, fun k hk => by rw [if_neg (by omega)]⟩
theorem getD_set_if {l : List Int} {j i : Nat} {x : Int} (h : j < l.length) : (l.set j x).getD i 0 = if i = j then x else l.getD i 0 := by
  by_cases e : i = j
  · subst e; rw [if_pos rfl]; exact getD_set_self h
  · rw [if_neg e]; exact getD_set_other (fun q => e q.symm)
theorem RevRel.step {a out : List Int} {i : Nat} (h : RevRel a i out) (hi : 2 * i + 1 < a.length) (x y : Int) (hx : out.getD i 0 = x) (hy : out.getD (a.length - 1 - i) 0 = y) :
    RevRel a (i + 1) ((out.set i y).set (a.length - 1 - i) x) ∧ (out.set i y).set (a.length - 1 - i) x = (out.set (a.length - 1 - i) x).set i y := by
  obtain ⟨h1, h2⟩ := h
  have hxa := h2 i (by omega)
  have hya := h2 (a.length - 1 - i) (by omega)
  rw [if_neg (by omega), hx] at hxa
  rw [if_neg (by omega), hy] at hya
  refine ⟨⟨by simpa using h1, fun k hk => ?_⟩, List.set_comm _ _ (by omega)⟩
  rw [getD_set_if (by simp; omega), getD_set_if (by omega)]
  by_cases e1 : k = a.length - 1 - i
  · subst e1
    rw [if_pos rfl, if_pos (by omega), hxa]
    congr 1; omega
  · rw [if_neg e1]
    by_cases e2 : k = i
    · subst e2
      rw [if_pos rfl, if_pos (by omega), hya]
    · rw [if_neg e2, h2 k hk]
      by_cases e3 : k < i ∨ a.length ≤ k + i
      · rw [if_pos e3, if_pos (by omega)]
      · rw [if_neg e3, if_neg (by omega)]
theorem RevRel.stop {a out : List Int} {i : Nat} (h : RevRel a i out) (hi : a.length ≤ 2 * i + 1) : out = a.reverse := by
  obtain ⟨h1, h2⟩ := h
  apply List.ext_getElem (by simpa using h1)
  intro k hk1 hk2
  have hk : k < a.length := by omega
  have e := h2 k hk
  have e1 : out.getD k 0 = out[k] := by simp [List.getD, hk1]
  rw [← e1, e, List.getElem_reverse]
  have e2 : a.getD (a.length - 1 - k) 0 = a[a.length - 1 - k] := by simp [List.getD, show a.length - 1 - k < a.length from by omega]
  by_cases e3 : k < i ∨ a.length ≤ k + i
  · rw [if_pos e3, e2]
  · rw [if_neg e3]
    have e4 : a.length - 1 - k = k := by omega
    simp only [e4] at e2
    rw [e2]; simp only [e4]
set_option maxRecDepth 100000
open Go.RowKit
set_option linter.unusedVariables false
/-- Decimal digits, the lowest first. -/
def v10 : List Int → Int
  | [] => 0
  | d :: t => d + 10 * v10 t
def Ten (ds : List Int) : Prop := ∀ d ∈ ds, 0 ≤ d ∧ d ≤ 9
theorem t_pos (n : Nat) : (0 : Int) < 10 ^ n := Int.pow_pos (by decide)
theorem v10_snoc (ds : List Int) (d : Int) : v10 (ds ++ [d]) = v10 ds + 10 ^ ds.length * d := by
  induction ds with
  | nil => simp [v10]
  | cons c t ih =>
    rw [List.cons_append, v10, ih, v10, List.length_cons, Int.pow_succ, Int.mul_add, Int.mul_comm (10 ^ t.length) 10, Int.mul_assoc]; omega
theorem Ten.snoc {ds : List Int} (h : Ten ds) {d : Int} (d0 : 0 ≤ d) (d1 : d ≤ 9) : Ten (ds ++ [d]) := by
  intro y hy
  rcases List.mem_append.1 hy with hy | hy
  · exact h y hy
  · simp at hy; subst hy; exact ⟨d0, d1⟩
theorem Ten.take {ds : List Int} (h : Ten ds) (n : Nat) : Ten (ds.take n) := fun x hx => h x (List.mem_of_mem_take hx)
theorem v10_nonneg {ds : List Int} (h : Ten ds) : 0 ≤ v10 ds := by
  induction ds with
  | nil => simp [v10]
  | cons c t ih =>
    have := h c (by simp)
    have := ih (fun x hx => h x (List.mem_cons_of_mem _ hx))
    rw [v10]; omega
theorem other_block {w : World} {B : Nat} {rv dv : Value} {n m : Nat} {xs ys : List Value} (hr : w.ownsRow B 48 1 rv n xs) (hd : w.ownsRow B 5 1 dv m ys) : rv.ownBlock = none ∨ rv.ownBlock ≠ dv.ownBlock := by
  rcases hr.2 with ⟨rfl, _⟩ | ⟨g, cap, cur, rfl, _, h1, _⟩
  · exact .inl rfl
  · rcases hd.2 with ⟨rfl, _⟩ | ⟨g', cap', cur', rfl, _, h2, _⟩
    · exact .inr (by simp [Value.ownBlock])
    · refine .inr (fun e => ?_)
      simp only [Value.ownBlock, Option.some.injEq] at e
      subst e
      rw [h1] at h2
      simp only [Option.some.injEq, Obj.cells.injEq] at h2
      exact absurd h2.2.1 (by decide)
theorem pow_bound {n m : Nat} {z : Int} (h : (10 : Int) ^ n ≤ z) (hz : z < 4294967296 ^ m) : n ≤ m * 32 := by
  by_cases e : n ≤ m * 32
  · exact e
  · exfalso
    rw [pow32] at hz
    have h1 : (2 : Int) ^ n ≤ 10 ^ n := by
      have : (2 : Nat) ^ n ≤ 10 ^ n := Nat.pow_le_pow_left (by decide) n
      have e1 : ((2 ^ n : Nat) : Int) = (2 : Int) ^ n := by simp
      have e2 : ((10 ^ n : Nat) : Int) = (10 : Int) ^ n := by simp
      omega
    have h2 := pow2_mono (m := m * 32) (n := n) (by omega)
    omega
/-- The digits that are out, and the rest. -/
def TextRel (B : Nat) (z : Int) (x ds : List Int) (rv dv : Value) (w wr : World) : Prop :=
  wr.ownsRow B 48 1 rv x.length (x.map (Value.int .u32)) ∧ Wd x ∧ Tidy x ∧ x.length ≤ 1000000 ∧ wr.ownsRow B 5 1 dv (ds.map (48 + ·)).length ((ds.map (48 + ·)).map (Value.int .u8)) ∧ Ten ds ∧ z = v10 ds + 10 ^ ds.length * wv x ∧ Below B w wr
/-- In the middle of a chunk. -/
def ChunkRel (B : Nat) (z : Int) (n : Nat) (x ds : List Int) (p : Int) (j : Nat) (rv dv : Value) (w wr : World) : Prop :=
  wr.ownsRow B 48 1 rv x.length (x.map (Value.int .u32)) ∧ Wd x ∧ Tidy x ∧ x.length ≤ 1000000 ∧ wr.ownsRow B 5 1 dv (ds.map (48 + ·)).length ((ds.map (48 + ·)).map (Value.int .u8)) ∧ Ten ds ∧ ds.length = n + j ∧ z = v10 ds + 10 ^ ds.length * (p + 10 ^ (9 - j) * wv x) ∧ 0 ≤ p ∧ p < 10 ^ (9 - j) ∧ Below B w wr
theorem ChunkRel.stop {B : Nat} {z : Int} {n : Nat} {x ds : List Int} {p : Int} {rv dv : Value} {w wr : World} (h : ChunkRel B z n x ds p 9 rv dv w wr) : TextRel B z x ds rv dv w wr := by
  obtain ⟨h1, h2, h3, h4, h5, h6, h7, h8, h9, h10, h11⟩ := h
  have : p = 0 := by simp at h10; omega
  subst this
  refine ⟨h1, h2, h3, h4, h5, h6, ?_, h11⟩
  rw [h8]; simp
theorem ChunkRel.push {B : Nat} {z : Int} {n : Nat} {x ds : List Int} {p : Int} {j : Nat} {rv dv dv' : Value} {w wr w1 : World} {ob : Obj} (h : ChunkRel B z n x ds p j rv dv w wr) (hj : j < 9) (hB : B ≤ wr.heap.size)
    (hown : w1.ownsRow B 5 1 dv' ((ds.map (48 + ·)).length + 1) ((ds.map (48 + ·)).map (Value.int .u8) ++ [.int .u8 (48 + p % 10)])) (hg : (wr.alloc ob).grownBy w1 dv.ownBlock) :
    ChunkRel B z n x (ds ++ [p % 10]) (p / 10) (j + 1) rv dv' w w1 := by
  obtain ⟨h1, h2, h3, h4, h5, h6, h7, h8, h9, h10, h11⟩ := h
  obtain ⟨t, ht⟩ : ∃ t, 9 - j = t + 1 := ⟨8 - j, by omega⟩
  have ht2 : 9 - (j + 1) = t := by omega
  refine ⟨World.ownsRow.kept (h1.alloc ob) hg (other_block h1 h5), h2, h3, h4, by simpa using hown, h6.snoc (by omega) (by omega), by simp; omega, ?_, by omega, ?_, ?_⟩
  · rw [h8, v10_snoc, List.length_append, List.length_singleton, Int.pow_succ, ht, ht2, Int.pow_succ]
    have e1 : (10 : Int) ^ t * 10 * wv x = 10 * (10 ^ t * wv x) := by rw [Int.mul_comm (10 ^ t) 10, Int.mul_assoc]
    rw [e1]
    generalize (10 : Int) ^ t * wv x = V
    generalize (10 : Int) ^ ds.length = P
    have e2 : P * (p + 10 * V) = P * (p % 10) + P * 10 * (p / 10 + V) := by
      rw [Int.mul_assoc P 10, ← Int.mul_add]; congr 1; omega
    omega
  · rw [ht, Int.pow_succ] at h10
    rw [ht2]; omega
  · refine (h11.alloc hB ob).grown hg ?_ ?_
    · simp; omega
    · intro k hk; exact (h5.lt k hk).1
theorem TextRel.chunk {B : Nat} {z : Int} {x ds y : List Int} {rv rv' dv : Value} {w wr w1 : World} (h : TextRel B z x ds rv dv w wr) (hrow : w1.ownsRow B 48 1 rv' y.length (y.map (Value.int .u32))) (hd : Wd y) (ht : Tidy y) (hl : y.length ≤ x.length) (hy : wv y = wv x / 1000000000)
    (hdv : w1.ownsRow B 5 1 dv (ds.map (48 + ·)).length ((ds.map (48 + ·)).map (Value.int .u8))) (hb : Below B w w1) : ChunkRel B z ds.length y ds (wv x % 1000000000) 0 rv' dv w w1 := by
  obtain ⟨h1, h2, h3, h4, h5, h6, h7, h8⟩ := h
  refine ⟨hrow, hd, ht, by omega, hdv, h6, by omega, ?_, by omega, ?_, hb⟩
  · have e : (10 : Int) ^ (9 - 0) = 1000000000 := by decide
    rw [h7, e, hy]; congr 2; omega
  · have e : (10 : Int) ^ (9 - 0) = 1000000000 := by decide
    rw [e]; omega
theorem TextRel.len {B : Nat} {z : Int} {x ds : List Int} {rv dv : Value} {w wr : World} (h : TextRel B z x ds rv dv w wr) (hne : x ≠ []) {m : Nat} (hz : z < 4294967296 ^ m) : ds.length ≤ m * 32 ∧ 0 < wv x := by
  obtain ⟨h1, h2, h3, h4, h5, h6, h7, h8⟩ := h
  have hp := h3.wpos h2 hne
  refine ⟨pow_bound (z := z) ?_ hz, hp⟩
  have h9 := v10_nonneg h6
  have h10 : 10 ^ ds.length * 1 ≤ 10 ^ ds.length * wv x := Int.mul_le_mul_of_nonneg_left (by omega) (Int.le_of_lt (t_pos _))
  omega
end Go.Proofs.YtigikgphipebiaaDoor
/- The power of the reference's numbers. -/
namespace Go.Proofs.YtigikgphipebiaaDoor
set_option maxRecDepth 100000
open Go.RowKit
theorem Kept.down {w w1 w2 : World} {R : Nat} {T : TypeId} (h : Kept w1 R T w2) (hb : Below w.heap.size w w1) : Kept w R T w2 := by
  obtain ⟨h1, h2, h3⟩ := h
  exact ⟨hb.trans (h1.mono hb.size), by have := hb.size; omega, h3⟩
end Go.Proofs.YtigikgphipebiaaDoor
/- What the reference of layer 2 makes of a list of words: its number; and whether a list is the trim one of a number. -/
namespace Go.Proofs.YtigikgphipebiaaDoor
set_option maxRecDepth 100000
open Go.RowKit
set_option linter.unusedVariables false
theorem Kept.far {w w1 : World} {R N : Nat} {T : TypeId} (h : Kept w R T w1) (hne : R ≠ N) (hN : w.heap.size ≤ N) (u v : Value) : Kept w R T ((w1.setCell ⟨N, 0, none⟩ u).setCell ⟨N, 1, none⟩ v) := by
  obtain ⟨h1, h2, x, y, h3⟩ := h
  refine ⟨(h1.setCell hN u).setCell hN v, h2, x, y, ?_⟩
  rw [Below.heap_setCell _ _ _ _ hne, Below.heap_setCell _ _ _ _ hne]; exact h3
end Go.Proofs.YtigikgphipebiaaDoor
/- The examples of the chapter nat: the helper that every statement of layer 2 asks at its end answers true. -/
namespace Go.Proofs.YtigikgphipebiaaDoor
set_option maxRecDepth 100000
open Go.RowKit
set_option linter.unusedVariables false
theorem tidy_tail {x : Int} {t : List Int} (h : Tidy (x :: t)) : Tidy t := by
  by_cases e : t = []
  · exact .inl e
  · refine .inr ?_
    have h1 := h.resolve_left (by simp)
    have hl : 0 < t.length := List.length_pos_iff.2 e
    have e2 : (x :: t).getD ((x :: t).length - 1) 0 = t.getD (t.length - 1) 0 := by
      obtain ⟨n, hn⟩ : ∃ n, t.length = n + 1 := ⟨t.length - 1, by omega⟩
      simp [List.getD, hn]
    rw [e2] at h1; exact h1
theorem wv_cons (x : Int) (t : List Int) : wv (x :: t) = x + 4294967296 * wv t := by
  have := wv_head (a := x :: t) (by simp)
  simpa using this
theorem tidy_unique : ∀ {a b : List Int}, Wd a → Wd b → Tidy a → Tidy b → wv a = wv b → a = b
  | [], b, _, hb, _, tb, h => by
    have := (tb.wzero hb).1 (by rw [← h]; rfl)
    exact this.symm
  | x :: t, [], ha, _, ta, _, h => (ta.wzero ha).1 (by rw [h]; rfl)
  | x :: t, y :: s, ha, hb, ta, tb, h => by
    rw [wv_cons, wv_cons] at h
    have hx := ha x (by simp)
    have hy := hb y (by simp)
    have e : x = y := by omega
    have e2 : wv t = wv s := by omega
    rw [e, tidy_unique (fun z hz => ha z (List.mem_cons_of_mem _ hz)) (fun z hz => hb z (List.mem_cons_of_mem _ hz)) (tidy_tail ta) (tidy_tail tb) e2]
theorem IsNat.list {w : World} {v : Value} {z : Int} {l : List Int} (h : IsNat w v z) (hd : Wd l) (ht : Tidy l) (hz : wv l = z) : WList w v l := by
  obtain ⟨a, h1, h2, h3⟩ := h
  have := tidy_unique h1.2.1 hd h2 ht (by rw [h3, hz])
  rw [← this]; exact h1
theorem halved_unique {z : Int} {m n : Nat} (h : Halved z m) (k : Halved z n) : m = n := by
  have key : ∀ (m n a b : Nat), m < n → (2 : Int) ^ m * (2 * a + 1) = 2 ^ n * (2 * b + 1) → False := fun m n a b hmn e => by
    obtain ⟨d, rfl⟩ : ∃ d, n = m + d + 1 := ⟨n - m - 1, by omega⟩
    rw [show m + d + 1 = m + (d + 1) from rfl, Int.pow_add, Int.mul_assoc] at e
    have hp : (2 : Int) ^ m ≠ 0 := by have : (0 : Int) < 2 ^ m := Int.pow_pos (by decide); omega
    have e2 := Int.eq_of_mul_eq_mul_left hp e
    rw [Int.pow_succ, Int.mul_comm (2 ^ d) 2, Int.mul_assoc] at e2
    omega
  have pos : ∀ (n a : Nat), (2 : Int) ^ n * (2 * a + 1) ≠ 0 := fun n a e => by
    have : (0 : Int) < 2 ^ n * (2 * a + 1) := Int.mul_pos (Int.pow_pos (by decide)) (by omega)
    omega
  rcases h with ⟨h1, h2⟩ | ⟨a, h1⟩
  · rcases k with ⟨k1, k2⟩ | ⟨b, k1⟩
    · omega
    · exact absurd (k1.symm.trans h1) (pos n b)
  · rcases k with ⟨k1, k2⟩ | ⟨b, k1⟩
    · exact absurd (h1.symm.trans k1) (pos m a)
    · rcases Nat.lt_trichotomy m n with q | q | q
      · exact (key m n a b q (h1.symm.trans k1)).elim
      · exact q
      · exact (key n m b a q (k1.symm.trans h1)).elim
end Go.Proofs.YtigikgphipebiaaDoor
/- The table of math/bits: what the rows' condition gives, and that a world meets it. -/
namespace Go.Proofs.YtigikgphipebiaaDoor
set_option maxRecDepth 100000
open Go.ChangeShapes Go.WideShapes Go.ChangeAt Go.RowKit
set_option linter.unusedVariables false
theorem own2 : ownKnob Tryd.prog.godebug = none := by kernel_rfl
theorem laidOut2 : laidOutB Tryd.prog = true := by kernel_rfl
theorem gTab : Tryd.prog.globalNamed "math/bits.deBruijn32tab" = some 0 := by kernel_rfl
theorem tTab : (Tryd.prog.globals[0]?).map (·.type) = some 126 := by kernel_rfl
def tabInts : List Int := [0, 1, 28, 2, 29, 14, 24, 3, 30, 22, 20, 15, 25, 17, 4, 8, 31, 27, 13, 23, 21, 19, 16, 7, 26, 12, 18, 6, 11, 5, 10, 9]
def Given (k : IntKind) (w : World) (v : Value) (zs : List Int) : Prop := Ints k w v zs ∧ ∀ n ∈ zs, (Lit.int k n).wf = true
theorem Given.wlist {w : World} {v : Value} {zs : List Int} (h : Given .u32 w v zs) (hl : zs.length ≤ 1099511627776) : WList w v zs :=
  ⟨h.1, fun x hx => by have := h.2 x hx; simp [Lit.wf, IntKind.min, IntKind.max, IntKind.signed, IntKind.bits] at this; omega, hl⟩
abbrev Four' (R : Nat) (a b c d : Value) (w' : World) : Prop := w'.cell? ⟨R, 0, none⟩ = some a ∧ w'.cell? ⟨R, 1, none⟩ = some b ∧ w'.cell? ⟨R + 1, 0, none⟩ = some c ∧ w'.cell? ⟨R + 1, 1, none⟩ = some d
theorem Four'.call {R : Nat} {a b c d : Value} {w1 w2 : World} (h : Four' R a b c d w1) (hb : Below w1.heap.size w1 w2) : Four' R a b c d w2 := ⟨cell_later hb h.1, cell_later hb h.2.1, cell_later hb h.2.2.1, cell_later hb h.2.2.2⟩
end Go.Proofs.YtigikgphipebiaaDoor
/- Two variables of which one is made by a drawn statement. -/
namespace Go.Proofs.YtigikgphipebiaaDoor
set_option maxRecDepth 100000
open Go.RowKit
set_option linter.unusedVariables false
theorem from_drew {W w2 : World} (hb : Below W.drew.heap.size W.drew w2) : Below W.heap.size W w2 := (Below.refl _ _).drew.trans hb
theorem set_cells {w w1 : World} {N : Nat} {T : TypeId} (h : Kept w N T w1) (u v : Value) :
    ((w1.setCell ⟨N, 0, none⟩ u).setCell ⟨N, 1, none⟩ v).cell? ⟨N, 0, none⟩ = some u ∧ ((w1.setCell ⟨N, 0, none⟩ u).setCell ⟨N, 1, none⟩ v).cell? ⟨N, 1, none⟩ = some v := by
  obtain ⟨h1, h2, x, y, h3⟩ := h
  have h4 := set_two (u := u) (v := v) h3
  exact ⟨by simp [World.cell?, h4], by simp [World.cell?, h4]⟩
abbrev SixAt (X M P : Nat) (a b c d e f : Value) (w : World) : Prop :=
  (w.cell? ⟨X, 0, none⟩ = some a ∧ w.cell? ⟨X, 1, none⟩ = some b) ∧ (w.cell? ⟨M, 0, none⟩ = some c ∧ w.cell? ⟨M, 1, none⟩ = some d) ∧ (w.cell? ⟨P, 0, none⟩ = some e ∧ w.cell? ⟨P, 1, none⟩ = some f)
theorem SixAt.call {X M P : Nat} {a b c d e f : Value} {w w' : World} (h : SixAt X M P a b c d e f w) (hb : Below w.heap.size w w') : SixAt X M P a b c d e f w' := by
  obtain ⟨⟨h1, h2⟩, ⟨h3, h4⟩, h5, h6⟩ := h
  exact ⟨⟨cell_later hb h1, cell_later hb h2⟩, ⟨cell_later hb h3, cell_later hb h4⟩, cell_later hb h5, cell_later hb h6⟩
end Go.Proofs.YtigikgphipebiaaDoor
/- What Bits of package bushelref02 answers. -/
namespace Go.Proofs.YtigikgphipebiaaDoor
set_option maxRecDepth 100000
open Go.RowKit
set_option linter.unusedVariables false
end Go.Proofs.YtigikgphipebiaaDoor
/- What Of of package bushelref02 returns. -/
namespace Go.Proofs.YtigikgphipebiaaDoor
set_option maxRecDepth 100000
open Go.RowKit
set_option linter.unusedVariables false
/-- A row of digits of the call's own. -/
def IRow (w : World) (B g cap : Nat) (a : List Int) : Prop := w.ownsRow B 3 1 (.slice (some ⟨g, 0, none⟩) a.length cap) a.length (a.map (Value.int .i64))
theorem IRow.facts {w : World} {B g cap : Nat} {a : List Int} (h : IRow w B g cap a) : B ≤ g ∧ g < w.heap.size ∧ a.length ≤ cap ∧ cap ≤ maxLen ∧ ∀ j, j < a.length → w.cell? ⟨g, j, none⟩ = some (.int .i64 (a.getD j 0)) ∧ w.frozen? ⟨g, j, none⟩ = false := by
  have h0 := h
  obtain ⟨hl, hh⟩ := h
  have h1 := World.ownsRow.lt h0 g rfl
  refine ⟨h1.1, h1.2, ?_, ?_, fun j hj => ⟨?_, World.ownsRow.frozenAt h0 j⟩⟩
  · rcases hh with ⟨e, _⟩ | ⟨g', cap', cur, e, _, _, hc, _⟩
    · simp at e
    · simp at e; omega
  · rcases hh with ⟨e, _⟩ | ⟨g', cap', cur, e, _, _, _, hc, _⟩
    · simp at e
    · simp at e; omega
  · rw [World.ownsRow.cellAt h0 j (by omega)]
    simp [List.getD, hj]
theorem IRow.set {w : World} {B g cap : Nat} {a : List Int} (h : IRow w B g cap a) (j : Nat) (x : Int) : IRow (w.setCell ⟨g, j, none⟩ (.int .i64 x)) B g cap (a.set j x) := by
  have := (World.ownsRow.stored h j (.int .i64 x)).1
  simpa [IRow, List.map_set] using this
theorem IRow.cut {w : World} {B g cap n : Nat} {a : List Int} (h : IRow w B g cap a) (hn : n ≤ a.length) : IRow w B g cap (a.take n) := by
  have hl : (a.take n).length = n := by rw [List.length_take]; omega
  obtain ⟨k1, k2⟩ := h
  refine ⟨by simp, ?_⟩
  rcases k2 with ⟨e, _⟩ | ⟨g', cap', cur, e, q1, q2, q3, q4, q5, q6⟩
  · simp at e
  · refine .inr ⟨g', cap', cur, by simp at e ⊢; exact ⟨e.1, e.2⟩, q1, q2, by omega, q4, q5, ?_⟩
    have := congrArg (List.take n) q6
    rw [List.take_take] at this
    rw [hl, show n * 1 = min n (a.length * 1) from by omega, this, List.map_take]
theorem iother {w : World} {B : Nat} {rv dv : Value} {n m : Nat} {xs ys : List Value} (hr : w.ownsRow B 3 1 rv n xs) (hd : w.ownsRow B 48 1 dv m ys) : rv.ownBlock = none ∨ rv.ownBlock ≠ dv.ownBlock := by
  rcases hr.2 with ⟨rfl, _⟩ | ⟨g, cap, cur, rfl, _, h1, _⟩
  · exact .inl rfl
  · rcases hd.2 with ⟨rfl, _⟩ | ⟨g', cap', cur', rfl, _, h2, _⟩
    · exact .inr (by simp [Value.ownBlock])
    · refine .inr (fun e => ?_)
      simp only [Value.ownBlock, Option.some.injEq] at e
      subst e
      rw [h1] at h2
      simp only [Option.some.injEq, Obj.cells.injEq] at h2
      exact absurd h2.2.1 (by decide)
theorem iother' {w : World} {B : Nat} {rv dv : Value} {n m : Nat} {xs ys : List Value} (hr : w.ownsRow B 3 1 rv n xs) (hd : w.ownsRow B 48 1 dv m ys) : dv.ownBlock ≠ rv.ownBlock ∨ rv.ownBlock = none := by
  rcases iother hr hd with h | h
  · exact .inr h
  · exact .inl (fun e => h e.symm)
/-- In the middle of a division. -/
def OfMid (w : World) (z : Int) (g cap : Nat) (ds o out : List Int) (m : Nat) (r : Int) (ov : Value) (wr : World) : Prop :=
  IRow wr w.heap.size g cap o ∧ DDivRel ds m o r ∧ wr.ownsRow w.heap.size 48 1 ov out.length (out.map (Value.int .u32)) ∧ Below w.heap.size w wr
theorem OfMid.next {w wr : World} {z : Int} {g cap m : Nat} {ds o out : List Int} {r : Int} {ov : Value} (h : OfMid w z g cap ds o out (m + 1) r ov wr) (hm : m < ds.length) (y : Int) (hy : o.getD m 0 = y) :
    OfMid w z g cap ds (o.set m ((r * 1000 + y) / 4294967296)) out m ((r * 1000 + y) % 4294967296) ov (wr.setCell ⟨g, m, none⟩ (.int .i64 ((r * 1000 + y) / 4294967296))) := by
  obtain ⟨h1, h2, h3, h4⟩ := h
  refine ⟨h1.set m _, h2.step hm y hy, ?_, h4.setCell h1.facts.1 _⟩
  have honly := (Only.refl g wr).set m (.int .i64 ((r * 1000 + y) / 4294967296))
  refine honly.row h3 ?_
  rcases iother' h1 h3 with e | e
  · simpa [Value.ownBlock] using e
  · simp [Value.ownBlock] at e
theorem OfMid.push {w wr w1 : World} {z : Int} {g cap : Nat} {ds o out : List Int} {r : Int} {ov ov' : Value} {ob : Obj} (h : OfMid w z g cap ds o out 0 r ov wr)
    (hown : w1.ownsRow w.heap.size 48 1 ov' (out.length + 1) (out.map (Value.int .u32) ++ [.int .u32 r])) (hg : (wr.alloc ob).grownBy w1 ov.ownBlock) :
    IRow w1 w.heap.size g cap o ∧ w1.ownsRow w.heap.size 48 1 ov' (out ++ [r]).length ((out ++ [r]).map (Value.int .u32)) ∧ Below w.heap.size w w1 := by
  obtain ⟨h1, h2, h3, h4⟩ := h
  refine ⟨World.ownsRow.kept (World.ownsRow.alloc h1 ob) hg (iother h1 h3), by simpa using hown, ?_⟩
  refine (h4.alloc h4.size ob).grown hg ?_ ?_
  · have := h4.size; simp; omega
  · intro k hk; exact (h3.lt k hk).1
end Go.Proofs.YtigikgphipebiaaDoor
