/- Contracts that the law leans on, pruned and merged: Natx Natv Power Numw Numx. -/
import Derived.WalkSpells
import Derived.RegionTactic
import Derived.ChangeAlike
import Derived.Deep.LoopGhost
import Derived.Laws.IdiomStrings
import Derived.Deep.RegionWith
import Derived.Deep.RegionHeld3
import Derived.Test.YtigikgphipebiaaGreatDoorRi03
import Derived.Test.YtigikgphipebiaaGreatDoorRi09
import Derived.Test.YtigikgphipebiaaGreatDoorRi11
/- Digits of base 1000 divided by 2^32, again and again: plain facts for Of of package bushelref02. -/
namespace Go.Proofs.YtigikgphipebiaaGreatDoor
set_option maxRecDepth 100000
open Go.RowKit
/-- The digits from m on are divided. -/
def DDivRel (a : List Int) (m : Nat) (out : List Int) (r : Int) : Prop :=
  ∃ X Y, val a = valN a m + 1000 ^ m * X ∧ val out = valN a m + 1000 ^ m * Y ∧ X = 4294967296 * Y + r ∧ 0 ≤ r ∧ r < 4294967296 ∧ Dig out ∧ out.length = a.length ∧ ∀ j, j < m → out.getD j 0 = a.getD j 0
theorem DDivRel.start {a : List Int} (ha : Dig a) : DDivRel a a.length a 0 :=
  ⟨0, 0, by simp [val], by simp [val], by simp, by omega, by omega, ha, rfl, fun _ _ => rfl⟩
theorem DDivRel.step {a out : List Int} {r : Int} {m : Nat} (h : DDivRel a (m + 1) out r) (hm : m < a.length) (y : Int) (hy : out.getD m 0 = y) :
    DDivRel a m (out.set m ((r * 1000 + y) / 4294967296)) ((r * 1000 + y) % 4294967296) := by
  obtain ⟨X, Y, e1, e2, e3, e4, e5, e6, e7, e8⟩ := h
  have hya := e8 m (by omega)
  have hyr := e6.getD m
  rw [hy] at hya hyr
  have q0 : 0 ≤ (r * 1000 + y) / 4294967296 := by omega
  have q1 : (r * 1000 + y) / 4294967296 ≤ 999 := by omega
  have r0 : 0 ≤ (r * 1000 + y) % 4294967296 := by omega
  have r1 : (r * 1000 + y) % 4294967296 < 4294967296 := by omega
  have hde := Int.emod_add_mul_ediv (r * 1000 + y) 4294967296
  generalize (r * 1000 + y) / 4294967296 = q at *
  generalize (r * 1000 + y) % 4294967296 = s at *
  refine ⟨y + 1000 * X, q + 1000 * Y, ?_, ?_, ?_, r0, r1, e6.set q0 q1, by simpa using e7, fun j hj => ?_⟩
  · rw [e1, valN, ← hya, p_succ, Int.mul_add, Int.mul_comm y, Int.mul_assoc]; omega
  · rw [val_set (by omega), e2, valN, ← hya, hy, p_succ, Int.mul_add, Int.sub_mul, Int.mul_comm y, Int.mul_comm q, Int.mul_assoc]; omega
  · omega
  · rw [getD_set_other (by omega)]; exact e8 j (by omega)
theorem DDivRel.stop {a out : List Int} {r : Int} (h : DDivRel a 0 out r) : val out = val a / 4294967296 ∧ r = val a % 4294967296 ∧ Dig out ∧ out.length = a.length := by
  obtain ⟨X, Y, e1, e2, e3, e4, e5, e6, e7, e8⟩ := h
  simp [valN] at e1 e2
  exact ⟨by omega, by omega, e6, e7⟩
/-- The words that are out, and the digits that are left. -/
def OfRel (z : Int) (out ds : List Int) : Prop := z = wv out + 4294967296 ^ out.length * val ds ∧ Wd out ∧ Dig ds ∧ Tidy ds ∧ (ds = [] → Tidy out)
theorem OfRel.start {z : Int} {ds : List Int} (hz : z = val ds) (hd : Dig ds) (ht : Tidy ds) : OfRel z [] ds := ⟨by simp [wv_nil, hz], Wd.nil, hd, ht, fun _ => .inl rfl⟩
theorem OfRel.next {z : Int} {out ds ds' : List Int} (h : OfRel z out ds) (hne : ds ≠ []) (hv : val ds' = val ds / 4294967296) (hd : Dig ds') (ht : Tidy ds') : OfRel z (out ++ [val ds % 4294967296]) ds' := by
  obtain ⟨h1, h2, h3, h4, h5⟩ := h
  have hr0 := Int.emod_nonneg (val ds) (show (4294967296 : Int) ≠ 0 by decide)
  have hr1 := Int.emod_lt_of_pos (val ds) (show (0 : Int) < 4294967296 by decide)
  have hw := wv_snoc out (val ds % 4294967296)
  refine ⟨?_, ?_, hd, ht, fun e => ?_⟩
  · rw [hw, List.length_append, List.length_singleton, q_succ, hv, h1]
    generalize (4294967296 : Int) ^ out.length = P
    have k := Int.emod_add_mul_ediv (val ds) 4294967296
    have k2 : P * val ds = P * (val ds % 4294967296 + 4294967296 * (val ds / 4294967296)) := by rw [k]
    rw [k2, Int.mul_add, ← Int.mul_assoc, Int.mul_comm P (val ds % 4294967296)]
    omega
  · intro x hx
    rcases List.mem_append.1 hx with hx | hx
    · exact h2 x hx
    · simp at hx; omega
  · subst e
    have : val ds ≠ 0 := fun e0 => hne ((h4.zero h3).1 e0)
    rw [val_nil] at hv
    exact .inr (by simp [List.getD]; omega)
theorem OfRel.stop {z : Int} {out : List Int} (h : OfRel z out []) : wv out = z ∧ Wd out ∧ Tidy out := by
  obtain ⟨h1, h2, h3, h4, h5⟩ := h
  rw [val_nil] at h1
  exact ⟨by omega, h2, h5 rfl⟩
end Go.Proofs.YtigikgphipebiaaGreatDoor
/- What Text of package nat returns. -/
namespace Go.Proofs.YtigikgphipebiaaGreatDoor
set_option maxRecDepth 100000
open Go.RowKit
set_option linter.unusedVariables false
def TenRel (a : List Int) (d : Int) (i : Nat) (out : List Int) (c : Int) : Prop :=
  wvN a i * 10 + d = wvN out i + 4294967296 ^ i * c ∧ Wd out ∧ out.length = a.length ∧ 0 ≤ c ∧ c ≤ 9 ∧ ∀ j, i ≤ j → out.getD j 0 = a.getD j 0
theorem TenRel.start {a : List Int} {d : Int} (ha : Wd a) (d0 : 0 ≤ d) (d1 : d ≤ 9) : TenRel a d 0 a d := ⟨by simp [wvN], ha, rfl, d0, d1, fun _ _ => rfl⟩
theorem TenRel.step {a out : List Int} {d c : Int} {i : Nat} (h : TenRel a d i out c) (hi : i < a.length) (x : Int) (hx : out.getD i 0 = x) :
    TenRel a d (i + 1) (out.set i ((c + x * 10) % 4294967296)) ((c + x * 10) / 4294967296) := by
  obtain ⟨h1, h2, h3, h4, h5, h6⟩ := h
  have hxr := h2.getD i
  have hxa := h6 i (Nat.le_refl _)
  rw [hx] at hxr hxa
  refine ⟨?_, h2.set (by omega) (by omega), by simpa using h3, by omega, by omega, fun j hj => ?_⟩
  · rw [wvN_set_succ (by omega), wvN, ← hxa, q_succ, Int.add_mul]
    have e := wcarry_step (c + x * 10) (4294967296 ^ i)
    have e1 : (c + x * 10) * 4294967296 ^ i = c * 4294967296 ^ i + x * 4294967296 ^ i * 10 := by rw [Int.add_mul, Int.mul_assoc, Int.mul_comm 10, ← Int.mul_assoc]
    have e2 : 4294967296 ^ i * 4294967296 * ((c + x * 10) / 4294967296) = (c + x * 10) / 4294967296 * (4294967296 ^ i * 4294967296) := Int.mul_comm _ _
    have e3 : 4294967296 ^ i * c = c * 4294967296 ^ i := Int.mul_comm _ _
    omega
  · rw [getD_set_other (by omega)]; exact h6 j (by omega)
set_option maxRecDepth 100000
open Go.RowKit
set_option linter.unusedVariables false
set_option maxRecDepth 100000
open Go.RowKit
set_option linter.unusedVariables false
/-- A row of bytes of the call's own. -/
def BRow (w : World) (B g cap : Nat) (a : List Int) : Prop := w.ownsRow B 5 1 (.slice (some ⟨g, 0, none⟩) a.length cap) a.length (a.map (Value.int .u8))
theorem BRow.facts {w : World} {B g cap : Nat} {a : List Int} (h : BRow w B g cap a) : B ≤ g ∧ g < w.heap.size ∧ a.length ≤ cap ∧ cap ≤ maxLen ∧ ∀ j, j < a.length → w.cell? ⟨g, j, none⟩ = some (.int .u8 (a.getD j 0)) ∧ w.frozen? ⟨g, j, none⟩ = false := by
  have h0 := h
  obtain ⟨hl, hh⟩ := h
  have h1 := World.ownsRow.lt h0 g rfl
  refine ⟨h1.1, h1.2, ?_, ?_, fun j hj => ⟨?_, World.ownsRow.frozenAt h0 j⟩⟩
  · rcases hh with ⟨e, _⟩ | ⟨g', cap', cur, e, _, _, hc, _⟩
    · simp at e
    · simp at e; omega
  · rcases hh with ⟨e, _⟩ | ⟨g', cap', cur, e, _, _, _, hc, _⟩
    · simp at e
    · simp at e; omega
  · rw [World.ownsRow.cellAt h0 j (by omega)]
    simp [List.getD, hj]
theorem BRow.set {w : World} {B g cap : Nat} {a : List Int} (h : BRow w B g cap a) (j : Nat) (x : Int) : BRow (w.setCell ⟨g, j, none⟩ (.int .u8 x)) B g cap (a.set j x) := by
  have := (World.ownsRow.stored h j (.int .u8 x)).1
  simpa [BRow, List.map_set] using this
theorem BRow.drewN {w : World} {B g cap : Nat} {a : List Int} (h : BRow w B g cap a) (n : Nat) : BRow (w.drewN n) B g cap a := h
theorem BRow.cut {w : World} {B g cap n : Nat} {a : List Int} (h : BRow w B g cap a) (hn : n ≤ a.length) : BRow w B g cap (a.take n) := by
  have hl : (a.take n).length = n := by rw [List.length_take]; omega
  obtain ⟨k1, k2⟩ := h
  refine ⟨by simp, ?_⟩
  rcases k2 with ⟨e, _⟩ | ⟨g', cap', cur, e, q1, q2, q3, q4, q5, q6⟩
  · simp at e
  · refine .inr ⟨g', cap', cur, by simp at e ⊢; exact ⟨e.1, e.2⟩, q1, q2, by omega, q4, q5, ?_⟩
    have := congrArg (List.take n) q6
    rw [List.take_take] at this
    rw [hl, show n * 1 = min n (a.length * 1) from by omega, this, List.map_take]
/-- The first i and the last i cells are exchanged. -/
def RevRel (a : List Int) (i : Nat) (out : List Int) : Prop := out.length = a.length ∧ ∀ k, k < a.length → out.getD k 0 = if k < i ∨ a.length ≤ k + i then a.getD (a.length - 1 - k) 0 else a.getD k 0
theorem RevRel.start (a : List Int) : RevRel a 0 a := ⟨rfl, fun k hk => by rw [if_neg (by omega)]⟩
theorem getD_set_if {l : List Int} {j i : Nat} {x : Int} (h : j < l.length) : (l.set j x).getD i 0 = if i = j then x else l.getD i 0 := by
  by_cases e : i = j
  · subst e; rw [if_pos rfl]; exact getD_set_self h
  · rw [if_neg e]; exact getD_set_other (fun q => e q.symm)
theorem RevRel.step {a out : List Int} {i : Nat} (h : RevRel a i out) (hi : 2 * i + 1 < a.length) (x y : Int) (hx : out.getD i 0 = x) (hy : out.getD (a.length - 1 - i) 0 = y) :
    RevRel a (i + 1) ((out.set i y).set (a.length - 1 - i) x) ∧ (out.set i y).set (a.length - 1 - i) x = (out.set (a.length - 1 - i) x).set i y := by
  obtain ⟨h1, h2⟩ := h
  have hxa := h2 i (by omega)
  have hya := h2 (a.length - 1 - i) (by omega)
  rw [if_neg (by omega), hx] at hxa
  rw [if_neg (by omega), hy] at hya
  refine ⟨⟨by simpa using h1, fun k hk => ?_⟩, List.set_comm _ _ (by omega)⟩
  rw [getD_set_if (by simp; omega), getD_set_if (by omega)]
  by_cases e1 : k = a.length - 1 - i
  · subst e1
    rw [if_pos rfl, if_pos (by omega), hxa]
    congr 1; omega
  · rw [if_neg e1]
    by_cases e2 : k = i
    · subst e2
      rw [if_pos rfl, if_pos (by omega), hya]
    · rw [if_neg e2, h2 k hk]
      by_cases e3 : k < i ∨ a.length ≤ k + i
      · rw [if_pos e3, if_pos (by omega)]
      · rw [if_neg e3, if_neg (by omega)]
theorem RevRel.stop {a out : List Int} {i : Nat} (h : RevRel a i out) (hi : a.length ≤ 2 * i + 1) : out = a.reverse := by
  obtain ⟨h1, h2⟩ := h
  apply List.ext_getElem (by simpa using h1)
  intro k hk1 hk2
  have hk : k < a.length := by omega
  have e := h2 k hk
  have e1 : out.getD k 0 = out[k] := by simp [List.getD, hk1]
  rw [← e1, e, List.getElem_reverse]
  have e2 : a.getD (a.length - 1 - k) 0 = a[a.length - 1 - k] := by simp [List.getD, show a.length - 1 - k < a.length from by omega]
  by_cases e3 : k < i ∨ a.length ≤ k + i
  · rw [if_pos e3, e2]
  · rw [if_neg e3]
    have e4 : a.length - 1 - k = k := by omega
    simp only [e4] at e2
    rw [e2]; simp only [e4]
set_option maxRecDepth 100000
open Go.RowKit
set_option linter.unusedVariables false
/-- Decimal digits, the lowest first. -/
def v10 : List Int → Int
  | [] => 0
  | d :: t => d + 10 * v10 t
def Ten (ds : List Int) : Prop := ∀ d ∈ ds, 0 ≤ d ∧ d ≤ 9
theorem t_pos (n : Nat) : (0 : Int) < 10 ^ n := Int.pow_pos (by decide)
theorem v10_snoc (ds : List Int) (d : Int) : v10 (ds ++ [d]) = v10 ds + 10 ^ ds.length * d := by
  induction ds with
  | nil => simp [v10]
  | cons c t ih =>
    rw [List.cons_append, v10, ih, v10, List.length_cons, Int.pow_succ, Int.mul_add, Int.mul_comm (10 ^ t.length) 10, Int.mul_assoc]; omega
theorem Ten.snoc {ds : List Int} (h : Ten ds) {d : Int} (d0 : 0 ≤ d) (d1 : d ≤ 9) : Ten (ds ++ [d]) := by
  intro y hy
  rcases List.mem_append.1 hy with hy | hy
  · exact h y hy
  · simp at hy; subst hy; exact ⟨d0, d1⟩
theorem Ten.take {ds : List Int} (h : Ten ds) (n : Nat) : Ten (ds.take n) := fun x hx => h x (List.mem_of_mem_take hx)
theorem v10_nonneg {ds : List Int} (h : Ten ds) : 0 ≤ v10 ds := by
  induction ds with
  | nil => simp [v10]
  | cons c t ih =>
    have := h c (by simp)
    have := ih (fun x hx => h x (List.mem_cons_of_mem _ hx))
    rw [v10]; omega
theorem other_block {w : World} {B : Nat} {rv dv : Value} {n m : Nat} {xs ys : List Value} (hr : w.ownsRow B 27 1 rv n xs) (hd : w.ownsRow B 5 1 dv m ys) : rv.ownBlock = none ∨ rv.ownBlock ≠ dv.ownBlock := by
  rcases hr.2 with ⟨rfl, _⟩ | ⟨g, cap, cur, rfl, _, h1, _⟩
  · exact .inl rfl
  · rcases hd.2 with ⟨rfl, _⟩ | ⟨g', cap', cur', rfl, _, h2, _⟩
    · exact .inr (by simp [Value.ownBlock])
    · refine .inr (fun e => ?_)
      simp only [Value.ownBlock, Option.some.injEq] at e
      subst e
      rw [h1] at h2
      simp only [Option.some.injEq, Obj.cells.injEq] at h2
      exact absurd h2.2.1 (by decide)
theorem pow_bound {n m : Nat} {z : Int} (h : (10 : Int) ^ n ≤ z) (hz : z < 4294967296 ^ m) : n ≤ m * 32 := by
  by_cases e : n ≤ m * 32
  · exact e
  · exfalso
    rw [pow32] at hz
    have h1 : (2 : Int) ^ n ≤ 10 ^ n := by
      have : (2 : Nat) ^ n ≤ 10 ^ n := Nat.pow_le_pow_left (by decide) n
      have e1 : ((2 ^ n : Nat) : Int) = (2 : Int) ^ n := by simp
      have e2 : ((10 ^ n : Nat) : Int) = (10 : Int) ^ n := by simp
      omega
    have h2 := pow2_mono (m := m * 32) (n := n) (by omega)
    omega
/-- The digits that are out, and the rest. -/
def TextRel (B : Nat) (z : Int) (x ds : List Int) (rv dv : Value) (w wr : World) : Prop :=
  wr.ownsRow B 27 1 rv x.length (x.map (Value.int .u32)) ∧ Wd x ∧ Tidy x ∧ x.length ≤ 1000000 ∧ wr.ownsRow B 5 1 dv (ds.map (48 + ·)).length ((ds.map (48 + ·)).map (Value.int .u8)) ∧ Ten ds ∧ z = v10 ds + 10 ^ ds.length * wv x ∧ Below B w wr
/-- In the middle of a chunk. -/
def ChunkRel (B : Nat) (z : Int) (n : Nat) (x ds : List Int) (p : Int) (j : Nat) (rv dv : Value) (w wr : World) : Prop :=
  wr.ownsRow B 27 1 rv x.length (x.map (Value.int .u32)) ∧ Wd x ∧ Tidy x ∧ x.length ≤ 1000000 ∧ wr.ownsRow B 5 1 dv (ds.map (48 + ·)).length ((ds.map (48 + ·)).map (Value.int .u8)) ∧ Ten ds ∧ ds.length = n + j ∧ z = v10 ds + 10 ^ ds.length * (p + 10 ^ (9 - j) * wv x) ∧ 0 ≤ p ∧ p < 10 ^ (9 - j) ∧ Below B w wr
theorem ChunkRel.stop {B : Nat} {z : Int} {n : Nat} {x ds : List Int} {p : Int} {rv dv : Value} {w wr : World} (h : ChunkRel B z n x ds p 9 rv dv w wr) : TextRel B z x ds rv dv w wr := by
  obtain ⟨h1, h2, h3, h4, h5, h6, h7, h8, h9, h10, h11⟩ := h
  have : p = 0 := by simp at h10; omega
  subst this
  refine ⟨h1, h2, h3, h4, h5, h6, ?_, h11⟩
  rw [h8]; simp
theorem ChunkRel.push {B : Nat} {z : Int} {n : Nat} {x ds : List Int} {p : Int} {j : Nat} {rv dv dv' : Value} {w wr w1 : World} {ob : Obj} (h : ChunkRel B z n x ds p j rv dv w wr) (hj : j < 9) (hB : B ≤ wr.heap.size)
    (hown : w1.ownsRow B 5 1 dv' ((ds.map (48 + ·)).length + 1) ((ds.map (48 + ·)).map (Value.int .u8) ++ [.int .u8 (48 + p % 10)])) (hg : (wr.alloc ob).grownBy w1 dv.ownBlock) :
    ChunkRel B z n x (ds ++ [p % 10]) (p / 10) (j + 1) rv dv' w w1 := by
  obtain ⟨h1, h2, h3, h4, h5, h6, h7, h8, h9, h10, h11⟩ := h
  obtain ⟨t, ht⟩ : ∃ t, 9 - j = t + 1 := ⟨8 - j, by omega⟩
  have ht2 : 9 - (j + 1) = t := by omega
  refine ⟨World.ownsRow.kept (h1.alloc ob) hg (other_block h1 h5), h2, h3, h4, by simpa using hown, h6.snoc (by omega) (by omega), by simp; omega, ?_, by omega, ?_, ?_⟩
  · rw [h8, v10_snoc, List.length_append, List.length_singleton, Int.pow_succ, ht, ht2, Int.pow_succ]
    have e1 : (10 : Int) ^ t * 10 * wv x = 10 * (10 ^ t * wv x) := by rw [Int.mul_comm (10 ^ t) 10, Int.mul_assoc]
    rw [e1]
    generalize (10 : Int) ^ t * wv x = V
    generalize (10 : Int) ^ ds.length = P
    have e2 : P * (p + 10 * V) = P * (p % 10) + P * 10 * (p / 10 + V) := by
      rw [Int.mul_assoc P 10, ← Int.mul_add]; congr 1; omega
    omega
  · rw [ht, Int.pow_succ] at h10
    rw [ht2]; omega
  · refine (h11.alloc hB ob).grown hg ?_ ?_
    · simp; omega
    · intro k hk; exact (h5.lt k hk).1
theorem TextRel.chunk {B : Nat} {z : Int} {x ds y : List Int} {rv rv' dv : Value} {w wr w1 : World} (h : TextRel B z x ds rv dv w wr) (hrow : w1.ownsRow B 27 1 rv' y.length (y.map (Value.int .u32))) (hd : Wd y) (ht : Tidy y) (hl : y.length ≤ x.length) (hy : wv y = wv x / 1000000000)
    (hdv : w1.ownsRow B 5 1 dv (ds.map (48 + ·)).length ((ds.map (48 + ·)).map (Value.int .u8))) (hb : Below B w w1) : ChunkRel B z ds.length y ds (wv x % 1000000000) 0 rv' dv w w1 := by
  obtain ⟨h1, h2, h3, h4, h5, h6, h7, h8⟩ := h
  refine ⟨hrow, hd, ht, by omega, hdv, h6, by omega, ?_, by omega, ?_, hb⟩
  · have e : (10 : Int) ^ (9 - 0) = 1000000000 := by decide
    rw [h7, e, hy]; congr 2; omega
  · have e : (10 : Int) ^ (9 - 0) = 1000000000 := by decide
    rw [e]; omega
theorem TextRel.len {B : Nat} {z : Int} {x ds : List Int} {rv dv : Value} {w wr : World} (h : TextRel B z x ds rv dv w wr) (hne : x ≠ []) {m : Nat} (hz : z < 4294967296 ^ m) : ds.length ≤ m * 32 ∧ 0 < wv x := by
  obtain ⟨h1, h2, h3, h4, h5, h6, h7, h8⟩ := h
  have hp := h3.wpos h2 hne
  refine ⟨pow_bound (z := z) ?_ hz, hp⟩
  have h9 := v10_nonneg h6
  have h10 : 10 ^ ds.length * 1 ≤ 10 ^ ds.length * wv x := Int.mul_le_mul_of_nonneg_left (by omega) (Int.le_of_lt (t_pos _))
  omega
end Go.Proofs.YtigikgphipebiaaGreatDoor
/- The power of the reference's numbers. -/
namespace Go.Proofs.YtigikgphipebiaaGreatDoor
set_option maxRecDepth 100000
open Go.RowKit
theorem sized_pow {s : Nat} {x : Int} (h : Sized s x) (k : Nat) : Sized (s * k + 1) (x ^ k) := by
  have h1 : x.natAbs ≤ 1000 ^ s := by
    obtain ⟨h1, h2⟩ := h
    have e : ((1000 ^ s : Nat) : Int) = (1000 : Int) ^ s := by rw [Int.natCast_pow]; rfl
    omega
  have h2 : (x ^ k).natAbs = x.natAbs ^ k := Int.natAbs_pow x k
  have h3 : x.natAbs ^ k ≤ (1000 ^ s) ^ k := Nat.pow_le_pow_left h1 k
  rw [← Nat.pow_mul] at h3
  have h4 : 0 < 1000 ^ (s * k) := Nat.pow_pos (by decide)
  have h5 : 1000 ^ (s * k + 1) = 1000 ^ (s * k) * 1000 := Nat.pow_succ ..
  have e : ((1000 ^ (s * k + 1) : Nat) : Int) = (1000 : Int) ^ (s * k + 1) := by rw [Int.natCast_pow]; rfl
  unfold Sized
  omega
/-- Two variables that hold a number each, read; and what is kept. -/
def Held2 (w : World) (R N M : Nat) (a b c d : Value) (w' : World) : Prop :=
  w'.cell? ⟨N, 0, none⟩ = some a ∧ w'.cell? ⟨N, 1, none⟩ = some b ∧ w'.cell? ⟨M, 0, none⟩ = some c ∧ w'.cell? ⟨M, 1, none⟩ = some d ∧ Kept w R 89 w' ∧ R ≠ N ∧ R ≠ M
theorem Held2.call {w w1 w2 : World} {R N M : Nat} {a b c d : Value} (h : Held2 w R N M a b c d w1) (hb : Below w1.heap.size w1 w2) : Held2 w R N M a b c d w2 :=
  ⟨cell_later hb h.1, cell_later hb h.2.1, cell_later hb h.2.2.1, cell_later hb h.2.2.2.1, h.2.2.2.2.1.call hb, h.2.2.2.2.2⟩
theorem Held2.drew {w w1 : World} {R N M : Nat} {a b c d : Value} (h : Held2 w R N M a b c d w1) : Held2 w R N M a b c d w1.drew := h.call (Below.refl _ _).drew
theorem Held2.store {w w1 : World} {R N M : Nat} {a b c d : Value} (h : Held2 w R N M a b c d w1) (u v : Value) : Held2 w R N M a b c d ((w1.setCell ⟨R, 0, none⟩ u).setCell ⟨R, 1, none⟩ v) := by
  obtain ⟨h1, h2, h3, h4, h5, h6, h7⟩ := h
  refine ⟨?_, ?_, ?_, ?_, h5.store u v, h6, h7⟩
  · rw [World.cell?_setCell_far _ _ _ _ h6, World.cell?_setCell_far _ _ _ _ h6]; exact h1
  · rw [World.cell?_setCell_far _ _ _ _ h6, World.cell?_setCell_far _ _ _ _ h6]; exact h2
  · rw [World.cell?_setCell_far _ _ _ _ h7, World.cell?_setCell_far _ _ _ _ h7]; exact h3
  · rw [World.cell?_setCell_far _ _ _ _ h7, World.cell?_setCell_far _ _ _ _ h7]; exact h4
set_option maxHeartbeats 1000000 in
theorem power_zero (v : Value) (x i : Int) (w : World) (hv : IsNum w v x) (hi : i ≤ 0) :
    Calls Tryz.prog 179 #[v, .int .i64 i] w (MadeNum w 1) := by
  obtain ⟨b1, p1, l1, c1, rfl⟩ := hv.shape
  have hk0 := Lib.hid (Kept.start (w.alloc (.cells #[.bool b1, .slice p1 l1 c1] 89)) (.bool false) (.slice none 0 0) 89)
  clear hv
  go_enter Tryz.func179, Tryz.ntmps179
  go_wp2_with fail
  refine (nat_any 1 _ (by decide) (by decide)).mono ?_; rintro e w4 ⟨q, rfl, hq, hb4⟩
  have hk := hk0.out.call hb4
  simp only [World.size_alloc] at hk
  clear hb4 hk0
  obtain ⟨rn, rp, rl, rc, rfl⟩ := hq.shape
  obtain ⟨⟨x1, hx1⟩, ⟨y1, hy1⟩, hf1, hf2⟩ := hk.cells
  have hN := hk.num hq
  have hE := (hk.store (.bool rn) (.slice rp rl rc)).1
  clear hk hq
  go_wp2_with fail
  refine bodyPost_ret (v := .agg #[.bool rn, .slice rp rl rc]) (by simp [results, Tryz.results179, go_sem, hx1, hy1]) rfl ⟨_, rfl, hN, ?_⟩
  exact (below_one w _).trans (hE.mono (by simp))
theorem Kept.down {w w1 w2 : World} {R : Nat} {T : TypeId} (h : Kept w1 R T w2) (hb : Below w.heap.size w w1) : Kept w R T w2 := by
  obtain ⟨h1, h2, h3⟩ := h
  exact ⟨hb.trans (h1.mono hb.size), by have := hb.size; omega, h3⟩
/-- What is held when the half's power has been stored. -/
theorem power_held {w w1 : World} {a b c d u v : Value} (hb : Below ((w.alloc (.cells #[a, b] 89)).alloc (.cells #[u, v] 89)).heap.size ((w.alloc (.cells #[a, b] 89)).alloc (.cells #[u, v] 89)) w1) :
    Held2 w (w.heap.size + 1) w.heap.size w1.heap.size a b c d (w1.alloc (.cells #[c, d] 89)) := by
  have hk : Kept w (w.heap.size + 1) 89 w1 := by
    have := ((Kept.start (w.alloc (.cells #[a, b] 89)) u v 89).call hb).down (below_one w _)
    simpa using this
  have hs := hb.size
  simp only [World.size_alloc] at hs
  have h2 := below_one w1 (.cells #[c, d] 89)
  refine ⟨?_, ?_, by simp [go_sem], by simp [go_sem], hk.call h2, by omega, by omega⟩
  · exact cell_later h2 (cell_later hb (by simp [go_sem]))
  · exact cell_later h2 (cell_later hb (by simp [go_sem]))
theorem pow_half_odd {x : Int} {n : Nat} (h : n % 2 = 1) : x ^ (n / 2) * x ^ (n / 2) * x = x ^ n := by
  rw [← Int.pow_add, ← Int.pow_succ]; congr 1; omega
theorem pow_half_even {x : Int} {n : Nat} (h : n % 2 = 0) : x ^ (n / 2) * x ^ (n / 2) = x ^ n := by
  rw [← Int.pow_add]; congr 1; omega
set_option maxHeartbeats 2000000 in
theorem num_power (s : Nat) (k : Nat) : ∀ (v : Value) (x i : Int) (n : Nat) (w : World), n ≤ k → Hid (i = (n : Int)) → s * n + 2 ≤ 274877906944 → n ≤ 1099511627776 → IsNum w v x → Sized s x →
    Calls Tryz.prog 179 #[v, .int .i64 i] w (MadeNum w (x ^ n)) := by
  induction k with
  | zero =>
    intro v x i n w hn hi _ _ hv _
    obtain rfl : n = 0 := by omega
    exact (power_zero v x i w hv (by have := hi.out; omega)).mono (MadeNum.to (by simp))
  | succ k ih =>
    intro v x i n w hn hi hs hn2 hv hx
    by_cases h0 : n = 0
    · subst h0
      exact (power_zero v x i w hv (by have := hi.out; omega)).mono (MadeNum.to (by simp))
    · have hi0 : 0 < i := by have := hi.out; omega
      have hi2 : i ≤ 1099511627776 := by have := hi.out; omega
      obtain ⟨b1, p1, l1, c1, rfl⟩ := hv.shape
      have hsn : s * (n / 2) ≤ s * n := Nat.mul_le_mul_left _ (by omega)
      have HP := Lib.hid (fun w1 (hb : Below w.heap.size w w1) => ih _ x (i / 2) (n / 2) w1 (by omega) (Lib.hid (by have := hi.out; omega)) (by omega) (by omega) (hv.below hb) hx)
      clear ih
      have hsz : Sized (s * n + 2) (x ^ (n / 2)) := (sized_pow hx (n / 2)).mono (by omega)
      have hn1 : s ≤ s * n := Nat.le_mul_of_pos_right s (by omega)
      have hxs : Sized (s * n + 2) x := hx.mono (by omega)
      have hqq : Sized (s * n + 2) (x ^ (n / 2) * x ^ (n / 2)) := by
        rw [← Int.pow_add]
        refine (sized_pow hx _).mono ?_
        have : s * (n / 2 + n / 2) ≤ s * n := Nat.mul_le_mul_left _ (by omega)
        omega
      have hm2 : n % 2 = 1 ∨ n % 2 = 0 := by omega
      have HX := Lib.hid hv
      clear hv
      have KM := Lib.hid (fun w1 (u v : Value) (y z : Int) (hu : IsNum w1 u y) (hv : IsNum w1 v z) (hy : Sized (s * n + 2) y) (hz : Sized (s * n + 2) z) => num_mul u v y z _ w1 hu hv hy hz (by omega))
      rcases hm2 with hm | hm
      · have hq : (i % 2 == 1) = true := by have := hi.out; simp; omega
        have HE := Lib.hid (pow_half_odd (x := x) hm)
        clear hm hi
        go_enter Tryz.func179, Tryz.ntmps179
        go_wp2_with fail
        refine (HP.out _ (below_two w _ _)).mono ?_; rintro e w1 ⟨h, rfl, hh, hb⟩
        obtain ⟨b3, p3, l3, c3, rfl⟩ := hh.shape
        have hH := Lib.hid (power_held (c := .bool b3) (d := .slice p3 l3 c3) hb)
        have hbw := Lib.hid ((below_two w _ _).trans (hb.mono (by simp; omega)))
        have hhn := Lib.hid (hh.below (below_one w1 (.cells #[.bool b3, .slice p3 l3 c3] 89)))
        have hxn := Lib.hid ((HX.out.below hbw.out).below (below_one w1 (.cells #[.bool b3, .slice p3 l3 c3] 89)))
        clear hh hb HP HX
        go_wp2_with fail
        have hk := hH.out.drew
        go_region_held3 (fun w' => w'.cell? ⟨w.heap.size, 0, none⟩ = some (.bool b1) ∧ w'.cell? ⟨w.heap.size, 1, none⟩ = some (.slice p1 l1 c1) ∧ w'.cell? ⟨w1.heap.size, 0, none⟩ = some (.bool b3) ∧ w'.cell? ⟨w1.heap.size, 1, none⟩ = some (.slice p3 l3 c3) ∧ Kept w (w.heap.size + 1) 89 w' ∧ w.heap.size + 1 ≠ w.heap.size ∧ w.heap.size + 1 ≠ w1.heap.size)
          (first | exact hk | exact hk.store _ _)
          (first
            | (go_at_call_of 44 (Value.bool b3); refine (KM.out _ _ _ _ _ (hhn.out.below (Below.refl _ _).drew) (hhn.out.below (Below.refl _ _).drew) hsz hsz).mono ?_; rintro e w2 ⟨q, rfl, hq2, hb2⟩; have hk := hk.call hb2)
            | (go_at_call_of 44 q; refine (KM.out _ _ _ _ _ hq2 ((hxn.out.below (Below.refl _ _).drew).below hb2) hqq hxs).mono ?_; rintro e w3 ⟨r, rfl, hr, hb3⟩; have hk := hk.call hb3; obtain ⟨rn, rp, rl, rc, rfl⟩ := hr.shape; obtain ⟨⟨x1, hx1⟩, ⟨y1, hy1⟩, hf1, hf2⟩ := hk.2.2.2.2.1.cells))
        have hN := hk.2.2.2.2.1.num hr
        have hE := (hk.2.2.2.2.1.store (.bool rn) (.slice rp rl rc)).1
        rw [HE.out] at hN
        clear hk hr
        go_wp2_with fail
        exact bodyPost_ret (v := .agg #[.bool rn, .slice rp rl rc]) (by simp [results, Tryz.results179, go_sem, hx1, hy1]) rfl ⟨_, rfl, hN, hE⟩
      · have hq : (i % 2 == 1) = false := by have := hi.out; simp; omega
        have HE := Lib.hid (pow_half_even (x := x) hm)
        clear hm hi
        go_enter Tryz.func179, Tryz.ntmps179
        go_wp2_with fail
        refine (HP.out _ (below_two w _ _)).mono ?_; rintro e w1 ⟨h, rfl, hh, hb⟩
        obtain ⟨b3, p3, l3, c3, rfl⟩ := hh.shape
        have hH := Lib.hid (power_held (c := .bool b3) (d := .slice p3 l3 c3) hb)
        have hbw := Lib.hid ((below_two w _ _).trans (hb.mono (by simp; omega)))
        have hhn := Lib.hid (hh.below (below_one w1 (.cells #[.bool b3, .slice p3 l3 c3] 89)))
        have hxn := Lib.hid ((HX.out.below hbw.out).below (below_one w1 (.cells #[.bool b3, .slice p3 l3 c3] 89)))
        clear hh hb HP HX
        go_wp2_with fail
        have hk := hH.out
        refine (KM.out _ _ _ _ _ hhn.out hhn.out hsz hsz).mono ?_; rintro e w2 ⟨r, rfl, hr, hb2⟩
        have hk := hk.call hb2
        obtain ⟨rn, rp, rl, rc, rfl⟩ := hr.shape
        obtain ⟨⟨x1, hx1⟩, ⟨y1, hy1⟩, hf1, hf2⟩ := hk.2.2.2.2.1.cells
        have hN := hk.2.2.2.2.1.num hr
        have hE := (hk.2.2.2.2.1.store (.bool rn) (.slice rp rl rc)).1
        rw [HE.out] at hN
        clear hk hr
        go_wp2_with fail
        exact bodyPost_ret (v := .agg #[.bool rn, .slice rp rl rc]) (by simp [results, Tryz.results179, go_sem, hx1, hy1]) rfl ⟨_, rfl, hN, hE⟩
end Go.Proofs.YtigikgphipebiaaGreatDoor
/- What the reference of layer 2 makes of a list of words: its number; and whether a list is the trim one of a number. -/
namespace Go.Proofs.YtigikgphipebiaaGreatDoor
set_option maxRecDepth 100000
open Go.RowKit
set_option linter.unusedVariables false
theorem below_drew' {w w' : World} (h : Below w.drew.heap.size w.drew w') : Below w.heap.size w w' := (Below.refl _ _).drew.trans h
/-- A variable that holds a number. -/
def NumBox (w : World) (N : Nat) (z : Int) (wr : World) : Prop :=
  (∃ x y, wr.cell? ⟨N, 0, none⟩ = some x ∧ wr.cell? ⟨N, 1, none⟩ = some y ∧ IsNum wr (.agg #[x, y]) z) ∧ Kept w N 89 wr
theorem set_cells' {w w1 : World} {N : Nat} {T : TypeId} (h : Kept w N T w1) (u v : Value) :
    ((w1.setCell ⟨N, 0, none⟩ u).setCell ⟨N, 1, none⟩ v).cell? ⟨N, 0, none⟩ = some u ∧ ((w1.setCell ⟨N, 0, none⟩ u).setCell ⟨N, 1, none⟩ v).cell? ⟨N, 1, none⟩ = some v := by
  obtain ⟨h1, h2, x, y, h3⟩ := h
  have h4 := set_two (u := u) (v := v) h3
  exact ⟨by simp [World.cell?, h4], by simp [World.cell?, h4]⟩
theorem box_store {w w2 : World} {N : Nat} {u s : Value} {z : Int} (hk : Kept w N 89 w2) (hq : IsNum w2 (.agg #[u, s]) z) : NumBox w N z ((w2.setCell ⟨N, 0, none⟩ u).setCell ⟨N, 1, none⟩ s) :=
  ⟨⟨u, s, (set_cells' hk u s).1, (set_cells' hk u s).2, hk.num hq⟩, hk.store u s⟩
theorem Kept.far {w w1 : World} {R N : Nat} {T : TypeId} (h : Kept w R T w1) (hne : R ≠ N) (hN : w.heap.size ≤ N) (u v : Value) : Kept w R T ((w1.setCell ⟨N, 0, none⟩ u).setCell ⟨N, 1, none⟩ v) := by
  obtain ⟨h1, h2, x, y, h3⟩ := h
  refine ⟨(h1.setCell hN u).setCell hN v, h2, x, y, ?_⟩
  rw [Below.heap_setCell _ _ _ _ hne, Below.heap_setCell _ _ _ _ hne]; exact h3
theorem NumBox.call {w w1 w2 : World} {N : Nat} {z : Int} (h : NumBox w N z w1) (hb : Below w1.heap.size w1 w2) : NumBox w N z w2 := by
  obtain ⟨⟨x, y, h1, h2, h3⟩, h4⟩ := h
  exact ⟨⟨x, y, cell_later hb h1, cell_later hb h2, h3.below hb⟩, h4.call hb⟩
theorem NumBox.cells {w w1 : World} {N : Nat} {z : Int} (h : NumBox w N z w1) : ∃ nb np nl nc, w1.cell? ⟨N, 0, none⟩ = some (.bool nb) ∧ w1.cell? ⟨N, 1, none⟩ = some (.slice np nl nc) ∧ IsNum w1 (.agg #[.bool nb, .slice np nl nc]) z := by
  obtain ⟨⟨x, y, h1, h2, h3⟩, h4⟩ := h
  obtain ⟨nb, np, nl, nc, e⟩ := h3.shape
  simp only [Value.agg.injEq, Array.mk.injEq, List.cons.injEq, and_true] at e
  obtain ⟨rfl, rfl⟩ := e
  exact ⟨nb, np, nl, nc, h1, h2, h3⟩
theorem isNum_zero {w : World} : IsNum w (.agg #[.bool false, .slice none 0 0]) 0 := ⟨false, _, [], rfl, ⟨none, 0, rfl, by simp, .inl rfl⟩, Typed.none, Dig.nil, .inl rfl, (fun e => by cases e), rfl⟩
theorem q_sized (n : Nat) : (4294967296 : Int) ^ n ≤ 1000 ^ (4 * n) := by
  have : (4294967296 : Nat) ^ n ≤ (1000 ^ 4) ^ n := Nat.pow_le_pow_left (by decide) n
  rw [← Nat.pow_mul] at this
  have e1 : ((4294967296 ^ n : Nat) : Int) = (4294967296 : Int) ^ n := by simp
  have e2 : ((1000 ^ (4 * n) : Nat) : Int) = (1000 : Int) ^ (4 * n) := by simp
  omega
theorem sized_words {z : Int} {n : Nat} (h0 : 0 ≤ z) (h1 : z < 4294967296 ^ n) : Sized (4 * n) z := by
  have := q_sized n
  have := p_pos (4 * n)
  unfold Sized
  omega
theorem sized_word {x : Int} (h0 : 0 ≤ x) (h1 : x ≤ 4294967296) (n : Nat) : Sized (4 * n + 4) x := by
  have h2 := p_mono (m := 4) (n := 4 * n + 4) (by omega)
  have e : (1000 : Int) ^ 4 = 1000000000000 := by decide
  unfold Sized
  omega
theorem drop_val {a : List Int} {n : Nat} (hn : n < a.length) (x : Int) (hx : a.getD n 0 = x) : wv (a.drop n) = wv (a.drop (n + 1)) * 4294967296 + x := by
  have := wv_head (a := a.drop n) (by rw [List.length_drop]; omega)
  have e : (a.drop n).getD 0 0 = x := by rw [← hx]; simp [List.getD]
  rw [this, e, List.drop_drop]; omega
theorem drop_lt {a : List Int} (hd : Wd a) (n : Nat) : 0 ≤ wv (a.drop n) ∧ wv (a.drop n) < 4294967296 ^ a.length := by
  have h1 := wv_range (hd.drop n)
  have h2 := q_mono (m := (a.drop n).length) (n := a.length) (by rw [List.length_drop]; omega)
  omega
set_option maxHeartbeats 2000000 in
theorem num_words (v : Value) (a : List Int) (w : World) (hv : WList w v a) (la : a.length ≤ 1000000) :
    Calls Tryz.prog 56 #[v] w (MadeNum w (wv a)) := by
  have HV := Lib.hid hv
  obtain ⟨p, c, rfl⟩ := hv.shape
  clear hv
  have HR0 := Lib.hid (And.intro ((Kept.start w (.bool false) (.slice none 0 0) 89).call (below_one _ (.cells #[.bool false, .slice none 0 0] 89)))
    (And.intro (⟨_, _, by simp [go_sem], by simp [go_sem], isNum_zero⟩ : ∃ x y, ((w.alloc (.cells #[.bool false, .slice none 0 0] 89)).alloc (.cells #[.bool false, .slice none 0 0] 89)).cell? ⟨w.heap.size + 1, 0, none⟩ = some x ∧ ((w.alloc (.cells #[.bool false, .slice none 0 0] 89)).alloc (.cells #[.bool false, .slice none 0 0] 89)).cell? ⟨w.heap.size + 1, 1, none⟩ = some y ∧ IsNum ((w.alloc (.cells #[.bool false, .slice none 0 0] 89)).alloc (.cells #[.bool false, .slice none 0 0] 89)) (.agg #[x, y]) 0)
      (by have := Kept.start (w.alloc (.cells #[.bool false, .slice none 0 0] 89)) (.bool false) (.slice none 0 0) 89; simp only [World.size_alloc] at this; exact this.down (below_one w _))))
  go_enter Tryz.func56, Tryz.ntmps56
  go_wp2_with fail
  go_loopw [4] (fun i wr => ∃ (m : Nat) (z : Int), Hid (z = (m : Int) - 1) ∧ -1 ≤ z ∧ z ≤ 1000000 ∧ m ≤ a.length ∧ i = .int .i64 z ∧ Hid (Kept w w.heap.size 89 wr ∧ NumBox w (w.heap.size + 1) (wv (a.drop m)) wr)) (fun i _ => (intOf i + 1).toNat)
  case atStart => exact ⟨a.length, _, Lib.hid rfl, by omega, by omega, Nat.le_refl _, rfl, Lib.hid ⟨HR0.out.1, by rw [List.drop_length]; exact HR0.out.2.1, HR0.out.2.2⟩⟩
  case round =>
    obtain ⟨m, z, hz, hz1, hz2, hm, rfl, hS⟩ := hrel
    clear HR0
    by_cases h0 : 0 ≤ z
    · obtain ⟨n, rfl⟩ : ∃ n, m = n + 1 := ⟨m - 1, by have := hz.out; omega⟩
      have hzn : z = (n : Int) := by have := hz.out; omega
      clear hz
      subst hzn
      obtain ⟨nb, np, nl, nc, hx, hy, hnum⟩ := hS.out.2.cells
      obtain ⟨b1, o1, hp1, hb1, hc⟩ := HV.out.1.cell (i := n) hm
      subst hp1
      have hc := cell_later hS.out.1.1 hc
      have hi0 : (0 : Int) ≤ (n : Int) := by omega
      have hi1 : (n : Int) < (a.length : Int) := by omega
      have dx := HV.out.2.1.getD n
      have hdv := Lib.hid (fun (x : Int) (hx : a.getD n 0 = x) => drop_val hm x hx)
      have hr1 := drop_lt HV.out.2.1 n
      have hr2 := drop_lt HV.out.2.1 (n + 1)
      generalize a.getD n 0 = x at *
      have hdv2 := Lib.hid (hdv.out x rfl)
      clear hdv
      have e6 : IntKind.u64.wrap x = x := by rw [IntKind.wrap_u64]; omega
      have HRg := Lib.hid (And.intro hr1 hr2)
      generalize wv (a.drop (n + 1)) = H at *
      have HN := Lib.hid hnum
      have HM := Lib.hid (fun w1 q (hb : Below wr.heap.size wr w1) (hq : IsNum w1 q 4294967296) => num_mul _ q H 4294967296 (4 * a.length + 4) w1 (HN.out.below hb) hq ((sized_words HRg.out.2.1 HRg.out.2.2).mono (by omega)) (sized_word (by decide) (by decide) _) (by omega))
      have HA := Lib.hid (fun w1 q y (hq : IsNum w1 q (H * 4294967296)) (hy : IsNum w1 y x) => num_add q y (H * 4294967296) x (4 * a.length + 4) w1 hq hy ((sized_words (n := a.length) (by have := HRg.out.2.1; omega) (by have := hdv2.out; have := HRg.out.1.2; omega)).mono (by omega)) (sized_word dx.1 (by omega) _) (by omega))
      obtain ⟨x0, x1⟩ := dx
      clear hnum hr1 hr2 hb1
      go_wp2_with fail
      go_region_with (first
        | (go_at_call_of 105 (4294967296 : Int); refine (nat_any 4294967296 _ (by decide) (by decide)).mono ?_; rintro e w1 ⟨q, rfl, hq, hb1⟩; replace hb1 := below_drew' hb1; have hx1 := cell_later hb1 hx; have hy1 := cell_later hb1 hy; have hc1 := cell_later hb1 hc)
        | (go_at_call 44; refine (HM.out _ _ hb1 hq).mono ?_; rintro e w2 ⟨mm, rfl, hmm, hb2⟩; have hc2 := cell_later hb2 hc1)
        | (go_at_call 105; refine (nat_any x _ x0 (by omega)).mono ?_; rintro e w3 ⟨y, rfl, hyy, hb3⟩)
        | (go_at_call 55; refine (HA.out _ _ _ (hmm.below hb3) hyy).mono ?_; rintro e w4 ⟨r, rfl, hr, hb4⟩; have hb14 := hb1.trans ((hb2.trans ((hb3.trans (hb4.mono hb3.size)).mono hb2.size)).mono hb1.size); have hk4 := hS.out.2.2.call hb14; have hR4 := hS.out.1.call hb14; obtain ⟨rn, rp, rl, rc, rfl⟩ := hr.shape; obtain ⟨⟨x2, hx2⟩, ⟨y2, hy2⟩, hf1, hf2⟩ := hk4.cells))
      all_goals
        have hB := Lib.hid (box_store hk4 hr)
        have hR5 := Lib.hid (hR4.far (N := w.heap.size + 1) (by omega) (by omega) (.bool rn) (.slice rp rl rc))
        rw [← hdv2.out] at hB
        clear hk4 hR4 hr hb14 hb1 hb2 hb3 hb4 hq hmm hyy hx1 hy1 hc1 hc2 hx2 hy2 hf1 hf2 hx hy hc HM HA HN hS HRg
        go_wp2_with fail
        go_roundw
        case rel => exact ⟨n, _, Lib.hid rfl, by omega, by omega, by omega, by go_num, Lib.hid ⟨hR5.out, hB.out⟩⟩
        case measure => simp [intOf]
    · obtain rfl : m = 0 := by have := hz.out; omega
      obtain ⟨nb, np, nl, nc, hx, hy, hnum⟩ := hS.out.2.cells
      rw [List.drop_zero] at hnum
      have hk := hS.out.1
      obtain ⟨⟨x1, hx1⟩, ⟨y1, hy1⟩, hf1, hf2⟩ := hk.cells
      have hN := Lib.hid (hk.num hnum)
      have hE := Lib.hid ((hk.store (.bool nb) (.slice np nl nc)).1)
      clear hS hnum hk
      go_wp2_with fail
      exact bodyPost_ret (v := .agg #[.bool nb, .slice np nl nc]) (by simp [results, Tryz.results56, go_sem, hx1, hy1]) rfl ⟨_, rfl, hN.out, hE.out⟩
end Go.Proofs.YtigikgphipebiaaGreatDoor
/- The reference of layer 2: is a list the trim one of a number; how many bits; powers of two. -/
namespace Go.Proofs.YtigikgphipebiaaGreatDoor
set_option maxRecDepth 100000
open Go.RowKit
set_option linter.unusedVariables false
set_option maxHeartbeats 1000000 in
theorem two_num (n : Int) (N : Nat) (hn : Hid (n = (N : Int))) (w : World) (hN : N ≤ 1000000) : Calls Tryz.prog 126 #[.int .i64 n] w (MadeNum w (2 ^ N)) := by
  have hk0 := Lib.hid (Kept.start w (.bool false) (.slice none 0 0) 89)
  go_enter Tryz.func126, Tryz.ntmps126
  go_wp2_with fail
  refine (nat_any 2 _ (by decide) (by decide)).mono ?_; rintro e w1 ⟨q, rfl, hq, hb1⟩
  have HP := Lib.hid (num_power 8 N q 2 n N w1 (Nat.le_refl _) hn (by omega) (by omega) hq (sized8 (by decide) (by decide)))
  have HK := Lib.hid (hk0.out.call hb1)
  clear hk0 hb1 hq
  go_wp2_with fail
  refine (HP.out).mono ?_; rintro e w2 ⟨r, rfl, hr, hb2⟩
  have hk := HK.out.call hb2
  obtain ⟨rn, rp, rl, rc, rfl⟩ := hr.shape
  obtain ⟨⟨x1, hx1⟩, ⟨y1, hy1⟩, hf1, hf2⟩ := hk.cells
  have hN2 := hk.num hr
  have hE := (hk.store (.bool rn) (.slice rp rl rc)).1
  clear hk hr hb2 HK HP
  go_wp2_with fail
  exact bodyPost_ret (v := .agg #[.bool rn, .slice rp rl rc]) (by simp [results, Tryz.results126, go_sem, hx1, hy1]) rfl ⟨_, rfl, hN2, hE⟩
end Go.Proofs.YtigikgphipebiaaGreatDoor
