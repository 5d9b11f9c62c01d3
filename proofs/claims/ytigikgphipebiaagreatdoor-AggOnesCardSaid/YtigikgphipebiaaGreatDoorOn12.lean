/- Contracts that the law leans on, pruned and merged: Natr Div Divw Natx. -/
import Derived.Deep.LoopGhost
import Derived.Deep.RegionLaw
import Derived.Test.YtigikgphipebiaaGreatDoorOn04
import Derived.Test.YtigikgphipebiaaGreatDoorOn11
/- What Root of package nat returns, where Div answers as it should. -/
namespace Go.Proofs.YtigikgphipebiaaGreatDoor
set_option maxRecDepth 100000
open Go.RowKit
set_option linter.unusedVariables false
/-- Nothing but block g has changed. -/
def Only (g : Nat) (w w' : World) : Prop := w'.os = w.os ∧ w'.tape = w.tape ∧ w'.output = w.output ∧ w'.heap.size = w.heap.size ∧ ∀ k, k ≠ g → w'.heap[k]? = w.heap[k]?
theorem Only.refl (g : Nat) (w : World) : Only g w w := ⟨rfl, rfl, rfl, rfl, fun _ _ => rfl⟩
theorem Only.below {g B : Nat} {w w' : World} (h : Only g w w') (hB : B ≤ g) : Below B w w' := ⟨h.1, h.2.1, h.2.2.1, by rw [h.2.2.2.1]; exact Nat.le_refl _, fun k hk => h.2.2.2.2 k (by omega)⟩
theorem Only.drewN {g : Nat} {w w' : World} (h : Only g w w') (n : Nat) : Only g w (w'.drewN n) := by
  have hb := below_drewN (Below.refl w'.heap.size w') n
  refine ⟨hb.os.trans h.1, hb.tape.trans h.2.1, hb.output.trans h.2.2.1, ?_, fun k hk => ?_⟩
  · show (w'.drewN n).heap.size = _
    rw [show (w'.drewN n).heap = w'.heap from World.heap_drewN _ _]; exact h.2.2.2.1
  · rw [show (w'.drewN n).heap = w'.heap from World.heap_drewN _ _]; exact h.2.2.2.2 k hk
theorem Only.set {g : Nat} {w w' : World} (h : Only g w w') (j : Nat) (x : Value) : Only g w (w'.setCell ⟨g, j, none⟩ x) := by
  have hb := (Below.refl 0 w').setCell (p := ⟨g, j, none⟩) (Nat.zero_le _) x
  refine ⟨hb.os.trans h.1, hb.tape.trans h.2.1, hb.output.trans h.2.2.1, ?_, fun k hk => ?_⟩
  · rw [← h.2.2.2.1]; simp [World.setCell]
  · rw [Below.heap_setCell _ _ _ _ (by simpa using hk)]; exact h.2.2.2.2 k hk
theorem Only.row {g B E : Nat} {w w' : World} {v : Value} {n : Nat} {xs : List Value} (h : Only g w w') (hr : w.ownsRow B E 1 v n xs) (hne : v.ownBlock ≠ some g) : w'.ownsRow B E 1 v n xs := by
  obtain ⟨h1, h2⟩ := hr
  refine ⟨h1, ?_⟩
  rcases h2 with h2 | ⟨g', cap, cur, rfl, q1, q2, q3⟩
  · exact .inl h2
  · refine .inr ⟨g', cap, cur, rfl, q1, ?_, q3⟩
    rw [h.2.2.2.2 g' (by intro e; subst e; exact hne rfl)]; exact q2
def WDivRel (a : List Int) (d : Int) (m : Nat) (out : List Int) (r : Int) : Prop :=
  ∃ X Y, wv a = wvN a m + 4294967296 ^ m * X ∧ wv out = wvN a m + 4294967296 ^ m * Y ∧ X = d * Y + r ∧ 0 ≤ r ∧ r < d ∧ Wd out ∧ out.length = a.length ∧ ∀ j, j < m → out.getD j 0 = a.getD j 0
theorem WDivRel.start {a : List Int} {d : Int} (ha : Wd a) (hd : 0 < d) : WDivRel a d a.length a 0 :=
  ⟨0, 0, by simp [wv], by simp [wv], by simp, by omega, hd, ha, rfl, fun _ _ => rfl⟩
theorem WDivRel.step {a out : List Int} {d r : Int} {m : Nat} (h : WDivRel a d (m + 1) out r) (hm : m < a.length) (hd : d ≤ 4294967295) (y : Int) (hy : out.getD m 0 = y) :
    WDivRel a d m (out.set m ((r * 4294967296 + y) / d)) ((r * 4294967296 + y) % d) := by
  obtain ⟨X, Y, e1, e2, e3, e4, e5, e6, e7, e8⟩ := h
  have hya := e8 m (by omega)
  have hyr := e6.getD m
  rw [hy] at hya hyr
  obtain ⟨q0, q1, r0, r1⟩ := div_word_bounds e4 e5 hyr.1 hyr.2 hd
  have hde := Int.emod_add_mul_ediv (r * 4294967296 + y) d
  generalize (r * 4294967296 + y) / d = q at *
  generalize (r * 4294967296 + y) % d = s at *
  refine ⟨y + 4294967296 * X, q + 4294967296 * Y, ?_, ?_, ?_, r0, r1, e6.set q0 q1, by simpa using e7, fun j hj => ?_⟩
  · rw [e1, wvN, ← hya, q_succ, Int.mul_add, Int.mul_comm y, Int.mul_assoc]; omega
  · rw [wv_set (by omega), e2, wvN, ← hya, hy, q_succ, Int.mul_add, Int.sub_mul, Int.mul_comm y, Int.mul_comm q, Int.mul_assoc]; omega
  · rw [e3]
    have k1 : 4294967296 * (d * Y + r) = d * (4294967296 * Y) + r * 4294967296 := by
      rw [Int.mul_add, ← Int.mul_assoc, Int.mul_comm 4294967296 d, Int.mul_assoc, Int.mul_comm 4294967296 r]
    have k2 : d * (q + 4294967296 * Y) = d * q + d * (4294967296 * Y) := Int.mul_add _ _ _
    omega
  · rw [getD_set_other (by omega)]; exact e8 j (by omega)
theorem WDivRel.stop {a out : List Int} {d r : Int} (h : WDivRel a d 0 out r) : wv out = wv a / d ∧ r = wv a % d ∧ Wd out ∧ out.length = a.length := by
  obtain ⟨X, Y, e1, e2, e3, e4, e5, e6, e7, e8⟩ := h
  simp [wvN] at e1 e2
  have := (Int.ediv_emod_unique (a := wv a) (b := d) (r := r) (q := wv out) (by omega)).2 ⟨by rw [e1, e2, e3]; omega, e4, e5⟩
  exact ⟨this.1.symm, this.2.symm, e6, e7⟩
set_option maxRecDepth 100000
open Go.RowKit
set_option linter.unusedVariables false
theorem IsNat.own {w : World} {B : Nat} {v : Value} {a : List Int} (h : w.ownsRow B 27 1 v a.length (a.map (Value.int .u32))) (hd : Wd a) (ht : Tidy a) (hl : a.length ≤ 1099511627776) : IsNat w v (wv a) := ⟨a, own_wlist h hd hl, ht, rfl⟩
set_option maxRecDepth 100000
open Go.RowKit
set_option linter.unusedVariables false
theorem bits_lt {z : Int} (h0 : 0 < z) : z < 2 ^ bitsZ z := by
  obtain ⟨Z, rfl⟩ := Int.eq_ofNat_of_zero_le (Int.le_of_lt h0)
  have hz : (Z : Int) ≠ 0 := by omega
  rw [bitsZ, if_neg hz, Int.toNat_natCast]
  have := Nat.lt_log2_self (n := Z)
  have e : ((2 ^ (Nat.log2 Z + 1) : Nat) : Int) = (2 : Int) ^ (Nat.log2 Z + 1) := by simp
  omega
theorem bits_le {z : Int} (h0 : 0 < z) : 2 ^ (bitsZ z - 1) ≤ z := by
  obtain ⟨Z, rfl⟩ := Int.eq_ofNat_of_zero_le (Int.le_of_lt h0)
  have hz : (Z : Int) ≠ 0 := by omega
  rw [bitsZ, if_neg hz, Int.toNat_natCast, Nat.add_sub_cancel]
  have := Nat.log2_self_le (n := Z) (by omega)
  have e : ((2 ^ Nat.log2 Z : Nat) : Int) = (2 : Int) ^ Nat.log2 Z := by simp
  omega
theorem pow2_mono {m n : Nat} (h : m ≤ n) : (2 : Int) ^ m ≤ 2 ^ n := by
  have := Nat.pow_le_pow_right (n := 2) (by decide) h
  have e1 : ((2 ^ m : Nat) : Int) = (2 : Int) ^ m := by simp
  have e2 : ((2 ^ n : Nat) : Int) = (2 : Int) ^ n := by simp
  omega
theorem bitsZ_pos {z : Int} (h0 : 0 < z) : 0 < bitsZ z := by
  rw [bitsZ, if_neg (by omega)]; omega
end Go.Proofs.YtigikgphipebiaaGreatDoor
/- The quotient of the reference's numbers: long division. -/
namespace Go.Proofs.YtigikgphipebiaaGreatDoor
set_option maxRecDepth 100000
open Go.RowKit
/-- Where the digits of a number lie: not below lo. -/
def From (lo : Nat) (t : Value) : Prop := ∀ b off l c, t = .slice (some ⟨b, off, none⟩) l c → lo ≤ b
/-- What stands while the loops run: the boxes, the divisor's variable, the blocks of the results; the remainder's variable; the quotient's row. -/
def DivFix (w : World) (R : Nat) (a0 a1 b0 b1 : Value) (wr : World) : Prop :=
  wr.heap[w.heap.size]? = some (.cells #[a0, a1] 89 (0, 0)) ∧ wr.heap[w.heap.size + 1]? = some (.cells #[b0, b1] 89 (0, 0)) ∧
  (∃ x y, wr.heap[w.heap.size + 1 + 1]? = some (.cells #[x, y] 89 (0, 0))) ∧ (∃ x y, wr.heap[w.heap.size + 1 + 1 + 1]? = some (.cells #[x, y] 89 (0, 0))) ∧
  wr.heap[R + 1]? = some (.cells #[.bool false, b1] 89 (0, 0)) ∧ Below w.heap.size w wr ∧ w.heap.size + 1 + 1 + 1 + 1 + 1 ≤ R
def DivState (w : World) (R : Nat) (a0 a1 b0 b1 : Value) (q : List Int) (r : Int) (lo : Nat) (wr : World) : Prop :=
  DivFix w R a0 a1 b0 b1 wr ∧ (∃ u t, wr.heap[R]? = some (.cells #[u, t] 89 (0, 0)) ∧ IsNum wr (.agg #[u, t]) r ∧ From lo t) ∧
  wr.ownsRow (w.heap.size + 1 + 1 + 1 + 1) 3 1 (.slice (some ⟨w.heap.size + 1 + 1 + 1 + 1, 0, none⟩) q.length q.length) q.length (q.map (Value.int .i64))
theorem block_lt {w : World} {k : Nat} {o : Obj} (h : w.heap[k]? = some o) : k < w.heap.size := (Array.getElem?_eq_some_iff.1 h).1
theorem DivFix.call {w w1 w2 : World} {R : Nat} {a0 a1 b0 b1 : Value} (h : DivFix w R a0 a1 b0 b1 w1) (hb : Below w1.heap.size w1 w2) : DivFix w R a0 a1 b0 b1 w2 := by
  obtain ⟨h1, h2, ⟨x, y, h3⟩, ⟨x', y', h4⟩, h5, h6, hR⟩ := h
  exact ⟨by rw [hb.block _ (block_lt h1)]; exact h1, by rw [hb.block _ (block_lt h2)]; exact h2, ⟨x, y, by rw [hb.block _ (block_lt h3)]; exact h3⟩, ⟨x', y', by rw [hb.block _ (block_lt h4)]; exact h4⟩, by rw [hb.block _ (block_lt h5)]; exact h5, h6.trans (hb.mono h6.size), hR⟩
theorem own_below {w w' : World} {B E : Nat} {v : Value} {n : Nat} {xs : List Value} (h : w.ownsRow B E 1 v n xs) (hb : Below w.heap.size w w') : w'.ownsRow B E 1 v n xs := by
  obtain ⟨hl, h⟩ := h
  refine ⟨hl, ?_⟩
  rcases h with h | ⟨g, cap, cur, h1, h2, h3, h4⟩
  · exact .inl h
  · exact .inr ⟨g, cap, cur, h1, h2, by rw [hb.block g (block_lt h3)]; exact h3, h4⟩
theorem DivState.call {w w1 w2 : World} {R : Nat} {a0 a1 b0 b1 : Value} {q : List Int} {r : Int} {lo : Nat} (h : DivState w R a0 a1 b0 b1 q r lo w1) (hb : Below w1.heap.size w1 w2) : DivState w R a0 a1 b0 b1 q r lo w2 := by
  obtain ⟨h1, ⟨u, t, h2, h3, h4⟩, h5⟩ := h
  exact ⟨h1.call hb, ⟨u, t, by rw [hb.block _ (block_lt h2)]; exact h2, h3.below hb, h4⟩, own_below h5 hb⟩
theorem DivState.drew {w w1 : World} {R : Nat} {a0 a1 b0 b1 : Value} {q : List Int} {r : Int} {lo : Nat} (h : DivState w R a0 a1 b0 b1 q r lo w1) : DivState w R a0 a1 b0 b1 q r lo w1.drew := h.call (Below.refl _ _).drew
theorem DivFix.set {w w1 : World} {R : Nat} {a0 a1 b0 b1 : Value} (h : DivFix w R a0 a1 b0 b1 w1) (k : Nat) (hk : k = w.heap.size + 1 + 1 + 1 + 1 ∨ k = R) (j : Nat) (x : Value) : DivFix w R a0 a1 b0 b1 (w1.setCell ⟨k, j, none⟩ x) := by
  obtain ⟨h1, h2, ⟨x', y, h3⟩, ⟨x'', y', h4⟩, h5, h6, hR⟩ := h
  refine ⟨?_, ?_, ⟨x', y, ?_⟩, ⟨x'', y', ?_⟩, ?_, h6.setCell (by simp; omega) _, hR⟩
  all_goals rw [Below.heap_setCell _ _ _ _ (by simp; omega)]; assumption
theorem cells_of {w : World} {k : Nat} {x y : Value} {T : TypeId} (h : w.heap[k]? = some (.cells #[x, y] T (0, 0))) : w.cell? ⟨k, 0, none⟩ = some x ∧ w.cell? ⟨k, 1, none⟩ = some y ∧ w.frozen? ⟨k, 0, none⟩ = false ∧ w.frozen? ⟨k, 1, none⟩ = false :=
  ⟨by simp [World.cell?, h], by simp [World.cell?, h], by simp [World.frozen?, h], by simp [World.frozen?, h]⟩
end Go.Proofs.YtigikgphipebiaaGreatDoor
/- The walk of the reference's quotient. -/
namespace Go.Proofs.YtigikgphipebiaaGreatDoor
set_option maxRecDepth 100000
open Go.RowKit
theorem DivState.facts {w wr : World} {R : Nat} {a0 a1 b0 b1 : Value} {q : List Int} {r : Int} {lo : Nat} (h : DivState w R a0 a1 b0 b1 q r lo wr) :
    wr.cell? ⟨w.heap.size, 0, none⟩ = some a0 ∧ wr.cell? ⟨w.heap.size, 1, none⟩ = some a1 ∧ wr.cell? ⟨w.heap.size + 1, 0, none⟩ = some b0 ∧ wr.cell? ⟨w.heap.size + 1, 1, none⟩ = some b1 ∧
    wr.cell? ⟨R + 1, 0, none⟩ = some (.bool false) ∧ wr.cell? ⟨R + 1, 1, none⟩ = some b1 ∧ Below w.heap.size w wr ∧ R + 1 < wr.heap.size ∧
    (∃ u t, wr.cell? ⟨R, 0, none⟩ = some u ∧ wr.cell? ⟨R, 1, none⟩ = some t ∧ wr.frozen? ⟨R, 0, none⟩ = false ∧ wr.frozen? ⟨R, 1, none⟩ = false ∧ IsNum wr (.agg #[u, t]) r) := by
  obtain ⟨⟨h1, h2, _, _, h5, h6, _⟩, ⟨u, t, h7, h8, _⟩, _⟩ := h
  obtain ⟨a1, a2, -, -⟩ := cells_of h1
  obtain ⟨b1, b2, -, -⟩ := cells_of h2
  obtain ⟨d1, d2, -, -⟩ := cells_of h5
  obtain ⟨r1, r2, r3, r4⟩ := cells_of h7
  exact ⟨a1, a2, b1, b2, d1, d2, h6, block_lt h5, u, t, r1, r2, r3, r4, h8⟩
theorem From.same {lo : Nat} {a : Option Addr} {l c l' c' : Nat} (h : From lo (.slice a l c)) : From lo (.slice a l' c') := fun b off m d e => by
  simp only [Value.slice.injEq] at e
  exact h b off l c (by rw [e.1])
theorem DivState.low {w wr : World} {R : Nat} {a0 a1 b0 b1 : Value} {q : List Int} {r : Int} {lo : Nat} (h : DivState w R a0 a1 b0 b1 q r lo wr) : DivState w R a0 a1 b0 b1 q r 0 wr := by
  obtain ⟨h1, ⟨u, t, h2, h3, h4⟩, h5⟩ := h
  exact ⟨h1, ⟨u, t, h2, h3, fun b off l c e => by omega⟩, h5⟩
/-- Four cells of two variables, read. -/
def Four (R : Nat) (a b c d : Value) (w' : World) : Prop := w'.cell? ⟨R, 0, none⟩ = some a ∧ w'.cell? ⟨R, 1, none⟩ = some b ∧ w'.cell? ⟨R + 1, 0, none⟩ = some c ∧ w'.cell? ⟨R + 1, 1, none⟩ = some d
theorem Four.call {R : Nat} {a b c d : Value} {w1 w2 : World} (h : Four R a b c d w1) (hb : Below w1.heap.size w1 w2) : Four R a b c d w2 := ⟨cell_later hb h.1, cell_later hb h.2.1, cell_later hb h.2.2.1, cell_later hb h.2.2.2⟩
/-- What is read by the last statement. -/
abbrev Six (X N : Nat) (z0 z1 a0 a1 b0 b1 : Value) (w' : World) : Prop :=
  w'.cell? ⟨X, 0, none⟩ = some z0 ∧ w'.cell? ⟨X, 1, none⟩ = some z1 ∧ w'.cell? ⟨N, 0, none⟩ = some a0 ∧ w'.cell? ⟨N, 1, none⟩ = some a1 ∧ w'.cell? ⟨N + 1, 0, none⟩ = some b0 ∧ w'.cell? ⟨N + 1, 1, none⟩ = some b1
theorem Six.call {X N : Nat} {z0 z1 a0 a1 b0 b1 : Value} {w1 w2 : World} (h : Six X N z0 z1 a0 a1 b0 b1 w1) (hb : Below w1.heap.size w1 w2) : Six X N z0 z1 a0 a1 b0 b1 w2 :=
  ⟨cell_later hb h.1, cell_later hb h.2.1, cell_later hb h.2.2.1, cell_later hb h.2.2.2.1, cell_later hb h.2.2.2.2.1, cell_later hb h.2.2.2.2.2⟩
theorem Six.store {X N M : Nat} {z0 z1 a0 a1 b0 b1 : Value} {w1 : World} (h : Six X N z0 z1 a0 a1 b0 b1 w1) (h1 : M ≠ X) (h2 : M ≠ N) (h3 : M ≠ N + 1) (u v : Value) : Six X N z0 z1 a0 a1 b0 b1 ((w1.setCell ⟨M, 0, none⟩ u).setCell ⟨M, 1, none⟩ v) := by
  obtain ⟨q1, q2, q3, q4, q5, q6⟩ := h
  refine ⟨?_, ?_, ?_, ?_, ?_, ?_⟩
  · rw [World.cell?_setCell_far _ _ _ _ h1, World.cell?_setCell_far _ _ _ _ h1]; exact q1
  · rw [World.cell?_setCell_far _ _ _ _ h1, World.cell?_setCell_far _ _ _ _ h1]; exact q2
  · rw [World.cell?_setCell_far _ _ _ _ h2, World.cell?_setCell_far _ _ _ _ h2]; exact q3
  · rw [World.cell?_setCell_far _ _ _ _ h2, World.cell?_setCell_far _ _ _ _ h2]; exact q4
  · rw [World.cell?_setCell_far _ _ _ _ h3, World.cell?_setCell_far _ _ _ _ h3]; exact q5
  · rw [World.cell?_setCell_far _ _ _ _ h3, World.cell?_setCell_far _ _ _ _ h3]; exact q6
end Go.Proofs.YtigikgphipebiaaGreatDoor
/- Digits of base 1000 divided by 2^32, again and again: plain facts for Of of package bushelref02. -/
namespace Go.Proofs.YtigikgphipebiaaGreatDoor
set_option maxRecDepth 100000
open Go.RowKit
/-- The digits from m on are divided. -/
def DDivRel (a : List Int) (m : Nat) (out : List Int) (r : Int) : Prop :=
  ∃ X Y, val a = valN a m + 1000 ^ m * X ∧ val out = valN a m + 1000 ^ m * Y ∧ X = 4294967296 * Y + r ∧ 0 ≤ r ∧ r < 4294967296 ∧ Dig out ∧ out.length = a.length ∧ ∀ j, j < m → out.getD j 0 = a.getD j 0
theorem DDivRel.start {a : List Int} (ha : Dig a) : DDivRel a a.length a 0 :=
  ⟨0, 0, by simp [val], by simp [val], by simp, by omega, by omega, ha, rfl, fun _ _ => rfl⟩
theorem DDivRel.step {a out : List Int} {r : Int} {m : Nat} (h : DDivRel a (m + 1) out r) (hm : m < a.length) (y : Int) (hy : out.getD m 0 = y) :
    DDivRel a m (out.set m ((r * 1000 + y) / 4294967296)) ((r * 1000 + y) % 4294967296) := by
  obtain ⟨X, Y, e1, e2, e3, e4, e5, e6, e7, e8⟩ := h
  have hya := e8 m (by omega)
  have hyr := e6.getD m
  rw [hy] at hya hyr
  have q0 : 0 ≤ (r * 1000 + y) / 4294967296 := by omega
  have q1 : (r * 1000 + y) / 4294967296 ≤ 999 := by omega
  have r0 : 0 ≤ (r * 1000 + y) % 4294967296 := by omega
  have r1 : (r * 1000 + y) % 4294967296 < 4294967296 := by omega
  have hde := Int.emod_add_mul_ediv (r * 1000 + y) 4294967296
  generalize (r * 1000 + y) / 4294967296 = q at *
  generalize (r * 1000 + y) % 4294967296 = s at *
  refine ⟨y + 1000 * X, q + 1000 * Y, ?_, ?_, ?_, r0, r1, e6.set q0 q1, by simpa using e7, fun j hj => ?_⟩
  · rw [e1, valN, ← hya, p_succ, Int.mul_add, Int.mul_comm y, Int.mul_assoc]; omega
  · rw [val_set (by omega), e2, valN, ← hya, hy, p_succ, Int.mul_add, Int.sub_mul, Int.mul_comm y, Int.mul_comm q, Int.mul_assoc]; omega
  · omega
  · rw [getD_set_other (by omega)]; exact e8 j (by omega)
theorem DDivRel.stop {a out : List Int} {r : Int} (h : DDivRel a 0 out r) : val out = val a / 4294967296 ∧ r = val a % 4294967296 ∧ Dig out ∧ out.length = a.length := by
  obtain ⟨X, Y, e1, e2, e3, e4, e5, e6, e7, e8⟩ := h
  simp [valN] at e1 e2
  exact ⟨by omega, by omega, e6, e7⟩
/-- The words that are out, and the digits that are left. -/
def OfRel (z : Int) (out ds : List Int) : Prop := z = wv out + 4294967296 ^ out.length * val ds ∧ Wd out ∧ Dig ds ∧ Tidy ds ∧ (ds = [] → Tidy out)
theorem OfRel.start {z : Int} {ds : List Int} (hz : z = val ds) (hd : Dig ds) (ht : Tidy ds) : OfRel z [] ds := ⟨by simp [wv_nil, hz], Wd.nil, hd, ht, fun _ => .inl rfl⟩
theorem OfRel.next {z : Int} {out ds ds' : List Int} (h : OfRel z out ds) (hne : ds ≠ []) (hv : val ds' = val ds / 4294967296) (hd : Dig ds') (ht : Tidy ds') : OfRel z (out ++ [val ds % 4294967296]) ds' := by
  obtain ⟨h1, h2, h3, h4, h5⟩ := h
  have hr0 := Int.emod_nonneg (val ds) (show (4294967296 : Int) ≠ 0 by decide)
  have hr1 := Int.emod_lt_of_pos (val ds) (show (0 : Int) < 4294967296 by decide)
  have hw := wv_snoc out (val ds % 4294967296)
  refine ⟨?_, ?_, hd, ht, fun e => ?_⟩
  · rw [hw, List.length_append, List.length_singleton, q_succ, hv, h1]
    generalize (4294967296 : Int) ^ out.length = P
    have k := Int.emod_add_mul_ediv (val ds) 4294967296
    have k2 : P * val ds = P * (val ds % 4294967296 + 4294967296 * (val ds / 4294967296)) := by rw [k]
    rw [k2, Int.mul_add, ← Int.mul_assoc, Int.mul_comm P (val ds % 4294967296)]
    omega
  · intro x hx
    rcases List.mem_append.1 hx with hx | hx
    · exact h2 x hx
    · simp at hx; omega
  · subst e
    have : val ds ≠ 0 := fun e0 => hne ((h4.zero h3).1 e0)
    rw [val_nil] at hv
    exact .inr (by simp [List.getD]; omega)
theorem OfRel.stop {z : Int} {out : List Int} (h : OfRel z out []) : wv out = z ∧ Wd out ∧ Tidy out := by
  obtain ⟨h1, h2, h3, h4, h5⟩ := h
  rw [val_nil] at h1
  exact ⟨by omega, h2, h5 rfl⟩
end Go.Proofs.YtigikgphipebiaaGreatDoor
