/- Contracts that the law leans on, pruned and merged: Longf Ratq Refs Refv. -/
import Derived.Deep.RegionWith
import Derived.Deep.QuietTactic
import Derived.BigQuiet
import Derived.Outline
import Derived.Deep.DeepCutAuto
import Derived.Deep.CutBlock
import Derived.Deep.RegionHeld3
import Derived.Test.YtigikgphipebiaaGreatDoorOn11
import Derived.Test.YtigikgphipebiaaGreatDoorOn12
import Derived.Test.YtigikgphipebiaaGreatDoorOn14
import Derived.Test.YtigikgphipebiaaGreatDoorOn15
/- What Div of package nat returns, of any two numbers. -/
namespace Go.Proofs.YtigikgphipebiaaGreatDoor
set_option maxRecDepth 100000
open Go.RowKit
set_option linter.unusedVariables false
/-- The number of m words from place k on. -/
def sgN (R : List Int) (k : Nat) : Nat → Int
  | 0 => 0
  | m + 1 => sgN R k m + R.getD (k + m) 0 * 4294967296 ^ m
theorem sgN_congr {R S : List Int} {k m : Nat} (h : ∀ i, i < m → R.getD (k + i) 0 = S.getD (k + i) 0) : sgN R k m = sgN S k m := by
  induction m with
  | zero => rfl
  | succ m ih => rw [sgN, sgN, ih (fun i hi => h i (by omega)), h m (by omega)]
theorem sgN_range {R : List Int} (h : Wd R) (k m : Nat) : 0 ≤ sgN R k m ∧ sgN R k m < 4294967296 ^ m := by
  induction m with
  | zero => simp [sgN]
  | succ m ih =>
    have hd := h.getD (k + m)
    have hp := q_pos m
    rw [sgN, q_succ]
    have h1 : 0 ≤ R.getD (k + m) 0 * 4294967296 ^ m := Int.mul_nonneg hd.1 (by omega)
    have h2 : R.getD (k + m) 0 * 4294967296 ^ m ≤ 4294967295 * 4294967296 ^ m := Int.mul_le_mul_of_nonneg_right hd.2 (by omega)
    omega
theorem wvN_seg (R : List Int) (k m : Nat) : wvN R (k + m) = wvN R k + 4294967296 ^ k * sgN R k m := by
  induction m with
  | zero => simp [sgN]
  | succ m ih =>
    rw [← Nat.add_assoc, wvN, ih, sgN, Int.mul_add, Int.pow_add]
    have : R.getD (k + m) 0 * (4294967296 ^ k * 4294967296 ^ m) = 4294967296 ^ k * (R.getD (k + m) 0 * 4294967296 ^ m) := by
      rw [← Int.mul_assoc, Int.mul_comm (R.getD (k + m) 0), Int.mul_assoc]
    omega
theorem sgN_set_low {R : List Int} {k i m : Nat} {x : Int} (h : m ≤ i) : sgN (R.set (k + i) x) k m = sgN R k m :=
  sgN_congr (fun j hj => getD_set_other (by omega))
theorem sgN_set_succ {R : List Int} {k i : Nat} {x : Int} (h : k + i < R.length) : sgN (R.set (k + i) x) k (i + 1) = sgN R k i + x * 4294967296 ^ i := by
  rw [sgN, sgN_set_low (Nat.le_refl _), getD_set_self h]
/-- Outside of m words from place k on nothing differs. -/
def Out (R S : List Int) (k m : Nat) : Prop := S.length = R.length ∧ ∀ j, j < k ∨ k + m ≤ j → S.getD j 0 = R.getD j 0
theorem Out.refl (R : List Int) (k m : Nat) : Out R R k m := ⟨rfl, fun _ _ => rfl⟩
theorem Out.set {R S : List Int} {k m i : Nat} {x : Int} (h : Out R S k m) (hi : i < m) : Out R (S.set (k + i) x) k m :=
  ⟨by simpa using h.1, fun j hj => by rw [getD_set_other (by omega)]; exact h.2 j hj⟩
theorem Out.trans {R S T : List Int} {k m : Nat} (h : Out R S k m) (g : Out S T k m) : Out R T k m := ⟨g.1.trans h.1, fun j hj => (g.2 j hj).trans (h.2 j hj)⟩
/-- digit times the divisor is taken from the words from place k on: i of them are done. -/
def TakeRel (R V : List Int) (k : Nat) (q : Int) (i : Nat) (S : List Int) (c b : Int) : Prop :=
  sgN S k i = sgN R k i - q * wvN V i + 4294967296 ^ i * (c + b) ∧ Wd S ∧ Out R S k (V.length + 1) ∧ (∀ j, k + i ≤ j → S.getD j 0 = R.getD j 0) ∧ 0 ≤ c ∧ c ≤ 4294967295 ∧ 0 ≤ b ∧ b ≤ 1
theorem TakeRel.start {R : List Int} (V : List Int) (k : Nat) (q : Int) (h : Wd R) : TakeRel R V k q 0 R 0 0 := ⟨by simp [sgN, wvN], h, Out.refl _ _ _, fun _ _ => rfl, by omega, by omega, by omega, by omega⟩
theorem prod_bounds {x y c : Int} (h1 : 0 ≤ x) (h2 : x ≤ 4294967295) (h3 : 0 ≤ y) (h4 : y ≤ 4294967295) (c0 : 0 ≤ c) (c1 : c ≤ 4294967295) : 0 ≤ c + x * y ∧ c + x * y ≤ 18446744069414584320 := by
  have h5 : 0 ≤ x * y := Int.mul_nonneg h1 h3
  have h6 : x * y ≤ 4294967295 * 4294967295 := Int.mul_le_mul h2 h4 h3 (by omega)
  omega
theorem TakeRel.step {R V S : List Int} {k i : Nat} {q c b : Int} (h : TakeRel R V k q i S c b) (hV : Wd V) (hi : i < V.length) (hk : k + V.length < R.length) (q0 : 0 ≤ q) (q1 : q ≤ 4294967295) (x v : Int) (hx : S.getD (k + i) 0 = x) (hv : V.getD i 0 = v) :
    TakeRel R V k q (i + 1) (S.set (k + i) ((x - (c + v * q) % 4294967296 - b) % 4294967296)) ((c + v * q) / 4294967296) (-((x - (c + v * q) % 4294967296 - b) / 4294967296)) := by
  obtain ⟨h1, h2, h3, h4, h5, h6, h7, h8⟩ := h
  have hxr := h2.getD (k + i)
  have hxR := h4 (k + i) (Nat.le_refl _)
  have hvr := hV.getD i
  rw [hx] at hxr hxR
  rw [hv] at hvr
  have hb := prod_bounds hvr.1 hvr.2 q0 q1 h5 h6
  refine ⟨?_, h2.set (by omega) (by omega), h3.set (by omega), fun j hj => ?_, by omega, by omega, by omega, by omega⟩
  · have hl : k + i < S.length := by rw [h3.1]; omega
    rw [sgN_set_succ hl, h1, sgN, ← hxR, wvN, hv, q_succ]
    generalize ht : c + v * q = t at *
    have e1 : t = t % 4294967296 + 4294967296 * (t / 4294967296) := by omega
    have e2 : x - t % 4294967296 - b = (x - t % 4294967296 - b) % 4294967296 + 4294967296 * ((x - t % 4294967296 - b) / 4294967296) := by omega
    generalize hlow : t % 4294967296 = low at *
    generalize hcc : t / 4294967296 = c' at *
    generalize hdd : (x - low - b) % 4294967296 = d at *
    generalize hbb : (x - low - b) / 4294967296 = bb at *
    generalize (4294967296 : Int) ^ i = P at *
    have k1 : P * 4294967296 * (c' + -bb) = P * (4294967296 * c' - 4294967296 * bb) := by rw [Int.mul_assoc, Int.mul_add, Int.mul_neg]; rfl
    have k2 : d = x - low - b - 4294967296 * bb := by omega
    have k3 : low = c + v * q - 4294967296 * c' := by omega
    have k4 : q * (wvN V i + v * P) = q * wvN V i + v * q * P := by rw [Int.mul_add, ← Int.mul_assoc, Int.mul_comm q v]
    rw [k1, k4, k2, k3]
    have k5 : (x - (c + v * q - 4294967296 * c') - b - 4294967296 * bb) * P = x * P - v * q * P - P * (c + b) + P * (4294967296 * c' - 4294967296 * bb) := by
      rw [show x - (c + v * q - 4294967296 * c') - b - 4294967296 * bb = x - v * q - (c + b) + (4294967296 * c' - 4294967296 * bb) from by omega, Int.add_mul, Int.sub_mul, Int.sub_mul, Int.mul_comm (c + b), Int.mul_comm (4294967296 * c' - 4294967296 * bb)]
    omega
  · rw [getD_set_other (by omega)]; exact h4 j (by omega)
theorem TakeRel.stop {R V S : List Int} {k : Nat} {q c b : Int} (h : TakeRel R V k q V.length S c b) (hk : k + V.length < R.length) (x : Int) (hx : S.getD (k + V.length) 0 = x) :
    sgN (S.set (k + V.length) ((x - c - b) % 4294967296)) k (V.length + 1) = sgN R k (V.length + 1) - q * wv V + 4294967296 ^ (V.length + 1) * (-((x - c - b) / 4294967296)) ∧
    Wd (S.set (k + V.length) ((x - c - b) % 4294967296)) ∧ Out R (S.set (k + V.length) ((x - c - b) % 4294967296)) k (V.length + 1) := by
  obtain ⟨h1, h2, h3, h4, h5, h6, h7, h8⟩ := h
  have hxR := h4 (k + V.length) (Nat.le_refl _)
  rw [hx] at hxR
  refine ⟨?_, h2.set (by omega) (by omega), h3.set (by omega)⟩
  have hl : k + V.length < S.length := by rw [h3.1]; omega
  rw [sgN_set_succ hl, h1, sgN, ← hxR, q_succ]
  have hw : wvN V V.length = wv V := rfl
  rw [hw]
  generalize (4294967296 : Int) ^ V.length = P at *
  have e2 : (x - c - b) % 4294967296 = x - c - b - 4294967296 * ((x - c - b) / 4294967296) := by omega
  rw [e2]
  generalize (x - c - b) / 4294967296 = bb at *
  have k1 : (x - c - b - 4294967296 * bb) * P = x * P - P * (c + b) + P * 4294967296 * -bb := by
    rw [show x - c - b - 4294967296 * bb = x - (c + b) + 4294967296 * -bb from by omega, Int.add_mul, Int.sub_mul]
    have k2 : P * (c + b) = (c + b) * P := Int.mul_comm _ _
    have k3 : P * 4294967296 * -bb = 4294967296 * -bb * P := by rw [Int.mul_comm P 4294967296, Int.mul_assoc, Int.mul_comm P (-bb), ← Int.mul_assoc]
    omega
  omega
/-- The divisor is given back: i words are done. -/
def GiveRel (R V : List Int) (k i : Nat) (S : List Int) (c : Int) : Prop :=
  sgN S k i + 4294967296 ^ i * c = sgN R k i + wvN V i ∧ Wd S ∧ Out R S k (V.length + 1) ∧ (∀ j, k + i ≤ j → S.getD j 0 = R.getD j 0) ∧ 0 ≤ c ∧ c ≤ 1
theorem GiveRel.start {R : List Int} (V : List Int) (k : Nat) (h : Wd R) : GiveRel R V k 0 R 0 := ⟨by simp [sgN, wvN], h, Out.refl _ _ _, fun _ _ => rfl, by omega, by omega⟩
theorem GiveRel.step {R V S : List Int} {k i : Nat} {c : Int} (h : GiveRel R V k i S c) (hV : Wd V) (hi : i < V.length) (hk : k + V.length < R.length) (x v : Int) (hx : S.getD (k + i) 0 = x) (hv : V.getD i 0 = v) :
    GiveRel R V k (i + 1) (S.set (k + i) ((x + v + c) % 4294967296)) ((x + v + c) / 4294967296) := by
  obtain ⟨h1, h2, h3, h4, h5, h6⟩ := h
  have hxr := h2.getD (k + i)
  have hxR := h4 (k + i) (Nat.le_refl _)
  have hvr := hV.getD i
  rw [hx] at hxr hxR
  rw [hv] at hvr
  refine ⟨?_, h2.set (by omega) (by omega), h3.set (by omega), fun j hj => ?_, by omega, by omega⟩
  · have hl : k + i < S.length := by rw [h3.1]; omega
    rw [sgN_set_succ hl, sgN, ← hxR, wvN, hv, q_succ]
    have e := wcarry_step (x + v + c) (4294967296 ^ i)
    generalize (4294967296 : Int) ^ i = P at *
    have e1 : (x + v + c) * P = x * P + v * P + c * P := by rw [Int.add_mul, Int.add_mul]
    have e2 : P * 4294967296 * ((x + v + c) / 4294967296) = (x + v + c) / 4294967296 * (P * 4294967296) := Int.mul_comm _ _
    have e3 : P * c = c * P := Int.mul_comm _ _
    omega
  · rw [getD_set_other (by omega)]; exact h4 j (by omega)
theorem GiveRel.stop {R V S : List Int} {k : Nat} {c : Int} (h : GiveRel R V k V.length S c) (hk : k + V.length < R.length) (x : Int) (hx : S.getD (k + V.length) 0 = x) :
    (∃ t : Int, sgN (S.set (k + V.length) ((x + c) % 4294967296)) k (V.length + 1) = sgN R k (V.length + 1) + wv V - 4294967296 ^ (V.length + 1) * t) ∧
    Wd (S.set (k + V.length) ((x + c) % 4294967296)) ∧ Out R (S.set (k + V.length) ((x + c) % 4294967296)) k (V.length + 1) := by
  obtain ⟨h1, h2, h3, h4, h5, h6⟩ := h
  have hxR := h4 (k + V.length) (Nat.le_refl _)
  rw [hx] at hxR
  refine ⟨⟨(x + c) / 4294967296, ?_⟩, h2.set (by omega) (by omega), h3.set (by omega)⟩
  have hl : k + V.length < S.length := by rw [h3.1]; omega
  rw [sgN_set_succ hl, sgN, ← hxR, q_succ]
  have hw : wvN V V.length = wv V := rfl
  rw [hw] at h1
  generalize (4294967296 : Int) ^ V.length = P at *
  have e2 : (x + c) % 4294967296 = x + c - 4294967296 * ((x + c) / 4294967296) := by omega
  rw [e2]
  generalize (x + c) / 4294967296 = t at *
  have k1 : (x + c - 4294967296 * t) * P = x * P + P * c - P * 4294967296 * t := by
    rw [Int.sub_mul, Int.add_mul, Int.mul_comm c, Int.mul_comm (4294967296 * t), Int.mul_assoc]
  omega
/-- What a guess is good for: top three words against top two. -/
def Guessed (u3 v2 q : Int) : Prop := 0 ≤ q ∧ q ≤ 4294967295 ∧ q * v2 ≤ u3 ∧ (4294967295 ≤ q ∨ u3 < (q + 1) * v2)
/-- .. and so of all words: the digit itself, or one more. -/
theorem Guessed.digit {u3 v2 q L u v ul vl : Int} (h : Guessed u3 v2 q) (hL : 0 < L) (hu : u = u3 * L + ul) (hv : v = v2 * L + vl) (u0 : 0 ≤ ul) (u1 : ul < L) (v0 : 0 ≤ vl) (v1 : vl < L) (hv2 : 4294967296 ≤ v2) (hlt : u < v * 4294967296) (hu3 : 0 ≤ u3) :
    u / v ≤ q ∧ q ≤ u / v + 1 := by
  obtain ⟨q0, q1, q2, q3⟩ := h
  have hv2L : 0 < v2 * L := Int.mul_pos (by omega) hL
  have hvp : 0 < v := by omega
  constructor
  · have h1 : u / v ≤ 4294967295 := by
      have : u / v < 4294967296 := Int.ediv_lt_of_lt_mul hvp (by rw [Int.mul_comm]; exact hlt)
      omega
    rcases q3 with q3 | q3
    · omega
    · have h2 : u < (q + 1) * v := by
        have k1 : u3 + 1 ≤ (q + 1) * v2 := q3
        have k2 : (u3 + 1) * L ≤ (q + 1) * v2 * L := Int.mul_le_mul_of_nonneg_right k1 (by omega)
        have k3 : (q + 1) * v = (q + 1) * v2 * L + (q + 1) * vl := by rw [hv, Int.mul_add, Int.mul_assoc]
        have k4 : 0 ≤ (q + 1) * vl := Int.mul_nonneg (by omega) v0
        rw [Int.add_mul] at k2
        omega
      have := Int.ediv_lt_of_lt_mul hvp h2
      omega
  · have h3 : (q - 1) * v ≤ u := by
      by_cases hq : q = 0
      · subst hq
        have k5 : 0 ≤ u3 * L := Int.mul_nonneg hu3 (by omega)
        have k6 : (0 - 1) * v = -v := by omega
        omega
      · have k1 : (q - 1) * v ≤ (q - 1) * ((v2 + 1) * L) := Int.mul_le_mul_of_nonneg_left (by rw [Int.add_mul]; omega) (by omega)
        have k2 : (q - 1) * ((v2 + 1) * L) = ((q - 1) * (v2 + 1)) * L := (Int.mul_assoc _ _ _).symm
        have k3 : (q - 1) * (v2 + 1) ≤ u3 := by
          rw [Int.sub_mul, Int.mul_add]; omega
        have k4 : ((q - 1) * (v2 + 1)) * L ≤ u3 * L := Int.mul_le_mul_of_nonneg_right k3 (by omega)
        omega
    have := (Int.le_ediv_iff_mul_le hvp).2 h3
    omega
/-- The loop that lowers the guess. -/
def GuessRel (h l head p d r : Int) : Prop := d * h + r = head ∧ 0 ≤ d ∧ 0 ≤ r ∧ (4294967295 ≤ d ∨ head * 4294967296 + p < (d + 1) * (h * 4294967296 + l))
theorem GuessRel.start {h l head p : Int} (h0 : 0 < h) (l0 : 0 ≤ l) (p1 : p ≤ 4294967295) (hd0 : 0 ≤ head) : GuessRel h l head p (head / h) (head % h) := by
  have e := Int.emod_add_mul_ediv head h
  have r1 := Int.emod_lt_of_pos head h0
  have r0 := Int.emod_nonneg head (show h ≠ 0 by omega)
  refine ⟨by rw [Int.mul_comm]; omega, Int.ediv_nonneg hd0 (by omega), r0, .inr ?_⟩
  generalize head / h = d at *
  generalize head % h = r at *
  have k1 : head + 1 ≤ (d + 1) * h := by rw [Int.add_mul, Int.mul_comm d]; omega
  have k2 : (head + 1) * 4294967296 ≤ (d + 1) * h * 4294967296 := Int.mul_le_mul_of_nonneg_right k1 (by omega)
  have hdn : 0 ≤ d + 1 := by
    by_cases hh : 0 ≤ d + 1
    · exact hh
    · exfalso
      have : (d + 1) * h ≤ 0 := Int.mul_nonpos_of_nonpos_of_nonneg (by omega) (by omega)
      omega
  have k3 : 0 ≤ (d + 1) * l := Int.mul_nonneg hdn l0
  rw [Int.mul_add, ← Int.mul_assoc]
  omega
theorem guess_test {h l head p d r : Int} (hg : GuessRel h l head p d r) : (r * 4294967296 + p < d * l) ↔ (head * 4294967296 + p < d * (h * 4294967296 + l)) := by
  obtain ⟨g1, g2, g3, g4⟩ := hg
  have e : d * (h * 4294967296 + l) = d * h * 4294967296 + d * l := by rw [Int.mul_add, ← Int.mul_assoc]
  rw [e, ← g1, Int.add_mul]
  omega
theorem GuessRel.down {h l head p d r : Int} (hg : GuessRel h l head p d r) (hh : 0 ≤ h) (hd : 4294967296 ≤ d ∨ r * 4294967296 + p < d * l) (d1 : 1 ≤ d) : GuessRel h l head p (d - 1) (r + h) := by
  have ht := guess_test hg
  obtain ⟨g1, g2, g3, g4⟩ := hg
  refine ⟨by rw [Int.sub_mul]; omega, by omega, by omega, ?_⟩
  rcases hd with hd | hd
  · exact .inl (by omega)
  · right
    have := ht.1 hd
    rw [show d - 1 + 1 = d from by omega]
    exact this
theorem GuessRel.stop {h l head p d r : Int} (hg : GuessRel h l head p d r) (hd : d ≤ 4294967295) (ht : d * l ≤ r * 4294967296 + p) : Guessed (head * 4294967296 + p) (h * 4294967296 + l) d := by
  have h2 := guess_test hg
  obtain ⟨g1, g2, g3, g4⟩ := hg
  refine ⟨g2, hd, ?_, g4⟩
  have : ¬ (head * 4294967296 + p < d * (h * 4294967296 + l)) := fun e => by have := h2.2 e; omega
  omega
set_option maxRecDepth 100000
open Go.RowKit
set_option linter.unusedVariables false
set_option maxRecDepth 100000
open Go.RowKit
set_option linter.unusedVariables false
set_option maxRecDepth 100000
open Go.RowKit
set_option linter.unusedVariables false
theorem Only.trans {g : Nat} {w w1 w2 : World} (h : Only g w w1) (k : Only g w1 w2) : Only g w w2 :=
  ⟨k.1.trans h.1, k.2.1.trans h.2.1, k.2.2.1.trans h.2.2.1, k.2.2.2.1.trans h.2.2.2.1, fun j hj => (k.2.2.2.2 j hj).trans (h.2.2.2.2 j hj)⟩
theorem WRow.only {w w' : World} {B g g' cap : Nat} {a : List Int} (h : WRow w B g' cap a) (ho : Only g w w') (hne : g' ≠ g) : WRow w' B g' cap a :=
  ho.row h (by simp [Value.ownBlock]; exact hne)
theorem WList.only {w w' : World} {g : Nat} {v : Value} {V : List Int} (h : WList w v V) (ho : Only g w w') (hf : ∀ b o l d, v = .slice (some ⟨b, o, none⟩) l d → b ≠ g) : WList w' v V := by
  obtain ⟨⟨a, c, rfl, hc, ha⟩, h2⟩ := h
  refine ⟨⟨a, c, rfl, hc, ?_⟩, h2⟩
  rcases ha with h | ⟨b, off, rfl, hb, hcell⟩
  · exact .inl h
  · exact .inr ⟨b, off, rfl, by rw [ho.2.2.2.1]; exact hb, fun i hi => by rw [World.cell?_of_block (w := w) (w' := w') (ho.2.2.2.2 b (hf _ _ _ _ rfl))]; exact hcell i hi⟩
/-- Long division: the places from j on are done. -/
def LongRel (R V : List Int) (j0 j : Nat) (S Qt : List Int) : Prop :=
  wv S + wv V * wv Qt = wv R ∧ wv S < wv V * 4294967296 ^ j ∧ Wd S ∧ Wd Qt ∧ S.length = R.length ∧ Qt.length = j0 ∧ (∀ i, i < j → Qt.getD i 0 = 0)
theorem LongRel.start {R V : List Int} {j0 : Nat} (hR : Wd R) (h : wv R < wv V * 4294967296 ^ j0) : LongRel R V j0 j0 R (List.replicate j0 0) := by
  refine ⟨by rw [wv_replicate]; simp, h, hR, Wd.zeros _, rfl, by simp, fun i _ => ?_⟩
  simp [List.getD, List.getElem?_replicate]; split <;> simp
/-- The words above those that are looked at are noughts. -/
theorem LongRel.seg {R V S Qt : List Int} {j0 t : Nat} (h : LongRel R V j0 (t + 1) S Qt) (hV : Wd V) (hl : t + V.length < S.length) :
    wv S = wvN S t + 4294967296 ^ t * sgN S t (V.length + 1) ∧ sgN S t (V.length + 1) < wv V * 4294967296 := by
  obtain ⟨h1, h2, h3, h4, h5, h6, h7⟩ := h
  have hv := (wv_range hV).2
  have e1 : wvN S (t + (V.length + 1)) = wv S := by
    refine wvN_of_lt h3 ?_
    have k1 : wv V * 4294967296 ^ (t + 1) < 4294967296 ^ V.length * 4294967296 ^ (t + 1) := Int.mul_lt_mul_of_pos_right hv (q_pos _)
    rw [← Int.pow_add] at k1
    rw [show V.length + (t + 1) = t + (V.length + 1) from by omega] at k1
    omega
  have e2 := wvN_seg S t (V.length + 1)
  rw [e1] at e2
  refine ⟨e2, ?_⟩
  have h8 := (wvN_range h3 t).1
  have hp := q_pos t
  by_cases g : sgN S t (V.length + 1) < wv V * 4294967296
  · exact g
  · exfalso
    have k2 : 4294967296 ^ t * (wv V * 4294967296) ≤ 4294967296 ^ t * sgN S t (V.length + 1) := Int.mul_le_mul_of_nonneg_left (by omega) (by omega)
    rw [q_succ] at h2
    have k3 : 4294967296 ^ t * (wv V * 4294967296) = wv V * (4294967296 ^ t * 4294967296) := by rw [← Int.mul_assoc, Int.mul_comm (4294967296 ^ t : Int), Int.mul_assoc]
    omega
theorem LongRel.next {R V S T Qt : List Int} {j0 t : Nat} {q : Int} (h : LongRel R V j0 (t + 1) S Qt) (hV : Wd V) (hv0 : 0 < wv V) (hl : t + V.length < S.length) (hT : Wd T) (ho : Out S T t (V.length + 1)) (hq : q = sgN S t (V.length + 1) / wv V)
    (hs : sgN T t (V.length + 1) = sgN S t (V.length + 1) % wv V) (htl : t < j0) : LongRel R V j0 t T (Qt.set t q) := by
  obtain ⟨e1, e2⟩ := h.seg hV hl
  obtain ⟨h1, h2, h3, h4, h5, h6, h7⟩ := h
  have hu0 := (sgN_range h3 t (V.length + 1)).1
  have q0 : 0 ≤ q := by rw [hq]; exact Int.ediv_nonneg hu0 (by omega)
  have q1 : q < 4294967296 := by rw [hq]; exact Int.ediv_lt_of_lt_mul hv0 (by rw [Int.mul_comm]; exact e2)
  have hmod := Int.emod_add_mul_ediv (sgN S t (V.length + 1)) (wv V)
  have hr1 := Int.emod_lt_of_pos (sgN S t (V.length + 1)) hv0
  have hr0 := Int.emod_nonneg (sgN S t (V.length + 1)) (show wv V ≠ 0 by omega)
  rw [← hq, ← hs] at hmod
  rw [← hs] at hr1 hr0
  have hlow : wvN T t = wvN S t := wvN_congr (fun i hi => ho.2 i (.inl hi))
  have hw := wvN_range h3 t
  have hp := q_pos t
  have e3 : wv T = wvN S t + 4294967296 ^ t * sgN T t (V.length + 1) := by
    have k1 := wvN_seg T t (V.length + 1)
    rw [hlow] at k1
    have k2 : wv T - wvN T (t + (V.length + 1)) = wv S - wvN S (t + (V.length + 1)) := wv_same_top (fun i hi => ho.2 i (.inr (by omega)))
    have k3 := wvN_seg S t (V.length + 1)
    omega
  have hQl : t < Qt.length := by omega
  refine ⟨?_, ?_, hT, h4.set q0 (by omega), ho.1.trans h5, by simpa using h6, fun i hi => by rw [getD_set_other (by omega)]; exact h7 i (by omega)⟩
  · rw [wv_set hQl, h7 t (by omega), e3, ← h1, e1, ← hmod]
    generalize sgN T t (V.length + 1) = s
    generalize (4294967296 : Int) ^ t = P
    generalize wv V = v
    have k1 : v * (wv Qt + (q - 0) * P) = v * wv Qt + v * q * P := by rw [Int.sub_zero, Int.mul_add, ← Int.mul_assoc]
    have k2 : P * (s + v * q) = P * s + v * q * P := by rw [Int.mul_add, Int.mul_comm P (v * q)]
    omega
  · rw [e3]
    have k1 : 4294967296 ^ t * (sgN T t (V.length + 1) + 1) ≤ 4294967296 ^ t * wv V := Int.mul_le_mul_of_nonneg_left (by omega) (by omega)
    have k2 : 4294967296 ^ t * wv V = wv V * 4294967296 ^ t := Int.mul_comm _ _
    rw [Int.mul_add] at k1
    omega
set_option maxRecDepth 100000
open Go.RowKit
set_option linter.unusedVariables false
set_option maxRecDepth 100000
open Go.RowKit
set_option linter.unusedVariables false
theorem WRow.base {w : World} {B B' g cap : Nat} {a : List Int} (h : WRow w B g cap a) (hB : B' ≤ B) : WRow w B' g cap a := by
  obtain ⟨h1, h2⟩ := h
  refine ⟨h1, ?_⟩
  rcases h2 with h2 | ⟨g', cap', cur, e, h3, h4⟩
  · exact .inl h2
  · exact .inr ⟨g', cap', cur, e, by omega, h4⟩
theorem WRow.lt {w : World} {B g cap : Nat} {a : List Int} (h : WRow w B g cap a) : g < w.heap.size := h.facts.2.1
end Go.Proofs.YtigikgphipebiaaGreatDoor
/- Package ratio: quotients, roots, means and deviations. -/
namespace Go.Proofs.YtigikgphipebiaaGreatDoor
set_option maxRecDepth 100000
open Go.RowKit
set_option linter.unusedVariables false
theorem isNat_len {w : World} {p : Option Addr} {l c : Nat} {z : Int} (h : IsNat w (.slice p l c) z) : l = 0 ↔ z = 0 := by
  obtain ⟨a, h1, h2, h3⟩ := h
  obtain ⟨p', c', e⟩ := h1.shape
  simp only [Value.slice.injEq] at e
  have el : l = a.length := e.2.1
  constructor
  · intro h0
    have : a = [] := List.length_eq_zero_iff.1 (by omega)
    subst this; rw [← h3]; rfl
  · intro h0
    apply Classical.byContradiction
    intro hh
    have hne : a ≠ [] := fun e => hh (by rw [el, e]; rfl)
    have h4 := h2.wsize h1.2.1 hne
    have := q_pos (a.length - 1)
    omega
set_option maxRecDepth 100000
open Go.RowKit
set_option linter.unusedVariables false
set_option maxHeartbeats 400000 in
theorem wabs_any (a : Int) (h1 : -9223372036854775808 ≤ a) (h2 : a ≤ 9223372036854775807) (w : World) :
    Calls Tryz.prog 96 #[.int .i64 a] w fun e w' => e = .returned (.int .u64 (a.natAbs : Int)) ∧ w = w' := by
  by_cases h : a < 0
  · go_enter Tryz.func96, Tryz.ntmps96
    go_wp2
    go_ret
    exact ⟨ret_int (by first | omega | (simp [IntKind.wrap, IntKind.bits, IntKind.signed]; omega)), rfl⟩
  · have h' : 0 ≤ a := by omega
    go_enter Tryz.func96, Tryz.ntmps96
    go_wp2
    go_ret
    exact ⟨ret_int (by omega), rfl⟩
theorem words_two (n : Nat) : (4294967296 : Int) ^ n = 2 ^ (32 * n) := by
  rw [show (4294967296 : Int) = 2 ^ 32 by decide, ← Int.pow_mul]
theorem lt_bits {p N : Nat} (hb : bitsZ (p : Int) ≤ N) : p < 2 ^ N := by
  by_cases h0 : p = 0
  · rw [h0]; exact n_pow_pos _
  · exact (lt_two_iff h0 N).2 hb
end Go.Proofs.YtigikgphipebiaaGreatDoor
/- bushelref04: what just is a root. -/
namespace Go.Proofs.YtigikgphipebiaaGreatDoor
set_option maxRecDepth 100000
open Go.RowKit
set_option linter.unusedVariables false
/-- Two variables P and M, and what is read. -/
def PM (w : World) (P M : Nat) (a b c d : Value) (x y : Int) (wr : World) : Prop :=
  ((wr.cell? ⟨P, 0, none⟩ = some a ∧ wr.cell? ⟨P, 1, none⟩ = some b) ∧ (wr.cell? ⟨M, 0, none⟩ = some c ∧ wr.cell? ⟨M, 1, none⟩ = some d)) ∧ (Kept w P 89 wr ∧ Kept w M 89 wr ∧ P ≠ M) ∧ IsNum wr (.agg #[a, b]) x ∧ IsNum wr (.agg #[c, d]) y
theorem PM.call {w w1 w2 : World} {P M : Nat} {a b c d : Value} {x y : Int} (h : PM w P M a b c d x y w1) (hb : Below w1.heap.size w1 w2) : PM w P M a b c d x y w2 := by
  obtain ⟨⟨⟨h1, h2⟩, h3, h4⟩, ⟨h5, h6, h7⟩, h8, h9⟩ := h
  exact ⟨⟨⟨cell_later hb h1, cell_later hb h2⟩, cell_later hb h3, cell_later hb h4⟩, ⟨h5.call hb, h6.call hb, h7⟩, h8.below hb, h9.below hb⟩
/-- Three variables, read, and what they hold. -/
def Tri (w : World) (X : Nat) (a b c d e f : Value) (wr : World) : Prop :=
  SixAt X (X + 1) (X + 2) a b c d e f wr ∧ Kept w (X + 1) 89 wr
theorem Tri.call {w w1 w2 : World} {X : Nat} {a b c d e f : Value} (h : Tri w X a b c d e f w1) (hb : Below w1.heap.size w1 w2) : Tri w X a b c d e f w2 := ⟨SixAt.call h.1 hb, h.2.call hb⟩
theorem Tri.start (w : World) (a b c d e f : Value) : Tri w w.heap.size a b c d e f (((w.alloc (.cells #[a, b] 89)).alloc (.cells #[c, d] 89)).alloc (.cells #[e, f] 89)) := by
  have h2 := below_two (w.alloc (.cells #[a, b] 89)) (.cells #[c, d] 89) (.cells #[e, f] 89)
  have h1 := below_one ((w.alloc (.cells #[a, b] 89)).alloc (.cells #[c, d] 89)) (.cells #[e, f] 89)
  refine ⟨⟨⟨cell_later h2 (by simp [go_sem]), cell_later h2 (by simp [go_sem])⟩, ⟨cell_later h1 (by simp [go_sem]), cell_later h1 (by simp [go_sem])⟩, by simp [go_sem], by simp [go_sem]⟩, ?_⟩
  have h3 := (Kept.start (w.alloc (.cells #[a, b] 89)) c d 89).down (below_one w _)
  simp only [World.size_alloc] at h3
  exact h3.call h1
theorem below_three (w : World) (o p q : Obj) : Below w.heap.size w (((w.alloc o).alloc p).alloc q) := (below_two w o p).trans ((below_one _ q).mono (by simp; omega))
theorem two_cast (N : Nat) : ((2 : Int) ^ N) = ((2 ^ N : Nat) : Int) := by simp
theorem sized_nat {z N : Nat} (h : z ≤ 2 ^ N) (hN : N ≤ 15000) : Sized 20000 (z : Int) :=
  sized_less (by omega) (by rw [two_cast]; exact Int.ofNat_le.2 h) hN
theorem SixAt.drew {X M P : Nat} {a b c d e f : Value} {w : World} (h : SixAt X M P a b c d e f w) : SixAt X M P a b c d e f w.drew := h.call (Below.refl _ _).drew
theorem SixAt.alloc {X M P : Nat} {a b c d e f : Value} {w : World} {o : Obj} (h : SixAt X M P a b c d e f w) : SixAt X M P a b c d e f (w.alloc o) := h.call (below_one w o)
theorem SixAt.set {X M P N : Nat} {a b c d e f u v : Value} {w : World} (h : SixAt X M P a b c d e f w) (h1 : X ≠ N) (h2 : M ≠ N) (h3 : P ≠ N) : SixAt X M P a b c d e f ((w.setCell ⟨N, 0, none⟩ u).setCell ⟨N, 1, none⟩ v) := by
  obtain ⟨⟨c1, c2⟩, ⟨c3, c4⟩, c5, c6⟩ := h
  refine ⟨⟨?_, ?_⟩, ⟨?_, ?_⟩, ?_, ?_⟩
  all_goals rw [World.cell?_setCell_far _ _ _ _ (by simp; omega), World.cell?_setCell_far _ _ _ _ (by simp; omega)]; assumption
set_option maxRecDepth 100000
open Go.RowKit
set_option linter.unusedVariables false
end Go.Proofs.YtigikgphipebiaaGreatDoor
/- bushelref04: deviations. -/
namespace Go.Proofs.YtigikgphipebiaaGreatDoor
set_option maxRecDepth 100000
open Go.RowKit
set_option linter.unusedVariables false
theorem num_abs {w : World} {b : Bool} {s : Value} {x : Int} (h : IsNum w (.agg #[.bool b, s]) x) : IsNum w (.agg #[.bool false, s]) (x.natAbs : Int) := by
  obtain ⟨neg, s', ds, e, h1, h2, h3, h4, h5, h6⟩ := h
  simp only [Value.agg.injEq, Array.mk.injEq, List.cons.injEq, and_true, Value.bool.injEq] at e
  obtain ⟨rfl, rfl⟩ := e
  refine ⟨false, s, ds, rfl, h1, h2, h3, h4, (fun e => by cases e), ?_⟩
  have h0 := (val_range h3).1
  rw [h6]
  cases b <;> simp [signed] <;> omega
set_option maxRecDepth 100000
open Go.RowKit
set_option linter.unusedVariables false
abbrev OneAt (X : Nat) (a b : Value) (w : World) : Prop := w.cell? ⟨X, 0, none⟩ = some a ∧ w.cell? ⟨X, 1, none⟩ = some b
theorem OneAt.call {X : Nat} {a b : Value} {w w' : World} (h : OneAt X a b w) (hb : Below w.heap.size w w') : OneAt X a b w' := ⟨cell_later hb h.1, cell_later hb h.2⟩
theorem OneAt.alloc {X : Nat} {a b : Value} {w : World} {o : Obj} (h : OneAt X a b w) : OneAt X a b (w.alloc o) := h.call (below_one w o)
theorem OneAt.drew {X : Nat} {a b : Value} {w : World} (h : OneAt X a b w) : OneAt X a b w.drew := h.call (Below.refl _ _).drew
theorem OneAt.set {X M : Nat} {a b u v : Value} {w : World} (h : OneAt X a b w) (hne : X ≠ M) : OneAt X a b ((w.setCell ⟨M, 0, none⟩ u).setCell ⟨M, 1, none⟩ v) := by
  obtain ⟨h1, h2⟩ := h
  exact ⟨by rw [World.cell?_setCell_far _ _ _ _ (by simp; omega), World.cell?_setCell_far _ _ _ _ (by simp; omega)]; exact h1, by rw [World.cell?_setCell_far _ _ _ _ (by simp; omega), World.cell?_setCell_far _ _ _ _ (by simp; omega)]; exact h2⟩
theorem OneAt.lt {X : Nat} {a b : Value} {w : World} (h : OneAt X a b w) : X < w.heap.size := World.block_lt_of_cell? w ⟨X, 0, none⟩ h.1
/-- Three numbers that are read from their variables. -/
def Fin3 (w : World) (O Y M : Nat) (a b c d g h : Value) (x y z : Int) (wr : World) : Prop :=
  SixAt O Y M a b c d g h wr ∧ Below w.heap.size w wr ∧ IsNum wr (.agg #[a, b]) x ∧ IsNum wr (.agg #[c, d]) y ∧ IsNum wr (.agg #[g, h]) z
theorem Fin3.call {w w1 w2 : World} {O Y M : Nat} {a b c d g h : Value} {x y z : Int} (k : Fin3 w O Y M a b c d g h x y z w1) (hb : Below w1.heap.size w1 w2) : Fin3 w O Y M a b c d g h x y z w2 := by
  obtain ⟨h1, h2, h3, h4, h5⟩ := k
  exact ⟨SixAt.call h1 hb, below_then h2 hb, h3.below hb, h4.below hb, h5.below hb⟩
/-- Two numbers that are read from their variables. -/
def Fin2 (w : World) (O Y : Nat) (a b c d : Value) (x y : Int) (wr : World) : Prop :=
  (OneAt O a b wr ∧ OneAt Y c d wr) ∧ Below w.heap.size w wr ∧ IsNum wr (.agg #[a, b]) x ∧ IsNum wr (.agg #[c, d]) y
theorem Fin2.call {w w1 w2 : World} {O Y : Nat} {a b c d : Value} {x y : Int} (k : Fin2 w O Y a b c d x y w1) (hb : Below w1.heap.size w1 w2) : Fin2 w O Y a b c d x y w2 := by
  obtain ⟨⟨h1, h2⟩, h3, h4, h5⟩ := k
  exact ⟨⟨OneAt.call h1 hb, OneAt.call h2 hb⟩, below_then h3 hb, h4.below hb, h5.below hb⟩
set_option maxRecDepth 100000
open Go.RowKit
set_option linter.unusedVariables false
theorem num_neg {w : World} {b : Bool} {s : Value} {z : Int} (h : IsNum w (.agg #[.bool b, s]) z) : b = decide (z < 0) := by
  obtain ⟨neg, s', ds, e, h1, h2, h3, h4, h5, h6⟩ := h
  simp only [Value.agg.injEq, Array.mk.injEq, List.cons.injEq, and_true, Value.bool.injEq] at e
  obtain ⟨rfl, rfl⟩ := e
  have h0 := (val_range h3).1
  cases b
  · rw [h6, eq_comm, decide_eq_false_iff_not]
    have e : signed false (val ds) = val ds := rfl
    rw [e]; omega
  · have hne := h5 rfl
    have hz := h4.zero h3
    have : val ds ≠ 0 := fun e => hne (hz.1 e)
    rw [h6, eq_comm, decide_eq_true_eq]
    have e : signed true (val ds) = -val ds := rfl
    rw [e]; omega
end Go.Proofs.YtigikgphipebiaaGreatDoor
