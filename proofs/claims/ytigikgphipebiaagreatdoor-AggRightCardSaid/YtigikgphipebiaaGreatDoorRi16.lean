/- Contracts that the law leans on, pruned and merged: Longf Ratq Refs Refv Awake4 Ratz. -/
import Derived.Deep.RegionWith
import Derived.Deep.QuietTactic
import Derived.BigQuiet
import Derived.Outline
import Derived.Deep.DeepCutAuto
import Derived.Deep.CutBlock
import Derived.Deep.RegionHeld3
import Derived.Test.YtigikgphipebiaaGreatDoorRi09
import Derived.Test.YtigikgphipebiaaGreatDoorRi13
import Derived.Test.YtigikgphipebiaaGreatDoorRi14
import Derived.Test.YtigikgphipebiaaGreatDoorRi15
/- What Div of package nat returns, of any two numbers. -/
namespace Go.Proofs.YtigikgphipebiaaGreatDoor
set_option maxRecDepth 100000
open Go.RowKit
set_option linter.unusedVariables false
/-- The number of m words from place k on. -/
def sgN (R : List Int) (k : Nat) : Nat → Int
  | 0 => 0
  | m + 1 => sgN R k m + R.getD (k + m) 0 * 4294967296 ^ m
theorem sgN_congr {R S : List Int} {k m : Nat} (h : ∀ i, i < m → R.getD (k + i) 0 = S.getD (k + i) 0) : sgN R k m = sgN S k m := by
  induction m with
  | zero => rfl
  | succ m ih => rw [sgN, sgN, ih (fun i hi => h i (by omega)), h m (by omega)]
theorem sgN_range {R : List Int} (h : Wd R) (k m : Nat) : 0 ≤ sgN R k m ∧ sgN R k m < 4294967296 ^ m := by
  induction m with
  | zero => simp [sgN]
  | succ m ih =>
    have hd := h.getD (k + m)
    have hp := q_pos m
    rw [sgN, q_succ]
    have h1 : 0 ≤ R.getD (k + m) 0 * 4294967296 ^ m := Int.mul_nonneg hd.1 (by omega)
    have h2 : R.getD (k + m) 0 * 4294967296 ^ m ≤ 4294967295 * 4294967296 ^ m := Int.mul_le_mul_of_nonneg_right hd.2 (by omega)
    omega
theorem wvN_seg (R : List Int) (k m : Nat) : wvN R (k + m) = wvN R k + 4294967296 ^ k * sgN R k m := by
  induction m with
  | zero => simp [sgN]
  | succ m ih =>
    rw [← Nat.add_assoc, wvN, ih, sgN, Int.mul_add, Int.pow_add]
    have : R.getD (k + m) 0 * (4294967296 ^ k * 4294967296 ^ m) = 4294967296 ^ k * (R.getD (k + m) 0 * 4294967296 ^ m) := by
      rw [← Int.mul_assoc, Int.mul_comm (R.getD (k + m) 0), Int.mul_assoc]
    omega
theorem sgN_set_low {R : List Int} {k i m : Nat} {x : Int} (h : m ≤ i) : sgN (R.set (k + i) x) k m = sgN R k m :=
  sgN_congr (fun j hj => getD_set_other (by omega))
theorem sgN_set_succ {R : List Int} {k i : Nat} {x : Int} (h : k + i < R.length) : sgN (R.set (k + i) x) k (i + 1) = sgN R k i + x * 4294967296 ^ i := by
  rw [sgN, sgN_set_low (Nat.le_refl _), getD_set_self h]
/-- Outside of m words from place k on nothing differs. -/
def Out (R S : List Int) (k m : Nat) : Prop := S.length = R.length ∧ ∀ j, j < k ∨ k + m ≤ j → S.getD j 0 = R.getD j 0
theorem Out.refl (R : List Int) (k m : Nat) : Out R R k m := ⟨rfl, fun _ _ => rfl⟩
theorem Out.set {R S : List Int} {k m i : Nat} {x : Int} (h : Out R S k m) (hi : i < m) : Out R (S.set (k + i) x) k m :=
  ⟨by simpa using h.1, fun j hj => by rw [getD_set_other (by omega)]; exact h.2 j hj⟩
theorem Out.trans {R S T : List Int} {k m : Nat} (h : Out R S k m) (g : Out S T k m) : Out R T k m := ⟨g.1.trans h.1, fun j hj => (g.2 j hj).trans (h.2 j hj)⟩
/-- digit times the divisor is taken from the words from place k on: i of them are done. -/
def TakeRel (R V : List Int) (k : Nat) (q : Int) (i : Nat) (S : List Int) (c b : Int) : Prop :=
  sgN S k i = sgN R k i - q * wvN V i + 4294967296 ^ i * (c + b) ∧ Wd S ∧ Out R S k (V.length + 1) ∧ (∀ j, k + i ≤ j → S.getD j 0 = R.getD j 0) ∧ 0 ≤ c ∧ c ≤ 4294967295 ∧ 0 ≤ b ∧ b ≤ 1
theorem TakeRel.start {R : List Int} (V : List Int) (k : Nat) (q : Int) (h : Wd R) : TakeRel R V k q 0 R 0 0 := ⟨by simp [sgN, wvN], h, Out.refl _ _ _, fun _ _ => rfl, by omega, by omega, by omega, by omega⟩
theorem prod_bounds {x y c : Int} (h1 : 0 ≤ x) (h2 : x ≤ 4294967295) (h3 : 0 ≤ y) (h4 : y ≤ 4294967295) (c0 : 0 ≤ c) (c1 : c ≤ 4294967295) : 0 ≤ c + x * y ∧ c + x * y ≤ 18446744069414584320 := by
  have h5 : 0 ≤ x * y := Int.mul_nonneg h1 h3
  have h6 : x * y ≤ 4294967295 * 4294967295 := Int.mul_le_mul h2 h4 h3 (by omega)
  omega
theorem TakeRel.step {R V S : List Int} {k i : Nat} {q c b : Int} (h : TakeRel R V k q i S c b) (hV : Wd V) (hi : i < V.length) (hk : k + V.length < R.length) (q0 : 0 ≤ q) (q1 : q ≤ 4294967295) (x v : Int) (hx : S.getD (k + i) 0 = x) (hv : V.getD i 0 = v) :
    TakeRel R V k q (i + 1) (S.set (k + i) ((x - (c + v * q) % 4294967296 - b) % 4294967296)) ((c + v * q) / 4294967296) (-((x - (c + v * q) % 4294967296 - b) / 4294967296)) := by
  obtain ⟨h1, h2, h3, h4, h5, h6, h7, h8⟩ := h
  have hxr := h2.getD (k + i)
  have hxR := h4 (k + i) (Nat.le_refl _)
  have hvr := hV.getD i
  rw [hx] at hxr hxR
  rw [hv] at hvr
  have hb := prod_bounds hvr.1 hvr.2 q0 q1 h5 h6
  refine ⟨?_, h2.set (by omega) (by omega), h3.set (by omega), fun j hj => ?_, by omega, by omega, by omega, by omega⟩
  · have hl : k + i < S.length := by rw [h3.1]; omega
    rw [sgN_set_succ hl, h1, sgN, ← hxR, wvN, hv, q_succ]
    generalize ht : c + v * q = t at *
    have e1 : t = t % 4294967296 + 4294967296 * (t / 4294967296) := by omega
    have e2 : x - t % 4294967296 - b = (x - t % 4294967296 - b) % 4294967296 + 4294967296 * ((x - t % 4294967296 - b) / 4294967296) := by omega
    generalize hlow : t % 4294967296 = low at *
    generalize hcc : t / 4294967296 = c' at *
    generalize hdd : (x - low - b) % 4294967296 = d at *
    generalize hbb : (x - low - b) / 4294967296 = bb at *
    generalize (4294967296 : Int) ^ i = P at *
    have k1 : P * 4294967296 * (c' + -bb) = P * (4294967296 * c' - 4294967296 * bb) := by rw [Int.mul_assoc, Int.mul_add, Int.mul_neg]; rfl
    have k2 : d = x - low - b - 4294967296 * bb := by omega
    have k3 : low = c + v * q - 4294967296 * c' := by omega
    have k4 : q * (wvN V i + v * P) = q * wvN V i + v * q * P := by rw [Int.mul_add, ← Int.mul_assoc, Int.mul_comm q v]
    rw [k1, k4, k2, k3]
    have k5 : (x - (c + v * q - 4294967296 * c') - b - 4294967296 * bb) * P = x * P - v * q * P - P * (c + b) + P * (4294967296 * c' - 4294967296 * bb) := by
      rw [show x - (c + v * q - 4294967296 * c') - b - 4294967296 * bb = x - v * q - (c + b) + (4294967296 * c' - 4294967296 * bb) from by omega, Int.add_mul, Int.sub_mul, Int.sub_mul, Int.mul_comm (c + b), Int.mul_comm (4294967296 * c' - 4294967296 * bb)]
    omega
  · rw [getD_set_other (by omega)]; exact h4 j (by omega)
theorem TakeRel.stop {R V S : List Int} {k : Nat} {q c b : Int} (h : TakeRel R V k q V.length S c b) (hk : k + V.length < R.length) (x : Int) (hx : S.getD (k + V.length) 0 = x) :
    sgN (S.set (k + V.length) ((x - c - b) % 4294967296)) k (V.length + 1) = sgN R k (V.length + 1) - q * wv V + 4294967296 ^ (V.length + 1) * (-((x - c - b) / 4294967296)) ∧
    Wd (S.set (k + V.length) ((x - c - b) % 4294967296)) ∧ Out R (S.set (k + V.length) ((x - c - b) % 4294967296)) k (V.length + 1) := by
  obtain ⟨h1, h2, h3, h4, h5, h6, h7, h8⟩ := h
  have hxR := h4 (k + V.length) (Nat.le_refl _)
  rw [hx] at hxR
  refine ⟨?_, h2.set (by omega) (by omega), h3.set (by omega)⟩
  have hl : k + V.length < S.length := by rw [h3.1]; omega
  rw [sgN_set_succ hl, h1, sgN, ← hxR, q_succ]
  have hw : wvN V V.length = wv V := rfl
  rw [hw]
  generalize (4294967296 : Int) ^ V.length = P at *
  have e2 : (x - c - b) % 4294967296 = x - c - b - 4294967296 * ((x - c - b) / 4294967296) := by omega
  rw [e2]
  generalize (x - c - b) / 4294967296 = bb at *
  have k1 : (x - c - b - 4294967296 * bb) * P = x * P - P * (c + b) + P * 4294967296 * -bb := by
    rw [show x - c - b - 4294967296 * bb = x - (c + b) + 4294967296 * -bb from by omega, Int.add_mul, Int.sub_mul]
    have k2 : P * (c + b) = (c + b) * P := Int.mul_comm _ _
    have k3 : P * 4294967296 * -bb = 4294967296 * -bb * P := by rw [Int.mul_comm P 4294967296, Int.mul_assoc, Int.mul_comm P (-bb), ← Int.mul_assoc]
    omega
  omega
/-- The divisor is given back: i words are done. -/
def GiveRel (R V : List Int) (k i : Nat) (S : List Int) (c : Int) : Prop :=
  sgN S k i + 4294967296 ^ i * c = sgN R k i + wvN V i ∧ Wd S ∧ Out R S k (V.length + 1) ∧ (∀ j, k + i ≤ j → S.getD j 0 = R.getD j 0) ∧ 0 ≤ c ∧ c ≤ 1
theorem GiveRel.start {R : List Int} (V : List Int) (k : Nat) (h : Wd R) : GiveRel R V k 0 R 0 := ⟨by simp [sgN, wvN], h, Out.refl _ _ _, fun _ _ => rfl, by omega, by omega⟩
theorem GiveRel.step {R V S : List Int} {k i : Nat} {c : Int} (h : GiveRel R V k i S c) (hV : Wd V) (hi : i < V.length) (hk : k + V.length < R.length) (x v : Int) (hx : S.getD (k + i) 0 = x) (hv : V.getD i 0 = v) :
    GiveRel R V k (i + 1) (S.set (k + i) ((x + v + c) % 4294967296)) ((x + v + c) / 4294967296) := by
  obtain ⟨h1, h2, h3, h4, h5, h6⟩ := h
  have hxr := h2.getD (k + i)
  have hxR := h4 (k + i) (Nat.le_refl _)
  have hvr := hV.getD i
  rw [hx] at hxr hxR
  rw [hv] at hvr
  refine ⟨?_, h2.set (by omega) (by omega), h3.set (by omega), fun j hj => ?_, by omega, by omega⟩
  · have hl : k + i < S.length := by rw [h3.1]; omega
    rw [sgN_set_succ hl, sgN, ← hxR, wvN, hv, q_succ]
    have e := wcarry_step (x + v + c) (4294967296 ^ i)
    generalize (4294967296 : Int) ^ i = P at *
    have e1 : (x + v + c) * P = x * P + v * P + c * P := by rw [Int.add_mul, Int.add_mul]
    have e2 : P * 4294967296 * ((x + v + c) / 4294967296) = (x + v + c) / 4294967296 * (P * 4294967296) := Int.mul_comm _ _
    have e3 : P * c = c * P := Int.mul_comm _ _
    omega
  · rw [getD_set_other (by omega)]; exact h4 j (by omega)
theorem GiveRel.stop {R V S : List Int} {k : Nat} {c : Int} (h : GiveRel R V k V.length S c) (hk : k + V.length < R.length) (x : Int) (hx : S.getD (k + V.length) 0 = x) :
    (∃ t : Int, sgN (S.set (k + V.length) ((x + c) % 4294967296)) k (V.length + 1) = sgN R k (V.length + 1) + wv V - 4294967296 ^ (V.length + 1) * t) ∧
    Wd (S.set (k + V.length) ((x + c) % 4294967296)) ∧ Out R (S.set (k + V.length) ((x + c) % 4294967296)) k (V.length + 1) := by
  obtain ⟨h1, h2, h3, h4, h5, h6⟩ := h
  have hxR := h4 (k + V.length) (Nat.le_refl _)
  rw [hx] at hxR
  refine ⟨⟨(x + c) / 4294967296, ?_⟩, h2.set (by omega) (by omega), h3.set (by omega)⟩
  have hl : k + V.length < S.length := by rw [h3.1]; omega
  rw [sgN_set_succ hl, sgN, ← hxR, q_succ]
  have hw : wvN V V.length = wv V := rfl
  rw [hw] at h1
  generalize (4294967296 : Int) ^ V.length = P at *
  have e2 : (x + c) % 4294967296 = x + c - 4294967296 * ((x + c) / 4294967296) := by omega
  rw [e2]
  generalize (x + c) / 4294967296 = t at *
  have k1 : (x + c - 4294967296 * t) * P = x * P + P * c - P * 4294967296 * t := by
    rw [Int.sub_mul, Int.add_mul, Int.mul_comm c, Int.mul_comm (4294967296 * t), Int.mul_assoc]
  omega
/-- What a guess is good for: top three words against top two. -/
def Guessed (u3 v2 q : Int) : Prop := 0 ≤ q ∧ q ≤ 4294967295 ∧ q * v2 ≤ u3 ∧ (4294967295 ≤ q ∨ u3 < (q + 1) * v2)
/-- .. and so of all words: the digit itself, or one more. -/
theorem Guessed.digit {u3 v2 q L u v ul vl : Int} (h : Guessed u3 v2 q) (hL : 0 < L) (hu : u = u3 * L + ul) (hv : v = v2 * L + vl) (u0 : 0 ≤ ul) (u1 : ul < L) (v0 : 0 ≤ vl) (v1 : vl < L) (hv2 : 4294967296 ≤ v2) (hlt : u < v * 4294967296) (hu3 : 0 ≤ u3) :
    u / v ≤ q ∧ q ≤ u / v + 1 := by
  obtain ⟨q0, q1, q2, q3⟩ := h
  have hv2L : 0 < v2 * L := Int.mul_pos (by omega) hL
  have hvp : 0 < v := by omega
  constructor
  · have h1 : u / v ≤ 4294967295 := by
      have : u / v < 4294967296 := Int.ediv_lt_of_lt_mul hvp (by rw [Int.mul_comm]; exact hlt)
      omega
    rcases q3 with q3 | q3
    · omega
    · have h2 : u < (q + 1) * v := by
        have k1 : u3 + 1 ≤ (q + 1) * v2 := q3
        have k2 : (u3 + 1) * L ≤ (q + 1) * v2 * L := Int.mul_le_mul_of_nonneg_right k1 (by omega)
        have k3 : (q + 1) * v = (q + 1) * v2 * L + (q + 1) * vl := by rw [hv, Int.mul_add, Int.mul_assoc]
        have k4 : 0 ≤ (q + 1) * vl := Int.mul_nonneg (by omega) v0
        rw [Int.add_mul] at k2
        omega
      have := Int.ediv_lt_of_lt_mul hvp h2
      omega
  · have h3 : (q - 1) * v ≤ u := by
      by_cases hq : q = 0
      · subst hq
        have k5 : 0 ≤ u3 * L := Int.mul_nonneg hu3 (by omega)
        have k6 : (0 - 1) * v = -v := by omega
        omega
      · have k1 : (q - 1) * v ≤ (q - 1) * ((v2 + 1) * L) := Int.mul_le_mul_of_nonneg_left (by rw [Int.add_mul]; omega) (by omega)
        have k2 : (q - 1) * ((v2 + 1) * L) = ((q - 1) * (v2 + 1)) * L := (Int.mul_assoc _ _ _).symm
        have k3 : (q - 1) * (v2 + 1) ≤ u3 := by
          rw [Int.sub_mul, Int.mul_add]; omega
        have k4 : ((q - 1) * (v2 + 1)) * L ≤ u3 * L := Int.mul_le_mul_of_nonneg_right k3 (by omega)
        omega
    have := (Int.le_ediv_iff_mul_le hvp).2 h3
    omega
/-- The loop that lowers the guess. -/
def GuessRel (h l head p d r : Int) : Prop := d * h + r = head ∧ 0 ≤ d ∧ 0 ≤ r ∧ (4294967295 ≤ d ∨ head * 4294967296 + p < (d + 1) * (h * 4294967296 + l))
theorem GuessRel.start {h l head p : Int} (h0 : 0 < h) (l0 : 0 ≤ l) (p1 : p ≤ 4294967295) (hd0 : 0 ≤ head) : GuessRel h l head p (head / h) (head % h) := by
  have e := Int.emod_add_mul_ediv head h
  have r1 := Int.emod_lt_of_pos head h0
  have r0 := Int.emod_nonneg head (show h ≠ 0 by omega)
  refine ⟨by rw [Int.mul_comm]; omega, Int.ediv_nonneg hd0 (by omega), r0, .inr ?_⟩
  generalize head / h = d at *
  generalize head % h = r at *
  have k1 : head + 1 ≤ (d + 1) * h := by rw [Int.add_mul, Int.mul_comm d]; omega
  have k2 : (head + 1) * 4294967296 ≤ (d + 1) * h * 4294967296 := Int.mul_le_mul_of_nonneg_right k1 (by omega)
  have hdn : 0 ≤ d + 1 := by
    by_cases hh : 0 ≤ d + 1
    · exact hh
    · exfalso
      have : (d + 1) * h ≤ 0 := Int.mul_nonpos_of_nonpos_of_nonneg (by omega) (by omega)
      omega
  have k3 : 0 ≤ (d + 1) * l := Int.mul_nonneg hdn l0
  rw [Int.mul_add, ← Int.mul_assoc]
  omega
theorem guess_test {h l head p d r : Int} (hg : GuessRel h l head p d r) : (r * 4294967296 + p < d * l) ↔ (head * 4294967296 + p < d * (h * 4294967296 + l)) := by
  obtain ⟨g1, g2, g3, g4⟩ := hg
  have e : d * (h * 4294967296 + l) = d * h * 4294967296 + d * l := by rw [Int.mul_add, ← Int.mul_assoc]
  rw [e, ← g1, Int.add_mul]
  omega
theorem GuessRel.down {h l head p d r : Int} (hg : GuessRel h l head p d r) (hh : 0 ≤ h) (hd : 4294967296 ≤ d ∨ r * 4294967296 + p < d * l) (d1 : 1 ≤ d) : GuessRel h l head p (d - 1) (r + h) := by
  have ht := guess_test hg
  obtain ⟨g1, g2, g3, g4⟩ := hg
  refine ⟨by rw [Int.sub_mul]; omega, by omega, by omega, ?_⟩
  rcases hd with hd | hd
  · exact .inl (by omega)
  · right
    have := ht.1 hd
    rw [show d - 1 + 1 = d from by omega]
    exact this
theorem GuessRel.stop {h l head p d r : Int} (hg : GuessRel h l head p d r) (hd : d ≤ 4294967295) (ht : d * l ≤ r * 4294967296 + p) : Guessed (head * 4294967296 + p) (h * 4294967296 + l) d := by
  have h2 := guess_test hg
  obtain ⟨g1, g2, g3, g4⟩ := hg
  refine ⟨g2, hd, ?_, g4⟩
  have : ¬ (head * 4294967296 + p < d * (h * 4294967296 + l)) := fun e => by have := h2.2 e; omega
  omega
set_option maxRecDepth 100000
open Go.RowKit
set_option linter.unusedVariables false
set_option maxRecDepth 100000
open Go.RowKit
set_option linter.unusedVariables false
set_option maxRecDepth 100000
open Go.RowKit
set_option linter.unusedVariables false
theorem Only.trans {g : Nat} {w w1 w2 : World} (h : Only g w w1) (k : Only g w1 w2) : Only g w w2 :=
  ⟨k.1.trans h.1, k.2.1.trans h.2.1, k.2.2.1.trans h.2.2.1, k.2.2.2.1.trans h.2.2.2.1, fun j hj => (k.2.2.2.2 j hj).trans (h.2.2.2.2 j hj)⟩
theorem WRow.only {w w' : World} {B g g' cap : Nat} {a : List Int} (h : WRow w B g' cap a) (ho : Only g w w') (hne : g' ≠ g) : WRow w' B g' cap a :=
  ho.row h (by simp [Value.ownBlock]; exact hne)
theorem WList.only {w w' : World} {g : Nat} {v : Value} {V : List Int} (h : WList w v V) (ho : Only g w w') (hf : ∀ b o l d, v = .slice (some ⟨b, o, none⟩) l d → b ≠ g) : WList w' v V := by
  obtain ⟨⟨a, c, rfl, hc, ha⟩, h2⟩ := h
  refine ⟨⟨a, c, rfl, hc, ?_⟩, h2⟩
  rcases ha with h | ⟨b, off, rfl, hb, hcell⟩
  · exact .inl h
  · exact .inr ⟨b, off, rfl, by rw [ho.2.2.2.1]; exact hb, fun i hi => by rw [World.cell?_of_block (w := w) (w' := w') (ho.2.2.2.2 b (hf _ _ _ _ rfl))]; exact hcell i hi⟩
/-- Long division: the places from j on are done. -/
def LongRel (R V : List Int) (j0 j : Nat) (S Qt : List Int) : Prop :=
  wv S + wv V * wv Qt = wv R ∧ wv S < wv V * 4294967296 ^ j ∧ Wd S ∧ Wd Qt ∧ S.length = R.length ∧ Qt.length = j0 ∧ (∀ i, i < j → Qt.getD i 0 = 0)
theorem LongRel.start {R V : List Int} {j0 : Nat} (hR : Wd R) (h : wv R < wv V * 4294967296 ^ j0) : LongRel R V j0 j0 R (List.replicate j0 0) := by
  refine ⟨by rw [wv_replicate]; simp, h, hR, Wd.zeros _, rfl, by simp, fun i _ => ?_⟩
  simp [List.getD, List.getElem?_replicate]; split <;> simp
/-- The words above those that are looked at are noughts. -/
theorem LongRel.seg {R V S Qt : List Int} {j0 t : Nat} (h : LongRel R V j0 (t + 1) S Qt) (hV : Wd V) (hl : t + V.length < S.length) :
    wv S = wvN S t + 4294967296 ^ t * sgN S t (V.length + 1) ∧ sgN S t (V.length + 1) < wv V * 4294967296 := by
  obtain ⟨h1, h2, h3, h4, h5, h6, h7⟩ := h
  have hv := (wv_range hV).2
  have e1 : wvN S (t + (V.length + 1)) = wv S := by
    refine wvN_of_lt h3 ?_
    have k1 : wv V * 4294967296 ^ (t + 1) < 4294967296 ^ V.length * 4294967296 ^ (t + 1) := Int.mul_lt_mul_of_pos_right hv (q_pos _)
    rw [← Int.pow_add] at k1
    rw [show V.length + (t + 1) = t + (V.length + 1) from by omega] at k1
    omega
  have e2 := wvN_seg S t (V.length + 1)
  rw [e1] at e2
  refine ⟨e2, ?_⟩
  have h8 := (wvN_range h3 t).1
  have hp := q_pos t
  by_cases g : sgN S t (V.length + 1) < wv V * 4294967296
  · exact g
  · exfalso
    have k2 : 4294967296 ^ t * (wv V * 4294967296) ≤ 4294967296 ^ t * sgN S t (V.length + 1) := Int.mul_le_mul_of_nonneg_left (by omega) (by omega)
    rw [q_succ] at h2
    have k3 : 4294967296 ^ t * (wv V * 4294967296) = wv V * (4294967296 ^ t * 4294967296) := by rw [← Int.mul_assoc, Int.mul_comm (4294967296 ^ t : Int), Int.mul_assoc]
    omega
theorem LongRel.next {R V S T Qt : List Int} {j0 t : Nat} {q : Int} (h : LongRel R V j0 (t + 1) S Qt) (hV : Wd V) (hv0 : 0 < wv V) (hl : t + V.length < S.length) (hT : Wd T) (ho : Out S T t (V.length + 1)) (hq : q = sgN S t (V.length + 1) / wv V)
    (hs : sgN T t (V.length + 1) = sgN S t (V.length + 1) % wv V) (htl : t < j0) : LongRel R V j0 t T (Qt.set t q) := by
  obtain ⟨e1, e2⟩ := h.seg hV hl
  obtain ⟨h1, h2, h3, h4, h5, h6, h7⟩ := h
  have hu0 := (sgN_range h3 t (V.length + 1)).1
  have q0 : 0 ≤ q := by rw [hq]; exact Int.ediv_nonneg hu0 (by omega)
  have q1 : q < 4294967296 := by rw [hq]; exact Int.ediv_lt_of_lt_mul hv0 (by rw [Int.mul_comm]; exact e2)
  have hmod := Int.emod_add_mul_ediv (sgN S t (V.length + 1)) (wv V)
  have hr1 := Int.emod_lt_of_pos (sgN S t (V.length + 1)) hv0
  have hr0 := Int.emod_nonneg (sgN S t (V.length + 1)) (show wv V ≠ 0 by omega)
  rw [← hq, ← hs] at hmod
  rw [← hs] at hr1 hr0
  have hlow : wvN T t = wvN S t := wvN_congr (fun i hi => ho.2 i (.inl hi))
  have hw := wvN_range h3 t
  have hp := q_pos t
  have e3 : wv T = wvN S t + 4294967296 ^ t * sgN T t (V.length + 1) := by
    have k1 := wvN_seg T t (V.length + 1)
    rw [hlow] at k1
    have k2 : wv T - wvN T (t + (V.length + 1)) = wv S - wvN S (t + (V.length + 1)) := wv_same_top (fun i hi => ho.2 i (.inr (by omega)))
    have k3 := wvN_seg S t (V.length + 1)
    omega
  have hQl : t < Qt.length := by omega
  refine ⟨?_, ?_, hT, h4.set q0 (by omega), ho.1.trans h5, by simpa using h6, fun i hi => by rw [getD_set_other (by omega)]; exact h7 i (by omega)⟩
  · rw [wv_set hQl, h7 t (by omega), e3, ← h1, e1, ← hmod]
    generalize sgN T t (V.length + 1) = s
    generalize (4294967296 : Int) ^ t = P
    generalize wv V = v
    have k1 : v * (wv Qt + (q - 0) * P) = v * wv Qt + v * q * P := by rw [Int.sub_zero, Int.mul_add, ← Int.mul_assoc]
    have k2 : P * (s + v * q) = P * s + v * q * P := by rw [Int.mul_add, Int.mul_comm P (v * q)]
    omega
  · rw [e3]
    have k1 : 4294967296 ^ t * (sgN T t (V.length + 1) + 1) ≤ 4294967296 ^ t * wv V := Int.mul_le_mul_of_nonneg_left (by omega) (by omega)
    have k2 : 4294967296 ^ t * wv V = wv V * 4294967296 ^ t := Int.mul_comm _ _
    rw [Int.mul_add] at k1
    omega
set_option maxRecDepth 100000
open Go.RowKit
set_option linter.unusedVariables false
set_option maxRecDepth 100000
open Go.RowKit
set_option linter.unusedVariables false
theorem WRow.base {w : World} {B B' g cap : Nat} {a : List Int} (h : WRow w B g cap a) (hB : B' ≤ B) : WRow w B' g cap a := by
  obtain ⟨h1, h2⟩ := h
  refine ⟨h1, ?_⟩
  rcases h2 with h2 | ⟨g', cap', cur, e, h3, h4⟩
  · exact .inl h2
  · exact .inr ⟨g', cap', cur, e, by omega, h4⟩
theorem WRow.lt {w : World} {B g cap : Nat} {a : List Int} (h : WRow w B g cap a) : g < w.heap.size := h.facts.2.1
end Go.Proofs.YtigikgphipebiaaGreatDoor
/- Package ratio: quotients, roots, means and deviations. -/
namespace Go.Proofs.YtigikgphipebiaaGreatDoor
set_option maxRecDepth 100000
open Go.RowKit
set_option linter.unusedVariables false
theorem isNat_len {w : World} {p : Option Addr} {l c : Nat} {z : Int} (h : IsNat w (.slice p l c) z) : l = 0 ↔ z = 0 := by
  obtain ⟨a, h1, h2, h3⟩ := h
  obtain ⟨p', c', e⟩ := h1.shape
  simp only [Value.slice.injEq] at e
  have el : l = a.length := e.2.1
  constructor
  · intro h0
    have : a = [] := List.length_eq_zero_iff.1 (by omega)
    subst this; rw [← h3]; rfl
  · intro h0
    apply Classical.byContradiction
    intro hh
    have hne : a ≠ [] := fun e => hh (by rw [el, e]; rfl)
    have h4 := h2.wsize h1.2.1 hne
    have := q_pos (a.length - 1)
    omega
set_option maxRecDepth 100000
open Go.RowKit
set_option linter.unusedVariables false
set_option maxHeartbeats 400000 in
theorem wabs_any (a : Int) (h1 : -9223372036854775808 ≤ a) (h2 : a ≤ 9223372036854775807) (w : World) :
    Calls Tryz.prog 96 #[.int .i64 a] w fun e w' => e = .returned (.int .u64 (a.natAbs : Int)) ∧ w = w' := by
  by_cases h : a < 0
  · go_enter Tryz.func96, Tryz.ntmps96
    go_wp2
    go_ret
    exact ⟨ret_int (by first | omega | (simp [IntKind.wrap, IntKind.bits, IntKind.signed]; omega)), rfl⟩
  · have h' : 0 ≤ a := by omega
    go_enter Tryz.func96, Tryz.ntmps96
    go_wp2
    go_ret
    exact ⟨ret_int (by omega), rfl⟩
theorem words_two (n : Nat) : (4294967296 : Int) ^ n = 2 ^ (32 * n) := by
  rw [show (4294967296 : Int) = 2 ^ 32 by decide, ← Int.pow_mul]
theorem lt_bits {p N : Nat} (hb : bitsZ (p : Int) ≤ N) : p < 2 ^ N := by
  by_cases h0 : p = 0
  · rw [h0]; exact n_pow_pos _
  · exact (lt_two_iff h0 N).2 hb
end Go.Proofs.YtigikgphipebiaaGreatDoor
/- bushelref04: what just is a root. -/
namespace Go.Proofs.YtigikgphipebiaaGreatDoor
set_option maxRecDepth 100000
open Go.RowKit
set_option linter.unusedVariables false
/-- Two variables P and M, and what is read. -/
def PM (w : World) (P M : Nat) (a b c d : Value) (x y : Int) (wr : World) : Prop :=
  ((wr.cell? ⟨P, 0, none⟩ = some a ∧ wr.cell? ⟨P, 1, none⟩ = some b) ∧ (wr.cell? ⟨M, 0, none⟩ = some c ∧ wr.cell? ⟨M, 1, none⟩ = some d)) ∧ (Kept w P 89 wr ∧ Kept w M 89 wr ∧ P ≠ M) ∧ IsNum wr (.agg #[a, b]) x ∧ IsNum wr (.agg #[c, d]) y
theorem PM.call {w w1 w2 : World} {P M : Nat} {a b c d : Value} {x y : Int} (h : PM w P M a b c d x y w1) (hb : Below w1.heap.size w1 w2) : PM w P M a b c d x y w2 := by
  obtain ⟨⟨⟨h1, h2⟩, h3, h4⟩, ⟨h5, h6, h7⟩, h8, h9⟩ := h
  exact ⟨⟨⟨cell_later hb h1, cell_later hb h2⟩, cell_later hb h3, cell_later hb h4⟩, ⟨h5.call hb, h6.call hb, h7⟩, h8.below hb, h9.below hb⟩
theorem PM.storeP {w w1 : World} {P M : Nat} {a b c d u s : Value} {x y z : Int} (h : PM w P M a b c d x y w1) (hz : IsNum w1 (.agg #[u, s]) z) :
    PM w P M u s c d z y ((w1.setCell ⟨P, 0, none⟩ u).setCell ⟨P, 1, none⟩ s) := by
  obtain ⟨⟨⟨h1, h2⟩, h3, h4⟩, ⟨h5, h6, h7⟩, h8, h9⟩ := h
  exact ⟨⟨set_cells h5 u s, far_one h5 u s (fun e => h7 e.symm) _ _ h3, far_one h5 u s (fun e => h7 e.symm) _ _ h4⟩, ⟨h5.store u s, h6.far (fun e => h7 e.symm) h5.2.1 u s, h7⟩, h5.num hz, num_far h5 u s h9⟩
/-- Three variables, read, and what they hold. -/
def Tri (w : World) (X : Nat) (a b c d e f : Value) (wr : World) : Prop :=
  SixAt X (X + 1) (X + 2) a b c d e f wr ∧ Kept w (X + 1) 89 wr
theorem Tri.call {w w1 w2 : World} {X : Nat} {a b c d e f : Value} (h : Tri w X a b c d e f w1) (hb : Below w1.heap.size w1 w2) : Tri w X a b c d e f w2 := ⟨SixAt.call h.1 hb, h.2.call hb⟩
theorem Tri.start (w : World) (a b c d e f : Value) : Tri w w.heap.size a b c d e f (((w.alloc (.cells #[a, b] 89)).alloc (.cells #[c, d] 89)).alloc (.cells #[e, f] 89)) := by
  have h2 := below_two (w.alloc (.cells #[a, b] 89)) (.cells #[c, d] 89) (.cells #[e, f] 89)
  have h1 := below_one ((w.alloc (.cells #[a, b] 89)).alloc (.cells #[c, d] 89)) (.cells #[e, f] 89)
  refine ⟨⟨⟨cell_later h2 (by simp [go_sem]), cell_later h2 (by simp [go_sem])⟩, ⟨cell_later h1 (by simp [go_sem]), cell_later h1 (by simp [go_sem])⟩, by simp [go_sem], by simp [go_sem]⟩, ?_⟩
  have h3 := (Kept.start (w.alloc (.cells #[a, b] 89)) c d 89).down (below_one w _)
  simp only [World.size_alloc] at h3
  exact h3.call h1
theorem two_cast (N : Nat) : ((2 : Int) ^ N) = ((2 ^ N : Nat) : Int) := by simp
theorem SixAt.drew {X M P : Nat} {a b c d e f : Value} {w : World} (h : SixAt X M P a b c d e f w) : SixAt X M P a b c d e f w.drew := h.call (Below.refl _ _).drew
theorem SixAt.alloc {X M P : Nat} {a b c d e f : Value} {w : World} {o : Obj} (h : SixAt X M P a b c d e f w) : SixAt X M P a b c d e f (w.alloc o) := h.call (below_one w o)
theorem SixAt.set {X M P N : Nat} {a b c d e f u v : Value} {w : World} (h : SixAt X M P a b c d e f w) (h1 : X ≠ N) (h2 : M ≠ N) (h3 : P ≠ N) : SixAt X M P a b c d e f ((w.setCell ⟨N, 0, none⟩ u).setCell ⟨N, 1, none⟩ v) := by
  obtain ⟨⟨c1, c2⟩, ⟨c3, c4⟩, c5, c6⟩ := h
  refine ⟨⟨?_, ?_⟩, ⟨?_, ?_⟩, ?_, ?_⟩
  all_goals rw [World.cell?_setCell_far _ _ _ _ (by simp; omega), World.cell?_setCell_far _ _ _ _ (by simp; omega)]; assumption
set_option maxRecDepth 100000
open Go.RowKit
set_option linter.unusedVariables false
end Go.Proofs.YtigikgphipebiaaGreatDoor
/- bushelref04: deviations. -/
namespace Go.Proofs.YtigikgphipebiaaGreatDoor
set_option maxRecDepth 100000
open Go.RowKit
set_option linter.unusedVariables false
theorem run_qnan {P : Program} (t : TypeId) (w : World) : (binOp .quo t (.float .f64 0) (.float .f64 0)).run P w = .ok (.float .f64 (nanOf w 0)) w.drew := by
  have h2 : FloatKind.f64.format.div 0 0 = none := by decide +kernel
  simp [binOp, Op.floatArith, h2, nanOf, Question.forced]
theorem le_cast {z N K : Nat} (h : z < 2 ^ N) (hN : N ≤ K) : (z : Int) ≤ 2 ^ K := by
  rw [two_cast]
  exact Int.ofNat_le.2 (Nat.le_of_lt (Nat.lt_of_lt_of_le h (Nat.pow_le_pow_right (by decide) hN)))
theorem mid_of {z N : Nat} (h : bitsZ (z : Int) ≤ N) (hN : N ≤ 3300) : Mid z := le_cast (lt_bits h) hN
theorem num_abs {w : World} {b : Bool} {s : Value} {x : Int} (h : IsNum w (.agg #[.bool b, s]) x) : IsNum w (.agg #[.bool false, s]) (x.natAbs : Int) := by
  obtain ⟨neg, s', ds, e, h1, h2, h3, h4, h5, h6⟩ := h
  simp only [Value.agg.injEq, Array.mk.injEq, List.cons.injEq, and_true, Value.bool.injEq] at e
  obtain ⟨rfl, rfl⟩ := e
  refine ⟨false, s, ds, rfl, h1, h2, h3, h4, (fun e => by cases e), ?_⟩
  have h0 := (val_range h3).1
  rw [h6]
  cases b <;> simp [signed] <;> omega
set_option maxRecDepth 100000
open Go.RowKit
set_option linter.unusedVariables false
abbrev OneAt (X : Nat) (a b : Value) (w : World) : Prop := w.cell? ⟨X, 0, none⟩ = some a ∧ w.cell? ⟨X, 1, none⟩ = some b
theorem OneAt.call {X : Nat} {a b : Value} {w w' : World} (h : OneAt X a b w) (hb : Below w.heap.size w w') : OneAt X a b w' := ⟨cell_later hb h.1, cell_later hb h.2⟩
theorem OneAt.alloc {X : Nat} {a b : Value} {w : World} {o : Obj} (h : OneAt X a b w) : OneAt X a b (w.alloc o) := h.call (below_one w o)
theorem OneAt.drew {X : Nat} {a b : Value} {w : World} (h : OneAt X a b w) : OneAt X a b w.drew := h.call (Below.refl _ _).drew
theorem OneAt.set {X M : Nat} {a b u v : Value} {w : World} (h : OneAt X a b w) (hne : X ≠ M) : OneAt X a b ((w.setCell ⟨M, 0, none⟩ u).setCell ⟨M, 1, none⟩ v) := by
  obtain ⟨h1, h2⟩ := h
  exact ⟨by rw [World.cell?_setCell_far _ _ _ _ (by simp; omega), World.cell?_setCell_far _ _ _ _ (by simp; omega)]; exact h1, by rw [World.cell?_setCell_far _ _ _ _ (by simp; omega), World.cell?_setCell_far _ _ _ _ (by simp; omega)]; exact h2⟩
theorem OneAt.lt {X : Nat} {a b : Value} {w : World} (h : OneAt X a b w) : X < w.heap.size := World.block_lt_of_cell? w ⟨X, 0, none⟩ h.1
/-- Three numbers that are read from their variables. -/
def Fin3 (w : World) (O Y M : Nat) (a b c d g h : Value) (x y z : Int) (wr : World) : Prop :=
  SixAt O Y M a b c d g h wr ∧ Below w.heap.size w wr ∧ IsNum wr (.agg #[a, b]) x ∧ IsNum wr (.agg #[c, d]) y ∧ IsNum wr (.agg #[g, h]) z
theorem Fin3.call {w w1 w2 : World} {O Y M : Nat} {a b c d g h : Value} {x y z : Int} (k : Fin3 w O Y M a b c d g h x y z w1) (hb : Below w1.heap.size w1 w2) : Fin3 w O Y M a b c d g h x y z w2 := by
  obtain ⟨h1, h2, h3, h4, h5⟩ := k
  exact ⟨SixAt.call h1 hb, below_then h2 hb, h3.below hb, h4.below hb, h5.below hb⟩
/-- Two numbers that are read from their variables. -/
def Fin2 (w : World) (O Y : Nat) (a b c d : Value) (x y : Int) (wr : World) : Prop :=
  (OneAt O a b wr ∧ OneAt Y c d wr) ∧ Below w.heap.size w wr ∧ IsNum wr (.agg #[a, b]) x ∧ IsNum wr (.agg #[c, d]) y
theorem Fin2.call {w w1 w2 : World} {O Y : Nat} {a b c d : Value} {x y : Int} (k : Fin2 w O Y a b c d x y w1) (hb : Below w1.heap.size w1 w2) : Fin2 w O Y a b c d x y w2 := by
  obtain ⟨⟨h1, h2⟩, h3, h4, h5⟩ := k
  exact ⟨⟨OneAt.call h1 hb, OneAt.call h2 hb⟩, below_then h3 hb, h4.below hb, h5.below hb⟩
set_option maxRecDepth 100000
open Go.RowKit
set_option linter.unusedVariables false
theorem num_neg {w : World} {b : Bool} {s : Value} {z : Int} (h : IsNum w (.agg #[.bool b, s]) z) : b = decide (z < 0) := by
  obtain ⟨neg, s', ds, e, h1, h2, h3, h4, h5, h6⟩ := h
  simp only [Value.agg.injEq, Array.mk.injEq, List.cons.injEq, and_true, Value.bool.injEq] at e
  obtain ⟨rfl, rfl⟩ := e
  have h0 := (val_range h3).1
  cases b
  · rw [h6, eq_comm, decide_eq_false_iff_not]
    have e : signed false (val ds) = val ds := rfl
    rw [e]; omega
  · have hne := h5 rfl
    have hz := h4.zero h3
    have : val ds ≠ 0 := fun e => hne (hz.1 e)
    rw [h6, eq_comm, decide_eq_true_eq]
    have e : signed true (val ds) = -val ds := rfl
    rw [e]; omega
end Go.Proofs.YtigikgphipebiaaGreatDoor
/- The examples of the chapter on ratio. -/
namespace Go.Proofs.YtigikgphipebiaaGreatDoor
set_option maxRecDepth 100000
open Go.RowKit
set_option linter.unusedVariables false
theorem same_val {c d : Nat} {q p b : Int} (h : SameD c q d p) (hq : b ≤ q) (hp : b ≤ p) : c * 2 ^ (q - b).toNat = d * 2 ^ (p - b).toNat := by
  obtain ⟨k, ⟨h1, h2⟩ | ⟨h1, h2⟩⟩ := h
  · rw [h2, show (q - b).toNat = k + (p - b).toNat by omega, Nat.pow_add, Nat.mul_assoc]
  · rw [h2, show (p - b).toNat = k + (q - b).toNat by omega, Nat.pow_add, Nat.mul_assoc]
theorem FV.mono {R S c d : Nat} {q : Int} (h : FV false R c q) (k : FV false S d q) (hcd : c ≤ d) : R ≤ S := by
  obtain ⟨c1, q1, s1, k1, l1, rfl⟩ := h
  obtain ⟨d1, p1, s2, k2, l2, rfl⟩ := k
  show rungOf c1 q1 ≤ rungOf d1 p1
  apply Nat.le_of_not_lt
  intro hlt
  obtain ⟨b, hb⟩ : ∃ b : Int, b = min (min p1 q1) q := ⟨_, rfl⟩
  obtain ⟨m, hm⟩ : ∃ m : Int, m = min p1 q1 := ⟨_, rfl⟩
  have h1 := (canon_cmp k2 k1 m hm).2 hlt
  have h2 := same_val s1 (b := b) (by omega) (by omega)
  have h3 := same_val s2 (b := b) (by omega) (by omega)
  obtain ⟨t, ht⟩ := Int.eq_ofNat_of_zero_le (a := m - b) (by omega)
  have h4 : d1 * 2 ^ (p1 - b).toNat < c1 * 2 ^ (q1 - b).toNat := by
    rw [show (p1 - b).toNat = (p1 - m).toNat + t by omega, show (q1 - b).toNat = (q1 - m).toNat + t by omega, Nat.pow_add, Nat.pow_add, ← Nat.mul_assoc, ← Nat.mul_assoc]
    exact Nat.mul_lt_mul_of_pos_right h1 (n_pow_pos t)
  rw [← h2, ← h3] at h4
  have := Nat.mul_le_mul_right (2 ^ (q - b).toNat) hcd
  omega
set_option maxRecDepth 100000
open Go.RowKit
set_option linter.unusedVariables false
/-- The sum of the squares of the distances from y. -/
def away (k : Int) (s1 s2 y : Int) : Int := s2 - 2 * y * s1 + k * (y * y)
def spread (k s1 s2 : Int) : Int := k * s2 - s1 * s1
/-- What holds of k numbers. -/
def Stat (k : Nat) (s1 s2 lo hi : Int) : Prop :=
  lo ≤ hi ∧ lo * k ≤ s1 ∧ s1 ≤ hi * k ∧ (k = 0 → lo = hi) ∧ 0 ≤ spread k s1 s2 ∧ (spread k s1 s2 = 0 ↔ lo = hi) ∧ spread k s1 s2 ≤ (hi - lo) * (hi - lo) * (k * k) ∧
  (∀ y, 0 ≤ away k s1 s2 y ∧ (away k s1 s2 y = 0 → k = 0 ∨ (lo = y ∧ hi = y)) ∧ (lo = y → hi = y → away k s1 s2 y = 0) ∧ (∀ M, 0 ≤ M → -M ≤ lo - y → hi - y ≤ M → away k s1 s2 y ≤ k * (M * M)))
theorem Stat.start (x : Int) : Stat 0 0 0 x x := by
  have e1 : spread (0 : Nat) 0 0 = 0 := by decide
  have e2 : ∀ y, away (0 : Nat) 0 0 y = 0 := fun y => by unfold away; simp
  refine ⟨Int.le_refl _, by simp, by simp, fun _ => rfl, by omega, ⟨fun _ => rfl, fun _ => e1⟩, by rw [e1]; simp, fun y => ?_⟩
  rw [e2]
  exact ⟨by omega, fun _ => .inl rfl, fun _ _ => rfl, fun M _ _ _ => by simp⟩
theorem away_step (k s1 s2 x y : Int) : away (k + 1) (s1 + x) (s2 + x * x) y = away k s1 s2 y + (x - y) * (x - y) := by unfold away; grind
theorem spread_step (k s1 s2 x : Int) : spread (k + 1) (s1 + x) (s2 + x * x) = spread k s1 s2 + away k s1 s2 x := by unfold spread away; grind
theorem sq_zero {a : Int} (h : a * a = 0) : a = 0 := by rcases Int.mul_eq_zero.1 h with h | h <;> exact h
theorem sq_nonneg (a : Int) : 0 ≤ a * a := by
  have := Int.natAbs_mul_self (a := a)
  omega
theorem sq_le {a M : Int} (h1 : -M ≤ a) (h2 : a ≤ M) : a * a ≤ M * M := by
  have h3 : a.natAbs ≤ M.natAbs := by omega
  have h4 := Nat.mul_le_mul h3 h3
  have e1 := Int.natAbs_mul_self (a := a)
  have e2 := Int.natAbs_mul_self (a := M)
  omega
theorem Stat.step {k : Nat} {s1 s2 lo hi x : Int} (h : Stat k s1 s2 lo hi) (hx : k = 0 → x = lo) : Stat (k + 1) (s1 + x) (s2 + x * x) (min lo x) (max hi x) := by
  obtain ⟨h1, h2, h3, h0, h4, h5, h6, h7⟩ := h
  have hk : ((k + 1 : Nat) : Int) = (k : Int) + 1 := by omega
  obtain ⟨a1, a2, a3, a4⟩ := h7 x
  have hmin : min lo x ≤ lo ∧ min lo x ≤ x := by omega
  have hmax : hi ≤ max hi x ∧ x ≤ max hi x := by omega
  have hk0 : (0 : Int) ≤ k := by omega
  refine ⟨by omega, ?_, ?_, fun e => by omega, ?_, ?_, ?_, fun y => ?_⟩
  · rw [hk, Int.mul_add, Int.mul_one]
    have := Int.mul_le_mul_of_nonneg_right hmin.1 hk0
    omega
  · rw [hk, Int.mul_add, Int.mul_one]
    have := Int.mul_le_mul_of_nonneg_right hmax.1 hk0
    omega
  · rw [hk, spread_step]; omega
  · rw [hk, spread_step]
    constructor
    · intro e
      have e1 : lo = hi := h5.1 (by omega)
      rcases a2 (by omega) with e2 | ⟨e2, e3⟩
      · have := hx e2; omega
      · omega
    · intro e
      have e1 : lo = hi := by omega
      have e2 : lo = x := by omega
      have := h5.2 e1
      have := a3 e2 (by omega)
      omega
  · rw [hk, spread_step]
    have hW : 0 ≤ max hi x - min lo x := by omega
    have b1 := a4 (max hi x - min lo x) hW (by omega) (by omega)
    have b2 : (hi - lo) * (hi - lo) ≤ (max hi x - min lo x) * (max hi x - min lo x) := Int.mul_le_mul (by omega) (by omega) (by omega) hW
    have b3 := Int.mul_le_mul_of_nonneg_right b2 (Int.mul_nonneg hk0 hk0)
    have b4 : (max hi x - min lo x) * (max hi x - min lo x) * (((k : Int) + 1) * (k + 1)) = (max hi x - min lo x) * (max hi x - min lo x) * (k * k) + k * ((max hi x - min lo x) * (max hi x - min lo x)) + k * ((max hi x - min lo x) * (max hi x - min lo x)) + (max hi x - min lo x) * (max hi x - min lo x) := by grind
    have b5 := sq_nonneg (max hi x - min lo x)
    have b6 := Int.mul_nonneg hk0 b5
    omega
  · rw [hk, away_step]
    obtain ⟨c1, c2, c3, c4⟩ := h7 y
    have d1 := sq_nonneg (x - y)
    refine ⟨by omega, fun e => .inr ?_, fun e1 e2 => ?_, fun M m0 m1 m2 => ?_⟩
    · have e1 := sq_zero (a := x - y) (by omega)
      rcases c2 (by omega) with e2 | ⟨e2, e3⟩
      · have := hx e2
        have := h0 e2
        omega
      · omega
    · have e3 : lo = y := by omega
      have e4 : hi = y := by omega
      have e5 : x - y = 0 := by omega
      rw [c3 e3 e4, e5]; rfl
    · have f1 := c4 M m0 (by omega) (by omega)
      have f2 := sq_le (a := x - y) (M := M) (by omega) (by omega)
      rw [Int.add_mul, Int.one_mul]
      omega
set_option maxRecDepth 100000
open Go.RowKit
set_option linter.unusedVariables false
end Go.Proofs.YtigikgphipebiaaGreatDoor
/- What package ratio and its reference answer is the same. -/
namespace Go.Proofs.YtigikgphipebiaaGreatDoor
set_option maxRecDepth 100000
open Go.RowKit
set_option linter.unusedVariables false
theorem same_self (x : Nat) : sameB x x = true := by unfold sameB; simp
theorem nan_same {x y : Nat} (hx : W64 x) (hy : W64 y) (h : isNaNB x = true) (k : isNaNB y = true) : sameB x y = true := by
  rw [same_nan hx hy (.inl h), h, k]; rfl
theorem nan_w64 : W64 9221120237041090561 := by decide
theorem nan_is : isNaNB 9221120237041090561 = true := by decide
theorem sign_fits4 (b : Bool) {R : Nat} (h : W64 R) : W64 (signN b R) := by
  unfold signN
  cases b with
  | false => rw [if_neg (by decide)]; exact h
  | true => rw [if_pos rfl]; exact flip_w64 h
end Go.Proofs.YtigikgphipebiaaGreatDoor
