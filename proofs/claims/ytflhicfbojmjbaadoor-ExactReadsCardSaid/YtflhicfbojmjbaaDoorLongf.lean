/- What Div of package nat returns, of any two numbers. -/
import Derived.Test.YtflhicfbojmjbaaDoorNato
import Derived.Test.YtflhicfbojmjbaaDoorNatr
import Derived.Deep.RegionWith
import Derived.Deep.QuietTactic
import Derived.BigQuiet
import Derived.Outline
import Derived.Deep.DeepCutAuto
import Derived.Deep.CutBlock
namespace Go.Proofs.YtflhicfbojmjbaaDoor
set_option maxRecDepth 100000
open Go.RowKit
set_option linter.unusedVariables false
/-- The number of m words from place k on. -/
def sgN (R : List Int) (k : Nat) : Nat → Int
  | 0 => 0
  | m + 1 => sgN R k m + R.getD (k + m) 0 * 4294967296 ^ m
theorem sgN_congr {R S : List Int} {k m : Nat} (h : ∀ i, i < m → R.getD (k + i) 0 = S.getD (k + i) 0) : sgN R k m = sgN S k m := by
  induction m with
  | zero => rfl
  | succ m ih => rw [sgN, sgN, ih (fun i hi => h i (by omega)), h m (by omega)]
theorem sgN_range {R : List Int} (h : Wd R) (k m : Nat) : 0 ≤ sgN R k m ∧ sgN R k m < 4294967296 ^ m := by
  induction m with
  | zero => simp [sgN]
  | succ m ih =>
    have hd := h.getD (k + m)
    have hp := q_pos m
    rw [sgN, q_succ]
    have h1 : 0 ≤ R.getD (k + m) 0 * 4294967296 ^ m := Int.mul_nonneg hd.1 (by omega)
    have h2 : R.getD (k + m) 0 * 4294967296 ^ m ≤ 4294967295 * 4294967296 ^ m := Int.mul_le_mul_of_nonneg_right hd.2 (by omega)
    omega
theorem wvN_seg (R : List Int) (k m : Nat) : wvN R (k + m) = wvN R k + 4294967296 ^ k * sgN R k m := by
  induction m with
  | zero => simp [sgN]
  | succ m ih =>
    rw [← Nat.add_assoc, wvN, ih, sgN, Int.mul_add, Int.pow_add]
    have : R.getD (k + m) 0 * (4294967296 ^ k * 4294967296 ^ m) = 4294967296 ^ k * (R.getD (k + m) 0 * 4294967296 ^ m) := by
      rw [← Int.mul_assoc, Int.mul_comm (R.getD (k + m) 0), Int.mul_assoc]
    omega
theorem sgN_set_low {R : List Int} {k i m : Nat} {x : Int} (h : m ≤ i) : sgN (R.set (k + i) x) k m = sgN R k m :=
  sgN_congr (fun j hj => getD_set_other (by omega))
theorem sgN_set_succ {R : List Int} {k i : Nat} {x : Int} (h : k + i < R.length) : sgN (R.set (k + i) x) k (i + 1) = sgN R k i + x * 4294967296 ^ i := by
  rw [sgN, sgN_set_low (Nat.le_refl _), getD_set_self h]
/-- Outside of m words from place k on nothing differs. -/
def Out (R S : List Int) (k m : Nat) : Prop := S.length = R.length ∧ ∀ j, j < k ∨ k + m ≤ j → S.getD j 0 = R.getD j 0
theorem Out.refl (R : List Int) (k m : Nat) : Out R R k m := ⟨rfl, fun _ _ => rfl⟩
theorem Out.set {R S : List Int} {k m i : Nat} {x : Int} (h : Out R S k m) (hi : i < m) : Out R (S.set (k + i) x) k m :=
  ⟨by simpa using h.1, fun j hj => by rw [getD_set_other (by omega)]; exact h.2 j hj⟩
theorem Out.trans {R S T : List Int} {k m : Nat} (h : Out R S k m) (g : Out S T k m) : Out R T k m := ⟨g.1.trans h.1, fun j hj => (g.2 j hj).trans (h.2 j hj)⟩
/-- digit times the divisor is taken from the words from place k on: i of them are done. -/
def TakeRel (R V : List Int) (k : Nat) (q : Int) (i : Nat) (S : List Int) (c b : Int) : Prop :=
  sgN S k i = sgN R k i - q * wvN V i + 4294967296 ^ i * (c + b) ∧ Wd S ∧ Out R S k (V.length + 1) ∧ (∀ j, k + i ≤ j → S.getD j 0 = R.getD j 0) ∧ 0 ≤ c ∧ c ≤ 4294967295 ∧ 0 ≤ b ∧ b ≤ 1
theorem TakeRel.start {R : List Int} (V : List Int) (k : Nat) (q : Int) (h : Wd R) : TakeRel R V k q 0 R 0 0 := ⟨by simp [sgN, wvN], h, Out.refl _ _ _, fun _ _ => rfl, by omega, by omega, by omega, by omega⟩
theorem prod_bounds {x y c : Int} (h1 : 0 ≤ x) (h2 : x ≤ 4294967295) (h3 : 0 ≤ y) (h4 : y ≤ 4294967295) (c0 : 0 ≤ c) (c1 : c ≤ 4294967295) : 0 ≤ c + x * y ∧ c + x * y ≤ 18446744069414584320 := by
  have h5 : 0 ≤ x * y := Int.mul_nonneg h1 h3
  have h6 : x * y ≤ 4294967295 * 4294967295 := Int.mul_le_mul h2 h4 h3 (by omega)
  omega
theorem TakeRel.step {R V S : List Int} {k i : Nat} {q c b : Int} (h : TakeRel R V k q i S c b) (hV : Wd V) (hi : i < V.length) (hk : k + V.length < R.length) (q0 : 0 ≤ q) (q1 : q ≤ 4294967295) (x v : Int) (hx : S.getD (k + i) 0 = x) (hv : V.getD i 0 = v) :
    TakeRel R V k q (i + 1) (S.set (k + i) ((x - (c + v * q) % 4294967296 - b) % 4294967296)) ((c + v * q) / 4294967296) (-((x - (c + v * q) % 4294967296 - b) / 4294967296)) := by
  obtain ⟨h1, h2, h3, h4, h5, h6, h7, h8⟩ := h
  have hxr := h2.getD (k + i)
  have hxR := h4 (k + i) (Nat.le_refl _)
  have hvr := hV.getD i
  rw [hx] at hxr hxR
  rw [hv] at hvr
  have hb := prod_bounds hvr.1 hvr.2 q0 q1 h5 h6
  refine ⟨?_, h2.set (by omega) (by omega), h3.set (by omega), fun j hj => ?_, by omega, by omega, by omega, by omega⟩
  · have hl : k + i < S.length := by rw [h3.1]; omega
    rw [sgN_set_succ hl, h1, sgN, ← hxR, wvN, hv, q_succ]
    generalize ht : c + v * q = t at *
    have e1 : t = t % 4294967296 + 4294967296 * (t / 4294967296) := by omega
    have e2 : x - t % 4294967296 - b = (x - t % 4294967296 - b) % 4294967296 + 4294967296 * ((x - t % 4294967296 - b) / 4294967296) := by omega
    generalize hlow : t % 4294967296 = low at *
    generalize hcc : t / 4294967296 = c' at *
    generalize hdd : (x - low - b) % 4294967296 = d at *
    generalize hbb : (x - low - b) / 4294967296 = bb at *
    generalize (4294967296 : Int) ^ i = P at *
    have k1 : P * 4294967296 * (c' + -bb) = P * (4294967296 * c' - 4294967296 * bb) := by rw [Int.mul_assoc, Int.mul_add, Int.mul_neg]; rfl
    have k2 : d = x - low - b - 4294967296 * bb := by omega
    have k3 : low = c + v * q - 4294967296 * c' := by omega
    have k4 : q * (wvN V i + v * P) = q * wvN V i + v * q * P := by rw [Int.mul_add, ← Int.mul_assoc, Int.mul_comm q v]
    rw [k1, k4, k2, k3]
    have k5 : (x - (c + v * q - 4294967296 * c') - b - 4294967296 * bb) * P = x * P - v * q * P - P * (c + b) + P * (4294967296 * c' - 4294967296 * bb) := by
      rw [show x - (c + v * q - 4294967296 * c') - b - 4294967296 * bb = x - v * q - (c + b) + (4294967296 * c' - 4294967296 * bb) from by omega, Int.add_mul, Int.sub_mul, Int.sub_mul, Int.mul_comm (c + b), Int.mul_comm (4294967296 * c' - 4294967296 * bb)]
    omega
  · rw [getD_set_other (by omega)]; exact h4 j (by omega)
theorem TakeRel.stop {R V S : List Int} {k : Nat} {q c b : Int} (h : TakeRel R V k q V.length S c b) (hk : k + V.length < R.length) (x : Int) (hx : S.getD (k + V.length) 0 = x) :
    sgN (S.set (k + V.length) ((x - c - b) % 4294967296)) k (V.length + 1) = sgN R k (V.length + 1) - q * wv V + 4294967296 ^ (V.length + 1) * (-((x - c - b) / 4294967296)) ∧
    Wd (S.set (k + V.length) ((x - c - b) % 4294967296)) ∧ Out R (S.set (k + V.length) ((x - c - b) % 4294967296)) k (V.length + 1) := by
  obtain ⟨h1, h2, h3, h4, h5, h6, h7, h8⟩ := h
  have hxR := h4 (k + V.length) (Nat.le_refl _)
  rw [hx] at hxR
  refine ⟨?_, h2.set (by omega) (by omega), h3.set (by omega)⟩
  have hl : k + V.length < S.length := by rw [h3.1]; omega
  rw [sgN_set_succ hl, h1, sgN, ← hxR, q_succ]
  have hw : wvN V V.length = wv V := rfl
  rw [hw]
  generalize (4294967296 : Int) ^ V.length = P at *
  have e2 : (x - c - b) % 4294967296 = x - c - b - 4294967296 * ((x - c - b) / 4294967296) := by omega
  rw [e2]
  generalize (x - c - b) / 4294967296 = bb at *
  have k1 : (x - c - b - 4294967296 * bb) * P = x * P - P * (c + b) + P * 4294967296 * -bb := by
    rw [show x - c - b - 4294967296 * bb = x - (c + b) + 4294967296 * -bb from by omega, Int.add_mul, Int.sub_mul]
    have k2 : P * (c + b) = (c + b) * P := Int.mul_comm _ _
    have k3 : P * 4294967296 * -bb = 4294967296 * -bb * P := by rw [Int.mul_comm P 4294967296, Int.mul_assoc, Int.mul_comm P (-bb), ← Int.mul_assoc]
    omega
  omega
/-- The divisor is given back: i words are done. -/
def GiveRel (R V : List Int) (k i : Nat) (S : List Int) (c : Int) : Prop :=
  sgN S k i + 4294967296 ^ i * c = sgN R k i + wvN V i ∧ Wd S ∧ Out R S k (V.length + 1) ∧ (∀ j, k + i ≤ j → S.getD j 0 = R.getD j 0) ∧ 0 ≤ c ∧ c ≤ 1
theorem GiveRel.start {R : List Int} (V : List Int) (k : Nat) (h : Wd R) : GiveRel R V k 0 R 0 := ⟨by simp [sgN, wvN], h, Out.refl _ _ _, fun _ _ => rfl, by omega, by omega⟩
theorem GiveRel.step {R V S : List Int} {k i : Nat} {c : Int} (h : GiveRel R V k i S c) (hV : Wd V) (hi : i < V.length) (hk : k + V.length < R.length) (x v : Int) (hx : S.getD (k + i) 0 = x) (hv : V.getD i 0 = v) :
    GiveRel R V k (i + 1) (S.set (k + i) ((x + v + c) % 4294967296)) ((x + v + c) / 4294967296) := by
  obtain ⟨h1, h2, h3, h4, h5, h6⟩ := h
  have hxr := h2.getD (k + i)
  have hxR := h4 (k + i) (Nat.le_refl _)
  have hvr := hV.getD i
  rw [hx] at hxr hxR
  rw [hv] at hvr
  refine ⟨?_, h2.set (by omega) (by omega), h3.set (by omega), fun j hj => ?_, by omega, by omega⟩
  · have hl : k + i < S.length := by rw [h3.1]; omega
    rw [sgN_set_succ hl, sgN, ← hxR, wvN, hv, q_succ]
    have e := wcarry_step (x + v + c) (4294967296 ^ i)
    generalize (4294967296 : Int) ^ i = P at *
    have e1 : (x + v + c) * P = x * P + v * P + c * P := by rw [Int.add_mul, Int.add_mul]
    have e2 : P * 4294967296 * ((x + v + c) / 4294967296) = (x + v + c) / 4294967296 * (P * 4294967296) := Int.mul_comm _ _
    have e3 : P * c = c * P := Int.mul_comm _ _
    omega
  · rw [getD_set_other (by omega)]; exact h4 j (by omega)
theorem GiveRel.stop {R V S : List Int} {k : Nat} {c : Int} (h : GiveRel R V k V.length S c) (hk : k + V.length < R.length) (x : Int) (hx : S.getD (k + V.length) 0 = x) :
    (∃ t : Int, sgN (S.set (k + V.length) ((x + c) % 4294967296)) k (V.length + 1) = sgN R k (V.length + 1) + wv V - 4294967296 ^ (V.length + 1) * t) ∧
    Wd (S.set (k + V.length) ((x + c) % 4294967296)) ∧ Out R (S.set (k + V.length) ((x + c) % 4294967296)) k (V.length + 1) := by
  obtain ⟨h1, h2, h3, h4, h5, h6⟩ := h
  have hxR := h4 (k + V.length) (Nat.le_refl _)
  rw [hx] at hxR
  refine ⟨⟨(x + c) / 4294967296, ?_⟩, h2.set (by omega) (by omega), h3.set (by omega)⟩
  have hl : k + V.length < S.length := by rw [h3.1]; omega
  rw [sgN_set_succ hl, sgN, ← hxR, q_succ]
  have hw : wvN V V.length = wv V := rfl
  rw [hw] at h1
  generalize (4294967296 : Int) ^ V.length = P at *
  have e2 : (x + c) % 4294967296 = x + c - 4294967296 * ((x + c) / 4294967296) := by omega
  rw [e2]
  generalize (x + c) / 4294967296 = t at *
  have k1 : (x + c - 4294967296 * t) * P = x * P + P * c - P * 4294967296 * t := by
    rw [Int.sub_mul, Int.add_mul, Int.mul_comm c, Int.mul_comm (4294967296 * t), Int.mul_assoc]
  omega
/-- What a guess is good for: top three words against top two. -/
def Guessed (u3 v2 q : Int) : Prop := 0 ≤ q ∧ q ≤ 4294967295 ∧ q * v2 ≤ u3 ∧ (4294967295 ≤ q ∨ u3 < (q + 1) * v2)
/-- .. and so of all words: the digit itself, or one more. -/
theorem Guessed.digit {u3 v2 q L u v ul vl : Int} (h : Guessed u3 v2 q) (hL : 0 < L) (hu : u = u3 * L + ul) (hv : v = v2 * L + vl) (u0 : 0 ≤ ul) (u1 : ul < L) (v0 : 0 ≤ vl) (v1 : vl < L) (hv2 : 4294967296 ≤ v2) (hlt : u < v * 4294967296) (hu3 : 0 ≤ u3) :
    u / v ≤ q ∧ q ≤ u / v + 1 := by
  obtain ⟨q0, q1, q2, q3⟩ := h
  have hv2L : 0 < v2 * L := Int.mul_pos (by omega) hL
  have hvp : 0 < v := by omega
  constructor
  · have h1 : u / v ≤ 4294967295 := by
      have : u / v < 4294967296 := Int.ediv_lt_of_lt_mul hvp (by rw [Int.mul_comm]; exact hlt)
      omega
    rcases q3 with q3 | q3
    · omega
    · have h2 : u < (q + 1) * v := by
        have k1 : u3 + 1 ≤ (q + 1) * v2 := q3
        have k2 : (u3 + 1) * L ≤ (q + 1) * v2 * L := Int.mul_le_mul_of_nonneg_right k1 (by omega)
        have k3 : (q + 1) * v = (q + 1) * v2 * L + (q + 1) * vl := by rw [hv, Int.mul_add, Int.mul_assoc]
        have k4 : 0 ≤ (q + 1) * vl := Int.mul_nonneg (by omega) v0
        rw [Int.add_mul] at k2
        omega
      have := Int.ediv_lt_of_lt_mul hvp h2
      omega
  · have h3 : (q - 1) * v ≤ u := by
      by_cases hq : q = 0
      · subst hq
        have k5 : 0 ≤ u3 * L := Int.mul_nonneg hu3 (by omega)
        have k6 : (0 - 1) * v = -v := by omega
        omega
      · have k1 : (q - 1) * v ≤ (q - 1) * ((v2 + 1) * L) := Int.mul_le_mul_of_nonneg_left (by rw [Int.add_mul]; omega) (by omega)
        have k2 : (q - 1) * ((v2 + 1) * L) = ((q - 1) * (v2 + 1)) * L := (Int.mul_assoc _ _ _).symm
        have k3 : (q - 1) * (v2 + 1) ≤ u3 := by
          rw [Int.sub_mul, Int.mul_add]; omega
        have k4 : ((q - 1) * (v2 + 1)) * L ≤ u3 * L := Int.mul_le_mul_of_nonneg_right k3 (by omega)
        omega
    have := (Int.le_ediv_iff_mul_le hvp).2 h3
    omega
/-- The loop that lowers the guess. -/
def GuessRel (h l head p d r : Int) : Prop := d * h + r = head ∧ 0 ≤ d ∧ 0 ≤ r ∧ (4294967295 ≤ d ∨ head * 4294967296 + p < (d + 1) * (h * 4294967296 + l))
theorem GuessRel.start {h l head p : Int} (h0 : 0 < h) (l0 : 0 ≤ l) (p1 : p ≤ 4294967295) (hd0 : 0 ≤ head) : GuessRel h l head p (head / h) (head % h) := by
  have e := Int.emod_add_mul_ediv head h
  have r1 := Int.emod_lt_of_pos head h0
  have r0 := Int.emod_nonneg head (show h ≠ 0 by omega)
  refine ⟨by rw [Int.mul_comm]; omega, Int.ediv_nonneg hd0 (by omega), r0, .inr ?_⟩
  generalize head / h = d at *
  generalize head % h = r at *
  have k1 : head + 1 ≤ (d + 1) * h := by rw [Int.add_mul, Int.mul_comm d]; omega
  have k2 : (head + 1) * 4294967296 ≤ (d + 1) * h * 4294967296 := Int.mul_le_mul_of_nonneg_right k1 (by omega)
  have hdn : 0 ≤ d + 1 := by
    by_cases hh : 0 ≤ d + 1
    · exact hh
    · exfalso
      have : (d + 1) * h ≤ 0 := Int.mul_nonpos_of_nonpos_of_nonneg (by omega) (by omega)
      omega
  have k3 : 0 ≤ (d + 1) * l := Int.mul_nonneg hdn l0
  rw [Int.mul_add, ← Int.mul_assoc]
  omega
theorem guess_test {h l head p d r : Int} (hg : GuessRel h l head p d r) : (r * 4294967296 + p < d * l) ↔ (head * 4294967296 + p < d * (h * 4294967296 + l)) := by
  obtain ⟨g1, g2, g3, g4⟩ := hg
  have e : d * (h * 4294967296 + l) = d * h * 4294967296 + d * l := by rw [Int.mul_add, ← Int.mul_assoc]
  rw [e, ← g1, Int.add_mul]
  omega
theorem GuessRel.down {h l head p d r : Int} (hg : GuessRel h l head p d r) (hh : 0 ≤ h) (hd : 4294967296 ≤ d ∨ r * 4294967296 + p < d * l) (d1 : 1 ≤ d) : GuessRel h l head p (d - 1) (r + h) := by
  have ht := guess_test hg
  obtain ⟨g1, g2, g3, g4⟩ := hg
  refine ⟨by rw [Int.sub_mul]; omega, by omega, by omega, ?_⟩
  rcases hd with hd | hd
  · exact .inl (by omega)
  · right
    have := ht.1 hd
    rw [show d - 1 + 1 = d from by omega]
    exact this
theorem GuessRel.stop {h l head p d r : Int} (hg : GuessRel h l head p d r) (hd : d ≤ 4294967295) (ht : d * l ≤ r * 4294967296 + p) : Guessed (head * 4294967296 + p) (h * 4294967296 + l) d := by
  have h2 := guess_test hg
  obtain ⟨g1, g2, g3, g4⟩ := hg
  refine ⟨g2, hd, ?_, g4⟩
  have : ¬ (head * 4294967296 + p < d * (h * 4294967296 + l)) := fun e => by have := h2.2 e; omega
  omega
set_option maxRecDepth 100000
open Go.RowKit
set_option linter.unusedVariables false
/-- The row behind the call: S. -/
def RowPost (B g cap : Nat) (S : List Int) (w w' : World) : Prop := WRow w' B g cap S ∧ Wd S ∧ Only g w w'
def TakePost (B g cap k : Nat) (R V : List Int) (q : Int) (w : World) (e : Ending) (w' : World) : Prop :=
  ∃ (S : List Int) (b : Bool), e = .returned (.bool b) ∧ RowPost B g cap S w w' ∧ Out R S k (V.length + 1) ∧ sgN S k (V.length + 1) = sgN R k (V.length + 1) - q * wv V + 4294967296 ^ (V.length + 1) * (bif b then 1 else 0)
def GivePost (B g cap k : Nat) (R V : List Int) (w : World) (e : Ending) (w' : World) : Prop :=
  ∃ (S : List Int) (t : Int), e = .returned (.tuple #[]) ∧ RowPost B g cap S w w' ∧ Out R S k (V.length + 1) ∧ sgN S k (V.length + 1) = sgN R k (V.length + 1) + wv V - 4294967296 ^ (V.length + 1) * t
theorem add32_same (x y c : Int) (x0 : 0 ≤ x) (x1 : x ≤ 4294967295) (y0 : 0 ≤ y) (y1 : y ≤ 4294967295) (c0 : 0 ≤ c) (c1 : c ≤ 4294967295) (w : World) :
    Calls Tryd.prog 66 #[.int .u32 x, .int .u32 y, .int .u32 c] w fun e w' => e = .returned (.tuple #[.int .u32 ((x + y + c) % 4294967296), .int .u32 ((x + y + c) / 4294967296)]) ∧ w = w' := add32_any x y c x0 x1 y0 y1 c0 c1 w
set_option maxRecDepth 100000
open Go.RowKit
set_option linter.unusedVariables false
def GuessPost (u3 v2 : Int) (w : World) (e : Ending) (w' : World) : Prop := ∃ q : Int, e = .returned (.int .u32 q) ∧ Guessed u3 v2 q ∧ ∃ nd, w' = w.drewN nd
theorem u64_same {x : Int} (h0 : 0 ≤ x) (h1 : x ≤ 18446744073709551615) : IntKind.u64.wrap x = x := by rw [IntKind.wrap_u64]; omega
set_option maxRecDepth 100000
open Go.RowKit
set_option linter.unusedVariables false
theorem Only.trans {g : Nat} {w w1 w2 : World} (h : Only g w w1) (k : Only g w1 w2) : Only g w w2 :=
  ⟨k.1.trans h.1, k.2.1.trans h.2.1, k.2.2.1.trans h.2.2.1, k.2.2.2.1.trans h.2.2.2.1, fun j hj => (k.2.2.2.2 j hj).trans (h.2.2.2.2 j hj)⟩
theorem WRow.only {w w' : World} {B g g' cap : Nat} {a : List Int} (h : WRow w B g' cap a) (ho : Only g w w') (hne : g' ≠ g) : WRow w' B g' cap a :=
  ho.row h (by simp [Value.ownBlock]; exact hne)
theorem WList.only {w w' : World} {g : Nat} {v : Value} {V : List Int} (h : WList w v V) (ho : Only g w w') (hf : ∀ b o l d, v = .slice (some ⟨b, o, none⟩) l d → b ≠ g) : WList w' v V := by
  obtain ⟨⟨a, c, rfl, hc, ha⟩, h2⟩ := h
  refine ⟨⟨a, c, rfl, hc, ?_⟩, h2⟩
  rcases ha with h | ⟨b, off, rfl, hb, hcell⟩
  · exact .inl h
  · exact .inr ⟨b, off, rfl, by rw [ho.2.2.2.1]; exact hb, fun i hi => by rw [World.cell?_of_block (w := w) (w' := w') (ho.2.2.2.2 b (hf _ _ _ _ rfl))]; exact hcell i hi⟩
/-- Long division: the places from j on are done. -/
def LongRel (R V : List Int) (j0 j : Nat) (S Qt : List Int) : Prop :=
  wv S + wv V * wv Qt = wv R ∧ wv S < wv V * 4294967296 ^ j ∧ Wd S ∧ Wd Qt ∧ S.length = R.length ∧ Qt.length = j0 ∧ (∀ i, i < j → Qt.getD i 0 = 0)
theorem LongRel.start {R V : List Int} {j0 : Nat} (hR : Wd R) (h : wv R < wv V * 4294967296 ^ j0) : LongRel R V j0 j0 R (List.replicate j0 0) := by
  refine ⟨by rw [wv_replicate]; simp, h, hR, Wd.zeros _, rfl, by simp, fun i _ => ?_⟩
  simp [List.getD, List.getElem?_replicate]; split <;> simp
/-- The words above those that are looked at are noughts. -/
theorem LongRel.seg {R V S Qt : List Int} {j0 t : Nat} (h : LongRel R V j0 (t + 1) S Qt) (hV : Wd V) (hl : t + V.length < S.length) :
    wv S = wvN S t + 4294967296 ^ t * sgN S t (V.length + 1) ∧ sgN S t (V.length + 1) < wv V * 4294967296 := by
  obtain ⟨h1, h2, h3, h4, h5, h6, h7⟩ := h
  have hv := (wv_range hV).2
  have e1 : wvN S (t + (V.length + 1)) = wv S := by
    refine wvN_of_lt h3 ?_
    have k1 : wv V * 4294967296 ^ (t + 1) < 4294967296 ^ V.length * 4294967296 ^ (t + 1) := Int.mul_lt_mul_of_pos_right hv (q_pos _)
    rw [← Int.pow_add] at k1
    rw [show V.length + (t + 1) = t + (V.length + 1) from by omega] at k1
    omega
  have e2 := wvN_seg S t (V.length + 1)
  rw [e1] at e2
  refine ⟨e2, ?_⟩
  have h8 := (wvN_range h3 t).1
  have hp := q_pos t
  by_cases g : sgN S t (V.length + 1) < wv V * 4294967296
  · exact g
  · exfalso
    have k2 : 4294967296 ^ t * (wv V * 4294967296) ≤ 4294967296 ^ t * sgN S t (V.length + 1) := Int.mul_le_mul_of_nonneg_left (by omega) (by omega)
    rw [q_succ] at h2
    have k3 : 4294967296 ^ t * (wv V * 4294967296) = wv V * (4294967296 ^ t * 4294967296) := by rw [← Int.mul_assoc, Int.mul_comm (4294967296 ^ t : Int), Int.mul_assoc]
    omega
theorem LongRel.next {R V S T Qt : List Int} {j0 t : Nat} {q : Int} (h : LongRel R V j0 (t + 1) S Qt) (hV : Wd V) (hv0 : 0 < wv V) (hl : t + V.length < S.length) (hT : Wd T) (ho : Out S T t (V.length + 1)) (hq : q = sgN S t (V.length + 1) / wv V)
    (hs : sgN T t (V.length + 1) = sgN S t (V.length + 1) % wv V) (htl : t < j0) : LongRel R V j0 t T (Qt.set t q) := by
  obtain ⟨e1, e2⟩ := h.seg hV hl
  obtain ⟨h1, h2, h3, h4, h5, h6, h7⟩ := h
  have hu0 := (sgN_range h3 t (V.length + 1)).1
  have q0 : 0 ≤ q := by rw [hq]; exact Int.ediv_nonneg hu0 (by omega)
  have q1 : q < 4294967296 := by rw [hq]; exact Int.ediv_lt_of_lt_mul hv0 (by rw [Int.mul_comm]; exact e2)
  have hmod := Int.emod_add_mul_ediv (sgN S t (V.length + 1)) (wv V)
  have hr1 := Int.emod_lt_of_pos (sgN S t (V.length + 1)) hv0
  have hr0 := Int.emod_nonneg (sgN S t (V.length + 1)) (show wv V ≠ 0 by omega)
  rw [← hq, ← hs] at hmod
  rw [← hs] at hr1 hr0
  have hlow : wvN T t = wvN S t := wvN_congr (fun i hi => ho.2 i (.inl hi))
  have hw := wvN_range h3 t
  have hp := q_pos t
  have e3 : wv T = wvN S t + 4294967296 ^ t * sgN T t (V.length + 1) := by
    have k1 := wvN_seg T t (V.length + 1)
    rw [hlow] at k1
    have k2 : wv T - wvN T (t + (V.length + 1)) = wv S - wvN S (t + (V.length + 1)) := wv_same_top (fun i hi => ho.2 i (.inr (by omega)))
    have k3 := wvN_seg S t (V.length + 1)
    omega
  have hQl : t < Qt.length := by omega
  refine ⟨?_, ?_, hT, h4.set q0 (by omega), ho.1.trans h5, by simpa using h6, fun i hi => by rw [getD_set_other (by omega)]; exact h7 i (by omega)⟩
  · rw [wv_set hQl, h7 t (by omega), e3, ← h1, e1, ← hmod]
    generalize sgN T t (V.length + 1) = s
    generalize (4294967296 : Int) ^ t = P
    generalize wv V = v
    have k1 : v * (wv Qt + (q - 0) * P) = v * wv Qt + v * q * P := by rw [Int.sub_zero, Int.mul_add, ← Int.mul_assoc]
    have k2 : P * (s + v * q) = P * s + v * q * P := by rw [Int.mul_add, Int.mul_comm P (v * q)]
    omega
  · rw [e3]
    have k1 : 4294967296 ^ t * (sgN T t (V.length + 1) + 1) ≤ 4294967296 ^ t * wv V := Int.mul_le_mul_of_nonneg_left (by omega) (by omega)
    have k2 : 4294967296 ^ t * wv V = wv V * 4294967296 ^ t := Int.mul_comm _ _
    rw [Int.mul_add] at k1
    omega
/-- The digit out of its guess. -/
theorem digit_right {V S T : List Int} {k : Nat} {q : Int} {b : Bool} (hg : sgN S k (V.length + 1) / wv V ≤ q ∧ q ≤ sgN S k (V.length + 1) / wv V + 1) (hv0 : 0 < wv V) (hS : Wd S) (hT : Wd T)
    (h : sgN T k (V.length + 1) = sgN S k (V.length + 1) - q * wv V + 4294967296 ^ (V.length + 1) * (bif b then 1 else 0)) (hV : Wd V) :
    (b = false → q = sgN S k (V.length + 1) / wv V ∧ sgN T k (V.length + 1) = sgN S k (V.length + 1) % wv V) ∧
    (b = true → q - 1 = sgN S k (V.length + 1) / wv V ∧ ∀ (U : List Int) (t : Int), Wd U → sgN U k (V.length + 1) = sgN T k (V.length + 1) + wv V - 4294967296 ^ (V.length + 1) * t → sgN U k (V.length + 1) = sgN S k (V.length + 1) % wv V) := by
  have hT0 := sgN_range hT k (V.length + 1)
  have hS0 := sgN_range hS k (V.length + 1)
  have hv := (wv_range hV).2
  have hq2 := q_mono (m := V.length) (n := V.length + 1) (by omega)
  have hmod := Int.emod_add_mul_ediv (sgN S k (V.length + 1)) (wv V)
  have hr1 := Int.emod_lt_of_pos (sgN S k (V.length + 1)) hv0
  have hr0 := Int.emod_nonneg (sgN S k (V.length + 1)) (show wv V ≠ 0 by omega)
  generalize sgN S k (V.length + 1) = u at *
  generalize sgN T k (V.length + 1) = s at *
  generalize hd : u / wv V = d at *
  have hcase : q = d ∨ q = d + 1 := by omega
  have hcomm : wv V * d = d * wv V := Int.mul_comm _ _
  constructor
  · intro hb
    subst hb
    simp at h
    rcases hcase with rfl | rfl
    · exact ⟨rfl, by omega⟩
    · exfalso
      rw [Int.add_mul] at h
      omega
  · intro hb
    subst hb
    simp at h
    rcases hcase with rfl | rfl
    · exfalso; omega
    · refine ⟨by omega, fun U t hU hUt => ?_⟩
      have hU0 := sgN_range hU k (V.length + 1)
      rw [Int.add_mul] at h
      generalize sgN U k (V.length + 1) = y at *
      generalize hP : (4294967296 : Int) ^ (V.length + 1) = P at *
      have ht : y = u % wv V + P * (1 - t) := by
        have : P * (1 - t) = P - P * t := by rw [Int.mul_sub]; omega
        omega
      have h1 : 1 - t = 0 := by
        rcases Int.lt_trichotomy (1 - t) 0 with g | g | g
        · exfalso
          have : P * (1 - t) ≤ P * (-1) := Int.mul_le_mul_of_nonneg_left (by omega) (by omega)
          omega
        · exact g
        · exfalso
          have : P * 1 ≤ P * (1 - t) := Int.mul_le_mul_of_nonneg_left (by omega) (by omega)
          omega
      rw [h1] at ht
      omega
set_option maxRecDepth 100000
open Go.RowKit
set_option linter.unusedVariables false
theorem seg_top (S : List Int) (t m : Nat) : sgN S t (m + 2 + 1) = ((S.getD (t + (m + 2)) 0 * 4294967296 + S.getD (t + (m + 1)) 0) * 4294967296 + S.getD (t + m) 0) * 4294967296 ^ m + sgN S t m := by
  rw [sgN, sgN, sgN, q_succ (m + 1), q_succ m]
  generalize (4294967296 : Int) ^ m = P
  generalize S.getD (t + (m + 2)) 0 = a
  generalize S.getD (t + (m + 1)) 0 = b
  have e1 : a * (P * 4294967296 * 4294967296) = a * 4294967296 * 4294967296 * P := by rw [Int.mul_assoc P, Int.mul_comm P, ← Int.mul_assoc, ← Int.mul_assoc]
  have e2 : b * (P * 4294967296) = b * 4294967296 * P := by rw [Int.mul_comm P, ← Int.mul_assoc]
  have e3 : ((a * 4294967296 + b) * 4294967296 + S.getD (t + m) 0) * P = a * 4294967296 * 4294967296 * P + b * 4294967296 * P + S.getD (t + m) 0 * P := by rw [Int.add_mul, Int.add_mul, Int.add_mul]
  rw [e1, e2, e3]
  omega
theorem val_top {V : List Int} {m : Nat} (hl : V.length = m + 2) : wv V = (V.getD (m + 1) 0 * 4294967296 + V.getD m 0) * 4294967296 ^ m + wvN V m := by
  rw [wv, hl, wvN, wvN, q_succ]
  generalize (4294967296 : Int) ^ m = P
  have e2 : V.getD (m + 1) 0 * (P * 4294967296) = V.getD (m + 1) 0 * 4294967296 * P := by rw [Int.mul_comm P, ← Int.mul_assoc]
  rw [Int.add_mul, e2]
  omega
theorem top_le {S V : List Int} {t m : Nat} (hl : V.length = m + 2) (hS : Wd S) (hV : Wd V) (h : sgN S t (V.length + 1) < wv V * 4294967296) : S.getD (t + (m + 2)) 0 ≤ V.getD (m + 1) 0 := by
  have h1 := seg_top S t m
  have h2 := val_top hl
  have h3 := (sgN_range hS t m).1
  have h4 := (wvN_range hV m).2
  have hp := q_pos m
  have d1 := hS.getD (t + (m + 1))
  have d0 := hS.getD (t + m)
  have v0 := hV.getD m
  rw [hl, h1, h2] at h
  generalize S.getD (t + (m + 2)) 0 = a at *
  generalize S.getD (t + (m + 1)) 0 = b at *
  generalize S.getD (t + m) 0 = c at *
  generalize V.getD (m + 1) 0 = x at *
  generalize V.getD m 0 = y at *
  generalize (4294967296 : Int) ^ m = P at *
  by_cases g : a ≤ x
  · exact g
  · exfalso
    have k1 : (x * 4294967296 + y + 1) * 4294967296 ≤ (a * 4294967296 + b) * 4294967296 + c := by omega
    have k2 : (x * 4294967296 + y + 1) * 4294967296 * P ≤ ((a * 4294967296 + b) * 4294967296 + c) * P := Int.mul_le_mul_of_nonneg_right k1 (by omega)
    have k3 : ((x * 4294967296 + y) * P + wvN V m) * 4294967296 < (x * 4294967296 + y + 1) * 4294967296 * P := by
      have e : (x * 4294967296 + y + 1) * 4294967296 * P = ((x * 4294967296 + y) * P + P) * 4294967296 := by
        rw [Int.mul_assoc, Int.mul_comm 4294967296 P, ← Int.mul_assoc, Int.add_mul, Int.one_mul]
      omega
    omega
theorem guess_right {S V : List Int} {t m : Nat} {q : Int} (hl : V.length = m + 2) (hS : Wd S) (hV : Wd V) (h : sgN S t (V.length + 1) < wv V * 4294967296) (htop : 2147483648 ≤ V.getD (m + 1) 0)
    (hg : Guessed ((S.getD (t + (m + 2)) 0 * 4294967296 + S.getD (t + (m + 1)) 0) * 4294967296 + S.getD (t + m) 0) (V.getD (m + 1) 0 * 4294967296 + V.getD m 0) q) :
    sgN S t (V.length + 1) / wv V ≤ q ∧ q ≤ sgN S t (V.length + 1) / wv V + 1 := by
  have h3 := sgN_range hS t m
  have h4 := wvN_range hV m
  have d2 := hS.getD (t + (m + 2))
  have d1 := hS.getD (t + (m + 1))
  have d0 := hS.getD (t + m)
  have v0 := hV.getD m
  exact hg.digit (q_pos m) (by rw [hl]; exact seg_top S t m) (val_top hl) h3.1 h3.2 h4.1 h4.2 (by omega) h (by omega)
def LongPost (B g cap : Nat) (R V : List Int) (j0 : Nat) (w : World) (e : Ending) (w' : World) : Prop :=
  ∃ S Qt, e = .returned (.slice (some ⟨w.heap.size, 0, none⟩) j0 j0) ∧ WRow w' B g cap S ∧ Wd S ∧ S.length = R.length ∧ wv S = wv R % wv V ∧ WRow w' w.heap.size w.heap.size j0 Qt ∧ Wd Qt ∧ Qt.length = j0 ∧ wv Qt = wv R / wv V ∧ Below B w w'
set_option maxRecDepth 100000
open Go.RowKit
set_option linter.unusedVariables false
theorem WRow.base {w : World} {B B' g cap : Nat} {a : List Int} (h : WRow w B g cap a) (hB : B' ≤ B) : WRow w B' g cap a := by
  obtain ⟨h1, h2⟩ := h
  refine ⟨h1, ?_⟩
  rcases h2 with h2 | ⟨g', cap', cur, e, h3, h4⟩
  · exact .inl h2
  · exact .inr ⟨g', cap', cur, e, by omega, h4⟩
/-- The shift that lays a divisor's highest bit. -/
theorem shift_facts (T : Nat) (h0 : 0 < T) (h1 : T < 4294967296) : ∃ s : Nat, (32 : Int) - (Lib.bitLen T : Int) = (s : Int) ∧ s < 32 ∧ 2147483648 ≤ T * 2 ^ s ∧ (T + 1) * 2 ^ s ≤ 4294967296 := by
  have hL := bitLen_log T h0 (by omega)
  have h2 := Nat.log2_self_le (n := T) (by omega)
  have h3 := Nat.lt_log2_self (n := T)
  have h4 : Nat.log2 T < 32 := by
    by_cases e : Nat.log2 T < 32
    · exact e
    · have := Nat.pow_le_pow_right (n := 2) (by decide) (show 32 ≤ Nat.log2 T by omega)
      omega
  generalize Nat.log2 T = L at *
  refine ⟨31 - L, by rw [hL]; omega, by omega, ?_, ?_⟩
  · have k1 : 2 ^ L * 2 ^ (31 - L) ≤ T * 2 ^ (31 - L) := Nat.mul_le_mul_right _ h2
    rw [← Nat.pow_add, show L + (31 - L) = 31 from by omega] at k1
    omega
  · have k1 : (T + 1) * 2 ^ (31 - L) ≤ 2 ^ (L + 1) * 2 ^ (31 - L) := Nat.mul_le_mul_right _ h3
    rw [← Nat.pow_add, show L + 1 + (31 - L) = 32 from by omega] at k1
    omega
/-- What the raised divisor's and the raised number's words are good for. -/
theorem raised_facts {a y A V : List Int} {n s : Nat} (ha : Wd a) (hy : Wd y) (hV : Wd V) (hl : y.length = n + 1) (h0 : 0 < y.getD n 0) (hs : s < 32) (h1 : 2147483648 ≤ y.getD n 0 * 2 ^ s) (h2 : (y.getD n 0 + 1) * 2 ^ s ≤ 4294967296)
    (hv : wv V = wv y * 2 ^ s) (hVl : V.length = n + 2) (hA : wv A = wv a * 2 ^ s) :
    wvN V (n + 1) = wv V ∧ 2147483648 ≤ V.getD n 0 ∧ ∀ j, j + (n + 1) = a.length + 1 → wv A < wv V * 4294967296 ^ j := by
  have hp := q_pos n
  have hps : (0 : Int) < 2 ^ s := Int.pow_pos (by decide)
  have e1 : wv y = wvN y n + y.getD n 0 * 4294967296 ^ n := by rw [wv, hl, wvN]
  have hr := wvN_range hy n
  have ha2 := (wv_range ha).2
  have ha0 := (wv_range ha).1
  have hlow : y.getD n 0 * 4294967296 ^ n * 2 ^ s ≤ wv V := by
    rw [hv]; exact Int.mul_le_mul_of_nonneg_right (by omega) (by omega)
  have hup : wv V < 4294967296 ^ (n + 1) := by
    have k1 : wv y + 1 ≤ (y.getD n 0 + 1) * 4294967296 ^ n := by rw [Int.add_mul]; omega
    have k2 : (wv y + 1) * 2 ^ s ≤ (y.getD n 0 + 1) * 4294967296 ^ n * 2 ^ s := Int.mul_le_mul_of_nonneg_right k1 (by omega)
    have k3 : (y.getD n 0 + 1) * 4294967296 ^ n * 2 ^ s = (y.getD n 0 + 1) * 2 ^ s * 4294967296 ^ n := by rw [Int.mul_assoc, Int.mul_comm (4294967296 ^ n : Int), ← Int.mul_assoc]
    have k4 : (y.getD n 0 + 1) * 2 ^ s * 4294967296 ^ n ≤ 4294967296 * 4294967296 ^ n := Int.mul_le_mul_of_nonneg_right h2 (by omega)
    rw [q_succ, hv, Int.mul_comm (4294967296 ^ n : Int)]
    rw [Int.add_mul] at k2
    omega
  have hlow2 : 2147483648 * 4294967296 ^ n ≤ wv V := by
    have k3 : y.getD n 0 * 4294967296 ^ n * 2 ^ s = y.getD n 0 * 2 ^ s * 4294967296 ^ n := by rw [Int.mul_assoc, Int.mul_comm (4294967296 ^ n : Int), ← Int.mul_assoc]
    have k4 : 2147483648 * 4294967296 ^ n ≤ y.getD n 0 * 2 ^ s * 4294967296 ^ n := Int.mul_le_mul_of_nonneg_right h1 (by omega)
    omega
  have hcut := wvN_of_lt hV hup
  refine ⟨hcut, ?_, fun j hj => ?_⟩
  · rw [wvN] at hcut
    have hrV := wvN_range hV n
    by_cases g : 2147483648 ≤ V.getD n 0
    · exact g
    · exfalso
      have : V.getD n 0 * 4294967296 ^ n ≤ 2147483647 * 4294967296 ^ n := Int.mul_le_mul_of_nonneg_right (by omega) (by omega)
      omega
  · rw [hA]
    have h31 : (2 : Int) ^ s ≤ 2147483648 := by have := pow2_mono (m := s) (n := 31) (by omega); simpa using this
    have k1 : wv a * 2 ^ s < 4294967296 ^ a.length * 2 ^ s := Int.mul_lt_mul_of_pos_right ha2 hps
    have k2 : (4294967296 : Int) ^ a.length * 2 ^ s ≤ 4294967296 ^ a.length * 2147483648 := Int.mul_le_mul_of_nonneg_left h31 (Int.le_of_lt (q_pos _))
    have k3 : 2147483648 * 4294967296 ^ n * 4294967296 ^ j ≤ wv V * 4294967296 ^ j := Int.mul_le_mul_of_nonneg_right hlow2 (Int.le_of_lt (q_pos _))
    have k4 : (2147483648 : Int) * 4294967296 ^ n * 4294967296 ^ j = 4294967296 ^ a.length * 2147483648 := by
      rw [Int.mul_assoc, ← Int.pow_add, show n + j = a.length from by omega, Int.mul_comm]
    omega
def RaisedG (w : World) (z : Int) (L : Nat) (e : Ending) (w' : World) : Prop :=
  ∃ g out, e = .returned (.slice (some ⟨g, 0, none⟩) L L) ∧ w.heap.size ≤ g ∧ WRow w' w.heap.size g L out ∧ Below w.heap.size w w' ∧ Wd out ∧ out.length = L ∧ wv out = z
theorem raise_small (u : Value) (a : List Int) (w : World) (hu : WList w u a) (la : a.length ≤ 274877906944) (s : Nat) (hs : s < 32) :
    Calls Tryd.prog 78 #[u, .int .i64 s] w (RaisedG w (wv a * 2 ^ s) (a.length + 1)) := by
  refine (raise_any u a w hu la s 0 s (by omega) hs (by omega)).mono ?_
  rintro e w' ⟨out, rfl, hF, hd, hl, hz⟩
  exact ⟨_, out, rfl, Nat.le_refl _, hF.1, hF.2, hd, hl, by rw [hz]; simp⟩
theorem WRow.lt {w : World} {B g cap : Nat} {a : List Int} (h : WRow w B g cap a) : g < w.heap.size := h.facts.2.1
theorem wv_take_any {V : List Int} {k : Nat} (h : k ≤ V.length) : wv (V.take k) = wvN V k := by
  have hl : (V.take k).length = k := by rw [List.length_take]; omega
  rw [wv, hl]
  exact wvN_congr (fun i hi => by simp [List.getD, hi])
theorem lowered {a b A V Q S : Int} {s : Nat} (hA : A = a * 2 ^ s) (hV : V = b * 2 ^ s) (hS : S = A % V) (hQ : Q = A / V) : Q = a / b ∧ S / 2 ^ s = a % b := by
  have hp : (0 : Int) < 2 ^ s := Int.pow_pos (by decide)
  rw [hQ, hS, hA, hV]
  refine ⟨Int.mul_ediv_mul_of_pos_left _ _ hp, ?_⟩
  rw [Int.mul_comm a, Int.mul_comm b, Int.mul_emod_mul_of_pos _ _ hp]
  exact Int.mul_ediv_cancel_left _ (by omega)
end Go.Proofs.YtflhicfbojmjbaaDoor
