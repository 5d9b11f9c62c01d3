/- Plain facts on long division of words: the guess of a digit, its product taken away, the divisor given back; nothing of the program. -/
import Derived.Test.YtfaglcfoamfelaaDoorNatm
namespace Go.Proofs.YtfaglcfoamfelaaDoor
open Go.RowKit
set_option linter.unusedVariables false
/-- The number of m words from place k on. -/
def sgN (R : List Int) (k : Nat) : Nat → Int
  | 0 => 0
  | m + 1 => sgN R k m + R.getD (k + m) 0 * 4294967296 ^ m
theorem sgN_congr {R S : List Int} {k m : Nat} (h : ∀ i, i < m → R.getD (k + i) 0 = S.getD (k + i) 0) : sgN R k m = sgN S k m := by
  induction m with
  | zero => rfl
  | succ m ih => rw [sgN, sgN, ih (fun i hi => h i (by omega)), h m (by omega)]
theorem sgN_range {R : List Int} (h : Wd R) (k m : Nat) : 0 ≤ sgN R k m ∧ sgN R k m < 4294967296 ^ m := by
  induction m with
  | zero => simp [sgN]
  | succ m ih =>
    have hd := h.getD (k + m)
    have hp := q_pos m
    rw [sgN, q_succ]
    have h1 : 0 ≤ R.getD (k + m) 0 * 4294967296 ^ m := Int.mul_nonneg hd.1 (by omega)
    have h2 : R.getD (k + m) 0 * 4294967296 ^ m ≤ 4294967295 * 4294967296 ^ m := Int.mul_le_mul_of_nonneg_right hd.2 (by omega)
    omega
theorem wvN_seg (R : List Int) (k m : Nat) : wvN R (k + m) = wvN R k + 4294967296 ^ k * sgN R k m := by
  induction m with
  | zero => simp [sgN]
  | succ m ih =>
    rw [← Nat.add_assoc, wvN, ih, sgN, Int.mul_add, Int.pow_add]
    have : R.getD (k + m) 0 * (4294967296 ^ k * 4294967296 ^ m) = 4294967296 ^ k * (R.getD (k + m) 0 * 4294967296 ^ m) := by
      rw [← Int.mul_assoc, Int.mul_comm (R.getD (k + m) 0), Int.mul_assoc]
    omega
theorem sgN_set_low {R : List Int} {k i m : Nat} {x : Int} (h : m ≤ i) : sgN (R.set (k + i) x) k m = sgN R k m :=
  sgN_congr (fun j hj => getD_set_other (by omega))
theorem sgN_set_succ {R : List Int} {k i : Nat} {x : Int} (h : k + i < R.length) : sgN (R.set (k + i) x) k (i + 1) = sgN R k i + x * 4294967296 ^ i := by
  rw [sgN, sgN_set_low (Nat.le_refl _), getD_set_self h]
/-- Outside of m words from place k on nothing differs. -/
def Out (R S : List Int) (k m : Nat) : Prop := S.length = R.length ∧ ∀ j, j < k ∨ k + m ≤ j → S.getD j 0 = R.getD j 0
theorem Out.refl (R : List Int) (k m : Nat) : Out R R k m := ⟨rfl, fun _ _ => rfl⟩
theorem Out.set {R S : List Int} {k m i : Nat} {x : Int} (h : Out R S k m) (hi : i < m) : Out R (S.set (k + i) x) k m :=
  ⟨by simpa using h.1, fun j hj => by rw [getD_set_other (by omega)]; exact h.2 j hj⟩
theorem Out.trans {R S T : List Int} {k m : Nat} (h : Out R S k m) (g : Out S T k m) : Out R T k m := ⟨g.1.trans h.1, fun j hj => (g.2 j hj).trans (h.2 j hj)⟩
/-- digit times the divisor is taken from the words from place k on: i of them are done. -/
def TakeRel (R V : List Int) (k : Nat) (q : Int) (i : Nat) (S : List Int) (c b : Int) : Prop :=
  sgN S k i = sgN R k i - q * wvN V i + 4294967296 ^ i * (c + b) ∧ Wd S ∧ Out R S k (V.length + 1) ∧ (∀ j, k + i ≤ j → S.getD j 0 = R.getD j 0) ∧ 0 ≤ c ∧ c ≤ 4294967295 ∧ 0 ≤ b ∧ b ≤ 1
theorem TakeRel.start {R : List Int} (V : List Int) (k : Nat) (q : Int) (h : Wd R) : TakeRel R V k q 0 R 0 0 := ⟨by simp [sgN, wvN], h, Out.refl _ _ _, fun _ _ => rfl, by omega, by omega, by omega, by omega⟩
theorem prod_bounds {x y c : Int} (h1 : 0 ≤ x) (h2 : x ≤ 4294967295) (h3 : 0 ≤ y) (h4 : y ≤ 4294967295) (c0 : 0 ≤ c) (c1 : c ≤ 4294967295) : 0 ≤ c + x * y ∧ c + x * y ≤ 18446744069414584320 := by
  have h5 : 0 ≤ x * y := Int.mul_nonneg h1 h3
  have h6 : x * y ≤ 4294967295 * 4294967295 := Int.mul_le_mul h2 h4 h3 (by omega)
  omega
theorem TakeRel.step {R V S : List Int} {k i : Nat} {q c b : Int} (h : TakeRel R V k q i S c b) (hV : Wd V) (hi : i < V.length) (hk : k + V.length < R.length) (q0 : 0 ≤ q) (q1 : q ≤ 4294967295) (x v : Int) (hx : S.getD (k + i) 0 = x) (hv : V.getD i 0 = v) :
    TakeRel R V k q (i + 1) (S.set (k + i) ((x - (c + v * q) % 4294967296 - b) % 4294967296)) ((c + v * q) / 4294967296) (-((x - (c + v * q) % 4294967296 - b) / 4294967296)) := by
  obtain ⟨h1, h2, h3, h4, h5, h6, h7, h8⟩ := h
  have hxr := h2.getD (k + i)
  have hxR := h4 (k + i) (Nat.le_refl _)
  have hvr := hV.getD i
  rw [hx] at hxr hxR
  rw [hv] at hvr
  have hb := prod_bounds hvr.1 hvr.2 q0 q1 h5 h6
  refine ⟨?_, h2.set (by omega) (by omega), h3.set (by omega), fun j hj => ?_, by omega, by omega, by omega, by omega⟩
  · have hl : k + i < S.length := by rw [h3.1]; omega
    rw [sgN_set_succ hl, h1, sgN, ← hxR, wvN, hv, q_succ]
    generalize ht : c + v * q = t at *
    have e1 : t = t % 4294967296 + 4294967296 * (t / 4294967296) := by omega
    have e2 : x - t % 4294967296 - b = (x - t % 4294967296 - b) % 4294967296 + 4294967296 * ((x - t % 4294967296 - b) / 4294967296) := by omega
    generalize hlow : t % 4294967296 = low at *
    generalize hcc : t / 4294967296 = c' at *
    generalize hdd : (x - low - b) % 4294967296 = d at *
    generalize hbb : (x - low - b) / 4294967296 = bb at *
    generalize (4294967296 : Int) ^ i = P at *
    have k1 : P * 4294967296 * (c' + -bb) = P * (4294967296 * c' - 4294967296 * bb) := by rw [Int.mul_assoc, Int.mul_add, Int.mul_neg]; rfl
    have k2 : d = x - low - b - 4294967296 * bb := by omega
    have k3 : low = c + v * q - 4294967296 * c' := by omega
    have k4 : q * (wvN V i + v * P) = q * wvN V i + v * q * P := by rw [Int.mul_add, ← Int.mul_assoc, Int.mul_comm q v]
    rw [k1, k4, k2, k3]
    have k5 : (x - (c + v * q - 4294967296 * c') - b - 4294967296 * bb) * P = x * P - v * q * P - P * (c + b) + P * (4294967296 * c' - 4294967296 * bb) := by
      rw [show x - (c + v * q - 4294967296 * c') - b - 4294967296 * bb = x - v * q - (c + b) + (4294967296 * c' - 4294967296 * bb) from by omega, Int.add_mul, Int.sub_mul, Int.sub_mul, Int.mul_comm (c + b), Int.mul_comm (4294967296 * c' - 4294967296 * bb)]
    omega
  · rw [getD_set_other (by omega)]; exact h4 j (by omega)
theorem TakeRel.stop {R V S : List Int} {k : Nat} {q c b : Int} (h : TakeRel R V k q V.length S c b) (hk : k + V.length < R.length) (x : Int) (hx : S.getD (k + V.length) 0 = x) :
    sgN (S.set (k + V.length) ((x - c - b) % 4294967296)) k (V.length + 1) = sgN R k (V.length + 1) - q * wv V + 4294967296 ^ (V.length + 1) * (-((x - c - b) / 4294967296)) ∧
    Wd (S.set (k + V.length) ((x - c - b) % 4294967296)) ∧ Out R (S.set (k + V.length) ((x - c - b) % 4294967296)) k (V.length + 1) := by
  obtain ⟨h1, h2, h3, h4, h5, h6, h7, h8⟩ := h
  have hxR := h4 (k + V.length) (Nat.le_refl _)
  rw [hx] at hxR
  refine ⟨?_, h2.set (by omega) (by omega), h3.set (by omega)⟩
  have hl : k + V.length < S.length := by rw [h3.1]; omega
  rw [sgN_set_succ hl, h1, sgN, ← hxR, q_succ]
  have hw : wvN V V.length = wv V := rfl
  rw [hw]
  generalize (4294967296 : Int) ^ V.length = P at *
  have e2 : (x - c - b) % 4294967296 = x - c - b - 4294967296 * ((x - c - b) / 4294967296) := by omega
  rw [e2]
  generalize (x - c - b) / 4294967296 = bb at *
  have k1 : (x - c - b - 4294967296 * bb) * P = x * P - P * (c + b) + P * 4294967296 * -bb := by
    rw [show x - c - b - 4294967296 * bb = x - (c + b) + 4294967296 * -bb from by omega, Int.add_mul, Int.sub_mul]
    have k2 : P * (c + b) = (c + b) * P := Int.mul_comm _ _
    have k3 : P * 4294967296 * -bb = 4294967296 * -bb * P := by rw [Int.mul_comm P 4294967296, Int.mul_assoc, Int.mul_comm P (-bb), ← Int.mul_assoc]
    omega
  omega
/-- The divisor is given back: i words are done. -/
def GiveRel (R V : List Int) (k i : Nat) (S : List Int) (c : Int) : Prop :=
  sgN S k i + 4294967296 ^ i * c = sgN R k i + wvN V i ∧ Wd S ∧ Out R S k (V.length + 1) ∧ (∀ j, k + i ≤ j → S.getD j 0 = R.getD j 0) ∧ 0 ≤ c ∧ c ≤ 1
theorem GiveRel.start {R : List Int} (V : List Int) (k : Nat) (h : Wd R) : GiveRel R V k 0 R 0 := ⟨by simp [sgN, wvN], h, Out.refl _ _ _, fun _ _ => rfl, by omega, by omega⟩
theorem GiveRel.step {R V S : List Int} {k i : Nat} {c : Int} (h : GiveRel R V k i S c) (hV : Wd V) (hi : i < V.length) (hk : k + V.length < R.length) (x v : Int) (hx : S.getD (k + i) 0 = x) (hv : V.getD i 0 = v) :
    GiveRel R V k (i + 1) (S.set (k + i) ((x + v + c) % 4294967296)) ((x + v + c) / 4294967296) := by
  obtain ⟨h1, h2, h3, h4, h5, h6⟩ := h
  have hxr := h2.getD (k + i)
  have hxR := h4 (k + i) (Nat.le_refl _)
  have hvr := hV.getD i
  rw [hx] at hxr hxR
  rw [hv] at hvr
  refine ⟨?_, h2.set (by omega) (by omega), h3.set (by omega), fun j hj => ?_, by omega, by omega⟩
  · have hl : k + i < S.length := by rw [h3.1]; omega
    rw [sgN_set_succ hl, sgN, ← hxR, wvN, hv, q_succ]
    have e := wcarry_step (x + v + c) (4294967296 ^ i)
    generalize (4294967296 : Int) ^ i = P at *
    have e1 : (x + v + c) * P = x * P + v * P + c * P := by rw [Int.add_mul, Int.add_mul]
    have e2 : P * 4294967296 * ((x + v + c) / 4294967296) = (x + v + c) / 4294967296 * (P * 4294967296) := Int.mul_comm _ _
    have e3 : P * c = c * P := Int.mul_comm _ _
    omega
  · rw [getD_set_other (by omega)]; exact h4 j (by omega)
theorem GiveRel.stop {R V S : List Int} {k : Nat} {c : Int} (h : GiveRel R V k V.length S c) (hk : k + V.length < R.length) (x : Int) (hx : S.getD (k + V.length) 0 = x) :
    (∃ t : Int, sgN (S.set (k + V.length) ((x + c) % 4294967296)) k (V.length + 1) = sgN R k (V.length + 1) + wv V - 4294967296 ^ (V.length + 1) * t) ∧
    Wd (S.set (k + V.length) ((x + c) % 4294967296)) ∧ Out R (S.set (k + V.length) ((x + c) % 4294967296)) k (V.length + 1) := by
  obtain ⟨h1, h2, h3, h4, h5, h6⟩ := h
  have hxR := h4 (k + V.length) (Nat.le_refl _)
  rw [hx] at hxR
  refine ⟨⟨(x + c) / 4294967296, ?_⟩, h2.set (by omega) (by omega), h3.set (by omega)⟩
  have hl : k + V.length < S.length := by rw [h3.1]; omega
  rw [sgN_set_succ hl, sgN, ← hxR, q_succ]
  have hw : wvN V V.length = wv V := rfl
  rw [hw] at h1
  generalize (4294967296 : Int) ^ V.length = P at *
  have e2 : (x + c) % 4294967296 = x + c - 4294967296 * ((x + c) / 4294967296) := by omega
  rw [e2]
  generalize (x + c) / 4294967296 = t at *
  have k1 : (x + c - 4294967296 * t) * P = x * P + P * c - P * 4294967296 * t := by
    rw [Int.sub_mul, Int.add_mul, Int.mul_comm c, Int.mul_comm (4294967296 * t), Int.mul_assoc]
  omega
/-- What a guess is good for: top three words against top two. -/
def Guessed (u3 v2 q : Int) : Prop := 0 ≤ q ∧ q ≤ 4294967295 ∧ q * v2 ≤ u3 ∧ (4294967295 ≤ q ∨ u3 < (q + 1) * v2)
/-- .. and so of all words: the digit itself, or one more. -/
theorem Guessed.digit {u3 v2 q L u v ul vl : Int} (h : Guessed u3 v2 q) (hL : 0 < L) (hu : u = u3 * L + ul) (hv : v = v2 * L + vl) (u0 : 0 ≤ ul) (u1 : ul < L) (v0 : 0 ≤ vl) (v1 : vl < L) (hv2 : 4294967296 ≤ v2) (hlt : u < v * 4294967296) (hu3 : 0 ≤ u3) :
    u / v ≤ q ∧ q ≤ u / v + 1 := by
  obtain ⟨q0, q1, q2, q3⟩ := h
  have hv2L : 0 < v2 * L := Int.mul_pos (by omega) hL
  have hvp : 0 < v := by omega
  constructor
  · have h1 : u / v ≤ 4294967295 := by
      have : u / v < 4294967296 := Int.ediv_lt_of_lt_mul hvp (by rw [Int.mul_comm]; exact hlt)
      omega
    rcases q3 with q3 | q3
    · omega
    · have h2 : u < (q + 1) * v := by
        have k1 : u3 + 1 ≤ (q + 1) * v2 := q3
        have k2 : (u3 + 1) * L ≤ (q + 1) * v2 * L := Int.mul_le_mul_of_nonneg_right k1 (by omega)
        have k3 : (q + 1) * v = (q + 1) * v2 * L + (q + 1) * vl := by rw [hv, Int.mul_add, Int.mul_assoc]
        have k4 : 0 ≤ (q + 1) * vl := Int.mul_nonneg (by omega) v0
        rw [Int.add_mul] at k2
        omega
      have := Int.ediv_lt_of_lt_mul hvp h2
      omega
  · have h3 : (q - 1) * v ≤ u := by
      by_cases hq : q = 0
      · subst hq
        have k5 : 0 ≤ u3 * L := Int.mul_nonneg hu3 (by omega)
        have k6 : (0 - 1) * v = -v := by omega
        omega
      · have k1 : (q - 1) * v ≤ (q - 1) * ((v2 + 1) * L) := Int.mul_le_mul_of_nonneg_left (by rw [Int.add_mul]; omega) (by omega)
        have k2 : (q - 1) * ((v2 + 1) * L) = ((q - 1) * (v2 + 1)) * L := (Int.mul_assoc _ _ _).symm
        have k3 : (q - 1) * (v2 + 1) ≤ u3 := by
          rw [Int.sub_mul, Int.mul_add]; omega
        have k4 : ((q - 1) * (v2 + 1)) * L ≤ u3 * L := Int.mul_le_mul_of_nonneg_right k3 (by omega)
        omega
    have := (Int.le_ediv_iff_mul_le hvp).2 h3
    omega
/-- The loop that lowers the guess. -/
def GuessRel (h l head p d r : Int) : Prop := d * h + r = head ∧ 0 ≤ d ∧ 0 ≤ r ∧ (4294967295 ≤ d ∨ head * 4294967296 + p < (d + 1) * (h * 4294967296 + l))
theorem GuessRel.start {h l head p : Int} (h0 : 0 < h) (l0 : 0 ≤ l) (p1 : p ≤ 4294967295) (hd0 : 0 ≤ head) : GuessRel h l head p (head / h) (head % h) := by
  have e := Int.emod_add_mul_ediv head h
  have r1 := Int.emod_lt_of_pos head h0
  have r0 := Int.emod_nonneg head (show h ≠ 0 by omega)
  refine ⟨by rw [Int.mul_comm]; omega, Int.ediv_nonneg hd0 (by omega), r0, .inr ?_⟩
  generalize head / h = d at *
  generalize head % h = r at *
  have k1 : head + 1 ≤ (d + 1) * h := by rw [Int.add_mul, Int.mul_comm d]; omega
  have k2 : (head + 1) * 4294967296 ≤ (d + 1) * h * 4294967296 := Int.mul_le_mul_of_nonneg_right k1 (by omega)
  have hdn : 0 ≤ d + 1 := by
    by_cases hh : 0 ≤ d + 1
    · exact hh
    · exfalso
      have : (d + 1) * h ≤ 0 := Int.mul_nonpos_of_nonpos_of_nonneg (by omega) (by omega)
      omega
  have k3 : 0 ≤ (d + 1) * l := Int.mul_nonneg hdn l0
  rw [Int.mul_add, ← Int.mul_assoc]
  omega
theorem guess_test {h l head p d r : Int} (hg : GuessRel h l head p d r) : (r * 4294967296 + p < d * l) ↔ (head * 4294967296 + p < d * (h * 4294967296 + l)) := by
  obtain ⟨g1, g2, g3, g4⟩ := hg
  have e : d * (h * 4294967296 + l) = d * h * 4294967296 + d * l := by rw [Int.mul_add, ← Int.mul_assoc]
  rw [e, ← g1, Int.add_mul]
  omega
theorem GuessRel.down {h l head p d r : Int} (hg : GuessRel h l head p d r) (hh : 0 ≤ h) (hd : 4294967296 ≤ d ∨ r * 4294967296 + p < d * l) (d1 : 1 ≤ d) : GuessRel h l head p (d - 1) (r + h) := by
  have ht := guess_test hg
  obtain ⟨g1, g2, g3, g4⟩ := hg
  refine ⟨by rw [Int.sub_mul]; omega, by omega, by omega, ?_⟩
  rcases hd with hd | hd
  · exact .inl (by omega)
  · right
    have := ht.1 hd
    rw [show d - 1 + 1 = d from by omega]
    exact this
theorem GuessRel.stop {h l head p d r : Int} (hg : GuessRel h l head p d r) (hd : d ≤ 4294967295) (ht : d * l ≤ r * 4294967296 + p) : Guessed (head * 4294967296 + p) (h * 4294967296 + l) d := by
  have h2 := guess_test hg
  obtain ⟨g1, g2, g3, g4⟩ := hg
  refine ⟨g2, hd, ?_, g4⟩
  have : ¬ (head * 4294967296 + p < d * (h * 4294967296 + l)) := fun e => by have := h2.2 e; omega
  omega
end Go.Proofs.YtfaglcfoamfelaaDoor
