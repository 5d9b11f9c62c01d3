/- What Div of package nat returns, of any two numbers. -/
import Derived.Test.YtboinjkeaffboaaDoorNato
import Derived.Test.YtboinjkeaffboaaDoorNatr
import Derived.Deep.RegionWith
import Derived.Deep.QuietTactic
import Derived.BigQuiet
import Derived.Outline
import Derived.Deep.DeepCutAuto
import Derived.Deep.CutBlock
namespace Go.Proofs.YtboinjkeaffboaaDoor
set_option maxRecDepth 100000
open Go.RowKit
set_option linter.unusedVariables false
/-- The number of m words from place k on. -/
def sgN (R : List Int) (k : Nat) : Nat → Int
  | 0 => 0
  | m + 1 => sgN R k m + R.getD (k + m) 0 * 4294967296 ^ m
theorem sgN_congr {R S : List Int} {k m : Nat} (h : ∀ i, i < m → R.getD (k + i) 0 = S.getD (k + i) 0) : sgN R k m = sgN S k m := by
  induction m with
  | zero => rfl
  | succ m ih => rw [sgN, sgN, ih (fun i hi => h i (by omega)), h m (by omega)]
theorem sgN_range {R : List Int} (h : Wd R) (k m : Nat) : 0 ≤ sgN R k m ∧ sgN R k m < 4294967296 ^ m := by
  induction m with
  | zero => simp [sgN]
  | succ m ih =>
    have hd := h.getD (k + m)
    have hp := q_pos m
    rw [sgN, q_succ]
    have h1 : 0 ≤ R.getD (k + m) 0 * 4294967296 ^ m := Int.mul_nonneg hd.1 (by omega)
    have h2 : R.getD (k + m) 0 * 4294967296 ^ m ≤ 4294967295 * 4294967296 ^ m := Int.mul_le_mul_of_nonneg_right hd.2 (by omega)
    omega
theorem wvN_seg (R : List Int) (k m : Nat) : wvN R (k + m) = wvN R k + 4294967296 ^ k * sgN R k m := by
  induction m with
  | zero => simp [sgN]
  | succ m ih =>
    rw [← Nat.add_assoc, wvN, ih, sgN, Int.mul_add, Int.pow_add]
    have : R.getD (k + m) 0 * (4294967296 ^ k * 4294967296 ^ m) = 4294967296 ^ k * (R.getD (k + m) 0 * 4294967296 ^ m) := by
      rw [← Int.mul_assoc, Int.mul_comm (R.getD (k + m) 0), Int.mul_assoc]
    omega
theorem sgN_set_low {R : List Int} {k i m : Nat} {x : Int} (h : m ≤ i) : sgN (R.set (k + i) x) k m = sgN R k m :=
  sgN_congr (fun j hj => getD_set_other (by omega))
theorem sgN_set_succ {R : List Int} {k i : Nat} {x : Int} (h : k + i < R.length) : sgN (R.set (k + i) x) k (i + 1) = sgN R k i + x * 4294967296 ^ i := by
  rw [sgN, sgN_set_low (Nat.le_refl _), getD_set_self h]
/-- Outside of m words from place k on nothing differs. -/
def Out (R S : List Int) (k m : Nat) : Prop := S.length = R.length ∧ ∀ j, j < k ∨ k + m ≤ j → S.getD j 0 = R.getD j 0
theorem Out.refl (R : List Int) (k m : Nat) : Out R R k m := ⟨rfl, fun _ _ => rfl⟩
theorem Out.set {R S : List Int} {k m i : Nat} {x : Int} (h : Out R S k m) (hi : i < m) : Out R (S.set (k + i) x) k m :=
  ⟨by simpa using h.1, fun j hj => by rw [getD_set_other (by omega)]; exact h.2 j hj⟩
theorem Out.trans {R S T : List Int} {k m : Nat} (h : Out R S k m) (g : Out S T k m) : Out R T k m := ⟨g.1.trans h.1, fun j hj => (g.2 j hj).trans (h.2 j hj)⟩
/-- digit times the divisor is taken from the words from place k on: i of them are done. -/
def TakeRel (R V : List Int) (k : Nat) (q : Int) (i : Nat) (S : List Int) (c b : Int) : Prop :=
  sgN S k i = sgN R k i - q * wvN V i + 4294967296 ^ i * (c + b) ∧ Wd S ∧ Out R S k (V.length + 1) ∧ (∀ j, k + i ≤ j → S.getD j 0 = R.getD j 0) ∧ 0 ≤ c ∧ c ≤ 4294967295 ∧ 0 ≤ b ∧ b ≤ 1
theorem TakeRel.start {R : List Int} (V : List Int) (k : Nat) (q : Int) (h : Wd R) : TakeRel R V k q 0 R 0 0 := ⟨by simp [sgN, wvN], h, Out.refl _ _ _, fun _ _ => rfl, by omega, by omega, by omega, by omega⟩
theorem prod_bounds {x y c : Int} (h1 : 0 ≤ x) (h2 : x ≤ 4294967295) (h3 : 0 ≤ y) (h4 : y ≤ 4294967295) (c0 : 0 ≤ c) (c1 : c ≤ 4294967295) : 0 ≤ c + x * y ∧ c + x * y ≤ 18446744069414584320 := by
  have h5 : 0 ≤ x * y := Int.mul_nonneg h1 h3
  have h6 : x * y ≤ 4294967295 * 4294967295 := Int.mul_le_mul h2 h4 h3 (by omega)
  omega
theorem TakeRel.step {R V S : List Int} {k i : Nat} {q c b : Int} (h : TakeRel R V k q i S c b) (hV : Wd V) (hi : i < V.length) (hk : k + V.length < R.length) (q0 : 0 ≤ q) (q1 : q ≤ 4294967295) (x v : Int) (hx : S.getD (k + i) 0 = x) (hv : V.getD i 0 = v) :
    TakeRel R V k q (i + 1) (S.set (k + i) ((x - (c + v * q) % 4294967296 - b) % 4294967296)) ((c + v * q) / 4294967296) (-((x - (c + v * q) % 4294967296 - b) / 4294967296)) := by
  obtain ⟨h1, h2, h3, h4, h5, h6, h7, h8⟩ := h
  have hxr := h2.getD (k + i)
  have hxR := h4 (k + i) (Nat.le_refl _)
  have hvr := hV.getD i
  rw [hx] at hxr hxR
  rw [hv] at hvr
  have hb := prod_bounds hvr.1 hvr.2 q0 q1 h5 h6
  refine ⟨?_, h2.set (by omega) (by omega), h3.set (by omega), fun j hj => ?_, by omega, by omega, by omega, by omega⟩
  · have hl : k + i < S.length := by rw [h3.1]; omega
    rw [sgN_set_succ hl, h1, sgN, ← hxR, wvN, hv, q_succ]
    generalize ht : c + v * q = t at *
    have e1 : t = t % 4294967296 + 4294967296 * (t / 4294967296) := by omega
    have e2 : x - t % 4294967296 - b = (x - t % 4294967296 - b) % 4294967296 + 4294967296 * ((x - t % 4294967296 - b) / 4294967296) := by omega
    generalize hlow : t % 4294967296 = low at *
    generalize hcc : t / 4294967296 = c' at *
    generalize hdd : (x - low - b) % 4294967296 = d at *
    generalize hbb : (x - low - b) / 4294967296 = bb at *
    generalize (4294967296 : Int) ^ i = P at *
    have k1 : P * 4294967296 * (c' + -bb) = P * (4294967296 * c' - 4294967296 * bb) := by rw [Int.mul_assoc, Int.mul_add, Int.mul_neg]; rfl
    have k2 : d = x - low - b - 4294967296 * bb := by omega
    have k3 : low = c + v * q - 4294967296 * c' := by omega
    have k4 : q * (wvN V i + v * P) = q * wvN V i + v * q * P := by rw [Int.mul_add, ← Int.mul_assoc, Int.mul_comm q v]
    rw [k1, k4, k2, k3]
    have k5 : (x - (c + v * q - 4294967296 * c') - b - 4294967296 * bb) * P = x * P - v * q * P - P * (c + b) + P * (4294967296 * c' - 4294967296 * bb) := by
      rw [show x - (c + v * q - 4294967296 * c') - b - 4294967296 * bb = x - v * q - (c + b) + (4294967296 * c' - 4294967296 * bb) from by omega, Int.add_mul, Int.sub_mul, Int.sub_mul, Int.mul_comm (c + b), Int.mul_comm (4294967296 * c' - 4294967296 * bb)]
    omega
  · rw [getD_set_other (by omega)]; exact h4 j (by omega)
theorem TakeRel.stop {R V S : List Int} {k : Nat} {q c b : Int} (h : TakeRel R V k q V.length S c b) (hk : k + V.length < R.length) (x : Int) (hx : S.getD (k + V.length) 0 = x) :
    sgN (S.set (k + V.length) ((x - c - b) % 4294967296)) k (V.length + 1) = sgN R k (V.length + 1) - q * wv V + 4294967296 ^ (V.length + 1) * (-((x - c - b) / 4294967296)) ∧
    Wd (S.set (k + V.length) ((x - c - b) % 4294967296)) ∧ Out R (S.set (k + V.length) ((x - c - b) % 4294967296)) k (V.length + 1) := by
  obtain ⟨h1, h2, h3, h4, h5, h6, h7, h8⟩ := h
  have hxR := h4 (k + V.length) (Nat.le_refl _)
  rw [hx] at hxR
  refine ⟨?_, h2.set (by omega) (by omega), h3.set (by omega)⟩
  have hl : k + V.length < S.length := by rw [h3.1]; omega
  rw [sgN_set_succ hl, h1, sgN, ← hxR, q_succ]
  have hw : wvN V V.length = wv V := rfl
  rw [hw]
  generalize (4294967296 : Int) ^ V.length = P at *
  have e2 : (x - c - b) % 4294967296 = x - c - b - 4294967296 * ((x - c - b) / 4294967296) := by omega
  rw [e2]
  generalize (x - c - b) / 4294967296 = bb at *
  have k1 : (x - c - b - 4294967296 * bb) * P = x * P - P * (c + b) + P * 4294967296 * -bb := by
    rw [show x - c - b - 4294967296 * bb = x - (c + b) + 4294967296 * -bb from by omega, Int.add_mul, Int.sub_mul]
    have k2 : P * (c + b) = (c + b) * P := Int.mul_comm _ _
    have k3 : P * 4294967296 * -bb = 4294967296 * -bb * P := by rw [Int.mul_comm P 4294967296, Int.mul_assoc, Int.mul_comm P (-bb), ← Int.mul_assoc]
    omega
  omega
/-- The divisor is given back: i words are done. -/
def GiveRel (R V : List Int) (k i : Nat) (S : List Int) (c : Int) : Prop :=
  sgN S k i + 4294967296 ^ i * c = sgN R k i + wvN V i ∧ Wd S ∧ Out R S k (V.length + 1) ∧ (∀ j, k + i ≤ j → S.getD j 0 = R.getD j 0) ∧ 0 ≤ c ∧ c ≤ 1
theorem GiveRel.start {R : List Int} (V : List Int) (k : Nat) (h : Wd R) : GiveRel R V k 0 R 0 := ⟨by simp [sgN, wvN], h, Out.refl _ _ _, fun _ _ => rfl, by omega, by omega⟩
theorem GiveRel.step {R V S : List Int} {k i : Nat} {c : Int} (h : GiveRel R V k i S c) (hV : Wd V) (hi : i < V.length) (hk : k + V.length < R.length) (x v : Int) (hx : S.getD (k + i) 0 = x) (hv : V.getD i 0 = v) :
    GiveRel R V k (i + 1) (S.set (k + i) ((x + v + c) % 4294967296)) ((x + v + c) / 4294967296) := by
  obtain ⟨h1, h2, h3, h4, h5, h6⟩ := h
  have hxr := h2.getD (k + i)
  have hxR := h4 (k + i) (Nat.le_refl _)
  have hvr := hV.getD i
  rw [hx] at hxr hxR
  rw [hv] at hvr
  refine ⟨?_, h2.set (by omega) (by omega), h3.set (by omega), fun j hj => ?_, by omega, by omega⟩
  · have hl : k + i < S.length := by rw [h3.1]; omega
    rw [sgN_set_succ hl, sgN, ← hxR, wvN, hv, q_succ]
    have e := wcarry_step (x + v + c) (4294967296 ^ i)
    generalize (4294967296 : Int) ^ i = P at *
    have e1 : (x + v + c) * P = x * P + v * P + c * P := by rw [Int.add_mul, Int.add_mul]
    have e2 : P * 4294967296 * ((x + v + c) / 4294967296) = (x + v + c) / 4294967296 * (P * 4294967296) := Int.mul_comm _ _
    have e3 : P * c = c * P := Int.mul_comm _ _
    omega
  · rw [getD_set_other (by omega)]; exact h4 j (by omega)
theorem GiveRel.stop {R V S : List Int} {k : Nat} {c : Int} (h : GiveRel R V k V.length S c) (hk : k + V.length < R.length) (x : Int) (hx : S.getD (k + V.length) 0 = x) :
    (∃ t : Int, sgN (S.set (k + V.length) ((x + c) % 4294967296)) k (V.length + 1) = sgN R k (V.length + 1) + wv V - 4294967296 ^ (V.length + 1) * t) ∧
    Wd (S.set (k + V.length) ((x + c) % 4294967296)) ∧ Out R (S.set (k + V.length) ((x + c) % 4294967296)) k (V.length + 1) := by
  obtain ⟨h1, h2, h3, h4, h5, h6⟩ := h
  have hxR := h4 (k + V.length) (Nat.le_refl _)
  rw [hx] at hxR
  refine ⟨⟨(x + c) / 4294967296, ?_⟩, h2.set (by omega) (by omega), h3.set (by omega)⟩
  have hl : k + V.length < S.length := by rw [h3.1]; omega
  rw [sgN_set_succ hl, sgN, ← hxR, q_succ]
  have hw : wvN V V.length = wv V := rfl
  rw [hw] at h1
  generalize (4294967296 : Int) ^ V.length = P at *
  have e2 : (x + c) % 4294967296 = x + c - 4294967296 * ((x + c) / 4294967296) := by omega
  rw [e2]
  generalize (x + c) / 4294967296 = t at *
  have k1 : (x + c - 4294967296 * t) * P = x * P + P * c - P * 4294967296 * t := by
    rw [Int.sub_mul, Int.add_mul, Int.mul_comm c, Int.mul_comm (4294967296 * t), Int.mul_assoc]
  omega
/-- What a guess is good for: top three words against top two. -/
def Guessed (u3 v2 q : Int) : Prop := 0 ≤ q ∧ q ≤ 4294967295 ∧ q * v2 ≤ u3 ∧ (4294967295 ≤ q ∨ u3 < (q + 1) * v2)
/-- .. and so of all words: the digit itself, or one more. -/
theorem Guessed.digit {u3 v2 q L u v ul vl : Int} (h : Guessed u3 v2 q) (hL : 0 < L) (hu : u = u3 * L + ul) (hv : v = v2 * L + vl) (u0 : 0 ≤ ul) (u1 : ul < L) (v0 : 0 ≤ vl) (v1 : vl < L) (hv2 : 4294967296 ≤ v2) (hlt : u < v * 4294967296) (hu3 : 0 ≤ u3) :
    u / v ≤ q ∧ q ≤ u / v + 1 := by
  obtain ⟨q0, q1, q2, q3⟩ := h
  have hv2L : 0 < v2 * L := Int.mul_pos (by omega) hL
  have hvp : 0 < v := by omega
  constructor
  · have h1 : u / v ≤ 4294967295 := by
      have : u / v < 4294967296 := Int.ediv_lt_of_lt_mul hvp (by rw [Int.mul_comm]; exact hlt)
      omega
    rcases q3 with q3 | q3
    · omega
    · have h2 : u < (q + 1) * v := by
        have k1 : u3 + 1 ≤ (q + 1) * v2 := q3
        have k2 : (u3 + 1) * L ≤ (q + 1) * v2 * L := Int.mul_le_mul_of_nonneg_right k1 (by omega)
        have k3 : (q + 1) * v = (q + 1) * v2 * L + (q + 1) * vl := by rw [hv, Int.mul_add, Int.mul_assoc]
        have k4 : 0 ≤ (q + 1) * vl := Int.mul_nonneg (by omega) v0
        rw [Int.add_mul] at k2
        omega
      have := Int.ediv_lt_of_lt_mul hvp h2
      omega
  · have h3 : (q - 1) * v ≤ u := by
      by_cases hq : q = 0
      · subst hq
        have k5 : 0 ≤ u3 * L := Int.mul_nonneg hu3 (by omega)
        have k6 : (0 - 1) * v = -v := by omega
        omega
      · have k1 : (q - 1) * v ≤ (q - 1) * ((v2 + 1) * L) := Int.mul_le_mul_of_nonneg_left (by rw [Int.add_mul]; omega) (by omega)
        have k2 : (q - 1) * ((v2 + 1) * L) = ((q - 1) * (v2 + 1)) * L := (Int.mul_assoc _ _ _).symm
        have k3 : (q - 1) * (v2 + 1) ≤ u3 := by
          rw [Int.sub_mul, Int.mul_add]; omega
        have k4 : ((q - 1) * (v2 + 1)) * L ≤ u3 * L := Int.mul_le_mul_of_nonneg_right k3 (by omega)
        omega
    have := (Int.le_ediv_iff_mul_le hvp).2 h3
    omega
/-- The loop that lowers the guess. -/
def GuessRel (h l head p d r : Int) : Prop := d * h + r = head ∧ 0 ≤ d ∧ 0 ≤ r ∧ (4294967295 ≤ d ∨ head * 4294967296 + p < (d + 1) * (h * 4294967296 + l))
theorem GuessRel.start {h l head p : Int} (h0 : 0 < h) (l0 : 0 ≤ l) (p1 : p ≤ 4294967295) (hd0 : 0 ≤ head) : GuessRel h l head p (head / h) (head % h) := by
  have e := Int.emod_add_mul_ediv head h
  have r1 := Int.emod_lt_of_pos head h0
  have r0 := Int.emod_nonneg head (show h ≠ 0 by omega)
  refine ⟨by rw [Int.mul_comm]; omega, Int.ediv_nonneg hd0 (by omega), r0, .inr ?_⟩
  generalize head / h = d at *
  generalize head % h = r at *
  have k1 : head + 1 ≤ (d + 1) * h := by rw [Int.add_mul, Int.mul_comm d]; omega
  have k2 : (head + 1) * 4294967296 ≤ (d + 1) * h * 4294967296 := Int.mul_le_mul_of_nonneg_right k1 (by omega)
  have hdn : 0 ≤ d + 1 := by
    by_cases hh : 0 ≤ d + 1
    · exact hh
    · exfalso
      have : (d + 1) * h ≤ 0 := Int.mul_nonpos_of_nonpos_of_nonneg (by omega) (by omega)
      omega
  have k3 : 0 ≤ (d + 1) * l := Int.mul_nonneg hdn l0
  rw [Int.mul_add, ← Int.mul_assoc]
  omega
theorem guess_test {h l head p d r : Int} (hg : GuessRel h l head p d r) : (r * 4294967296 + p < d * l) ↔ (head * 4294967296 + p < d * (h * 4294967296 + l)) := by
  obtain ⟨g1, g2, g3, g4⟩ := hg
  have e : d * (h * 4294967296 + l) = d * h * 4294967296 + d * l := by rw [Int.mul_add, ← Int.mul_assoc]
  rw [e, ← g1, Int.add_mul]
  omega
theorem GuessRel.down {h l head p d r : Int} (hg : GuessRel h l head p d r) (hh : 0 ≤ h) (hd : 4294967296 ≤ d ∨ r * 4294967296 + p < d * l) (d1 : 1 ≤ d) : GuessRel h l head p (d - 1) (r + h) := by
  have ht := guess_test hg
  obtain ⟨g1, g2, g3, g4⟩ := hg
  refine ⟨by rw [Int.sub_mul]; omega, by omega, by omega, ?_⟩
  rcases hd with hd | hd
  · exact .inl (by omega)
  · right
    have := ht.1 hd
    rw [show d - 1 + 1 = d from by omega]
    exact this
theorem GuessRel.stop {h l head p d r : Int} (hg : GuessRel h l head p d r) (hd : d ≤ 4294967295) (ht : d * l ≤ r * 4294967296 + p) : Guessed (head * 4294967296 + p) (h * 4294967296 + l) d := by
  have h2 := guess_test hg
  obtain ⟨g1, g2, g3, g4⟩ := hg
  refine ⟨g2, hd, ?_, g4⟩
  have : ¬ (head * 4294967296 + p < d * (h * 4294967296 + l)) := fun e => by have := h2.2 e; omega
  omega
set_option maxRecDepth 100000
open Go.RowKit
set_option linter.unusedVariables false
/-- The row behind the call: S. -/
def RowPost (B g cap : Nat) (S : List Int) (w w' : World) : Prop := WRow w' B g cap S ∧ Wd S ∧ Only g w w'
def TakePost (B g cap k : Nat) (R V : List Int) (q : Int) (w : World) (e : Ending) (w' : World) : Prop :=
  ∃ (S : List Int) (b : Bool), e = .returned (.bool b) ∧ RowPost B g cap S w w' ∧ Out R S k (V.length + 1) ∧ sgN S k (V.length + 1) = sgN R k (V.length + 1) - q * wv V + 4294967296 ^ (V.length + 1) * (bif b then 1 else 0)
set_option maxHeartbeats 2000000 in
theorem take_any (B g cap k : Nat) (R : List Int) (v : Value) (V : List Int) (q : Int) (c : Nat) (w : World) (hr : WRow w B g cap R) (hR : Wd R) (hv : WList w v V) (hfar : ∀ b o l d, v = .slice (some ⟨b, o, none⟩) l d → b ≠ g) (hk : k + V.length < R.length) (lV : V.length ≤ 1099511627775) (q0 : 0 ≤ q) (q1 : q ≤ 4294967295) (hc : V.length + 1 ≤ c) :
    Calls Tryd.prog 113 #[.slice (some ⟨g, k, none⟩) (V.length + 1) c, v, .int .u32 q] w (TakePost B g cap k R V q w) := by
  obtain ⟨p, d, rfl⟩ := hv.shape
  have HV := Lib.hid hv
  have HF := Lib.hid hfar
  have hg := hr.facts.1
  have HK := Lib.hid hk
  have hR0 := Lib.hid (And.intro (TakeRel.start V k q hR) (And.intro hr (Only.refl g w)))
  clear hv hfar hr hR
  go_enter Tryd.func113, Tryd.ntmps113
  go_wp2_with fail
  go_loopw [7, 8, 13] (fun cv bv i wr => ∃ (m : Nat) (S : List Int) (cy br : Int), m ≤ V.length ∧ i = .int .i64 m ∧ cv = .int .u64 cy ∧ bv = .int .u32 br ∧ Hid (TakeRel R V k q m S cy br ∧ WRow wr B g cap S ∧ Only g w wr)) (fun _ _ i _ => V.length - (intOf i).toNat)
  case atStart => exact ⟨0, R, 0, 0, Nat.zero_le _, rfl, rfl, rfl, hR0⟩
  case round =>
    obtain ⟨m, S, cy, br, hm, rfl, rfl, rfl, hS⟩ := hrel
    clear hR0
    obtain ⟨_, _, _, _, c0, c1, b0, b1⟩ := hS.out.1
    have hlen : Hid (S.length = R.length) := Lib.hid hS.out.1.2.2.1.1
    by_cases hlt : m < V.length
    · obtain ⟨ho1, ho2⟩ := hS.out.2.1.facts.2.2.2.2 (k + m) (by have := hlen.out; have := HK.out; omega)
      obtain ⟨b2, o2, hp2, hb2, hc2⟩ := HV.out.1.cell (i := m) hlt
      subst hp2
      have hc2 : wr.cell? ⟨b2, o2 + m, none⟩ = some (.int .u32 (V.getD m 0)) := by
        rw [World.cell?_of_block (w := w) (w' := wr) (hS.out.2.2.2.2.2.2 b2 (HF.out _ _ _ _ rfl))]; exact hc2
      have dx := hS.out.1.2.1.getD (k + m)
      have dv := HV.out.2.1.getD m
      have hst := Lib.hid (fun (x v : Int) (hx : S.getD (k + m) 0 = x) (hv : V.getD m 0 = v) => hS.out.1.step HV.out.2.1 hlt HK.out q0 q1 x v hx hv)
      generalize S.getD (k + m) 0 = x at *
      generalize V.getD m 0 = v at *
      have hst2 := Lib.hid (hst.out x v rfl rfl)
      have hSS := Lib.hid (fun (z : Int) => And.intro (hS.out.2.1.set (k + m) z) (hS.out.2.2.set (k + m) (.int .u32 z)))
      have hpb := prod_bounds dv.1 dv.2 q0 q1 c0 c1
      have hvq : 0 ≤ v * q := Int.mul_nonneg dv.1 q0
      obtain ⟨x0, x9⟩ := dx
      obtain ⟨v0, v9⟩ := dv
      obtain ⟨t0, t9⟩ := hpb
      have ht9 : cy + v * q ≤ 18446744073709551615 := by omega
      have hvq9 : v * q ≤ 18446744073709551615 := by omega
      have hSb := Lib.hid (fun w1 => sub32_any x ((cy + v * q) % 4294967296) br x0 x9 (by omega) (by omega) b0 b1 w1)
      clear hst hS hb2
      go_wp2_with (go_at_call 96; refine (hSb.out _).mono ?_; rintro e w' ⟨rfl, rfl⟩)
      go_roundw
      case rel => exact ⟨m + 1, _, _, _, by omega, by go_num, rfl, rfl, Lib.hid ⟨hst2.out, hSS.out _⟩⟩
      case measure => simp [intOf]; omega
    · obtain rfl : m = V.length := by omega
      obtain ⟨ho1, ho2⟩ := hS.out.2.1.facts.2.2.2.2 (k + V.length) (by have := hlen.out; have := HK.out; omega)
      have dx := hS.out.1.2.1.getD (k + V.length)
      have hst := Lib.hid (fun (x : Int) (hx : S.getD (k + V.length) 0 = x) => hS.out.1.stop HK.out x hx)
      generalize S.getD (k + V.length) 0 = x at *
      have hst2 := Lib.hid (hst.out x rfl)
      obtain ⟨x0, x9⟩ := dx
      have hSS := Lib.hid (fun (z : Int) => And.intro (hS.out.2.1.set (k + V.length) z) (hS.out.2.2.set (k + V.length) (.int .u32 z)))
      have hSb := Lib.hid (fun w1 => sub32_any x cy br x0 x9 c0 c1 b0 b1 w1)
      have hbb : -((x - cy - br) / 4294967296) = 0 ∨ -((x - cy - br) / 4294967296) = 1 := by omega
      generalize hnb : -((x - cy - br) / 4294967296) = nb at *
      generalize (x - cy - br) % 4294967296 = nd at *
      clear hst hS
      rcases hbb with rfl | rfl
      · go_wp2_with (go_at_call 96; refine (hSb.out _).mono ?_; rintro e w' ⟨rfl, rfl⟩)
        go_ret
        exact ⟨_, false, rfl, ⟨(hSS.out _).1, hst2.out.2.1, (hSS.out _).2⟩, hst2.out.2.2, hst2.out.1⟩
      · go_wp2_with (go_at_call 96; refine (hSb.out _).mono ?_; rintro e w' ⟨rfl, rfl⟩)
        go_ret
        exact ⟨_, true, rfl, ⟨(hSS.out _).1, hst2.out.2.1, (hSS.out _).2⟩, hst2.out.2.2, hst2.out.1⟩
def GivePost (B g cap k : Nat) (R V : List Int) (w : World) (e : Ending) (w' : World) : Prop :=
  ∃ (S : List Int) (t : Int), e = .returned (.tuple #[]) ∧ RowPost B g cap S w w' ∧ Out R S k (V.length + 1) ∧ sgN S k (V.length + 1) = sgN R k (V.length + 1) + wv V - 4294967296 ^ (V.length + 1) * t
theorem add32_same (x y c : Int) (x0 : 0 ≤ x) (x1 : x ≤ 4294967295) (y0 : 0 ≤ y) (y1 : y ≤ 4294967295) (c0 : 0 ≤ c) (c1 : c ≤ 4294967295) (w : World) :
    Calls Tryd.prog 93 #[.int .u32 x, .int .u32 y, .int .u32 c] w fun e w' => e = .returned (.tuple #[.int .u32 ((x + y + c) % 4294967296), .int .u32 ((x + y + c) / 4294967296)]) ∧ w = w' := add32_any x y c x0 x1 y0 y1 c0 c1 w
set_option maxHeartbeats 2000000 in
theorem give_any (B g cap k : Nat) (R : List Int) (v : Value) (V : List Int) (c : Nat) (w : World) (hr : WRow w B g cap R) (hR : Wd R) (hv : WList w v V) (hfar : ∀ b o l d, v = .slice (some ⟨b, o, none⟩) l d → b ≠ g) (hk : k + V.length < R.length) (lV : V.length ≤ 1099511627775) (hc : V.length + 1 ≤ c) :
    Calls Tryd.prog 114 #[.slice (some ⟨g, k, none⟩) (V.length + 1) c, v] w (GivePost B g cap k R V w) := by
  obtain ⟨p, d, rfl⟩ := hv.shape
  have HV := Lib.hid hv
  have HF := Lib.hid hfar
  have HK := Lib.hid hk
  have hR0 := Lib.hid (And.intro (GiveRel.start V k hR) (And.intro hr (Only.refl g w)))
  clear hv hfar hr hR
  go_enter Tryd.func114, Tryd.ntmps114
  go_wp2_with fail
  go_loopw [4, 8] (fun cv i wr => ∃ (m : Nat) (S : List Int) (cy : Int), m ≤ V.length ∧ i = .int .i64 m ∧ cv = .int .u32 cy ∧ Hid (GiveRel R V k m S cy ∧ WRow wr B g cap S ∧ Only g w wr)) (fun _ i _ => V.length - (intOf i).toNat)
  case atStart => exact ⟨0, R, 0, Nat.zero_le _, rfl, rfl, hR0⟩
  case round =>
    obtain ⟨m, S, cy, hm, rfl, rfl, hS⟩ := hrel
    clear hR0
    obtain ⟨_, _, _, _, c0, c1⟩ := hS.out.1
    have hlen : Hid (S.length = R.length) := Lib.hid hS.out.1.2.2.1.1
    by_cases hlt : m < V.length
    · obtain ⟨ho1, ho2⟩ := hS.out.2.1.facts.2.2.2.2 (k + m) (by have := hlen.out; have := HK.out; omega)
      obtain ⟨b2, o2, hp2, hb2, hc2⟩ := HV.out.1.cell (i := m) hlt
      subst hp2
      have hc2 : wr.cell? ⟨b2, o2 + m, none⟩ = some (.int .u32 (V.getD m 0)) := by
        rw [World.cell?_of_block (w := w) (w' := wr) (hS.out.2.2.2.2.2.2 b2 (HF.out _ _ _ _ rfl))]; exact hc2
      have dx := hS.out.1.2.1.getD (k + m)
      have dv := HV.out.2.1.getD m
      have hst := Lib.hid (fun (x v : Int) (hx : S.getD (k + m) 0 = x) (hv : V.getD m 0 = v) => hS.out.1.step HV.out.2.1 hlt HK.out x v hx hv)
      generalize S.getD (k + m) 0 = x at *
      generalize V.getD m 0 = v at *
      have hst2 := Lib.hid (hst.out x v rfl rfl)
      have hSS := Lib.hid (fun (n : Nat) (z : Int) => And.intro ((hS.out.2.1.drewN n).set (k + m) z) ((hS.out.2.2.drewN n).set (k + m) (.int .u32 z)))
      obtain ⟨x0, x9⟩ := dx
      obtain ⟨v0, v9⟩ := dv
      have hi0 : (0 : Int) ≤ (m : Int) := by omega
      have hi1 : (m : Int) < (V.length : Int) := by omega
      have hi2 : (m : Int) < (V.length : Int) + 1 := by omega
      have hSb := Lib.hid (fun w1 => add32_same x v cy x0 x9 v0 v9 c0 (by omega) w1)
      clear hst hS hb2
      go_wp2_with fail
      go_region_with (go_at_call 93; refine (hSb.out _).mono ?_; rintro e w' ⟨rfl, rfl⟩)
      all_goals
        go_wp2_with fail
        go_roundw
        case rel => exact ⟨m + 1, _, _, by omega, by go_num, rfl, Lib.hid ⟨hst2.out, hSS.out 1 _⟩⟩
        case measure => simp [intOf]; omega
    · obtain rfl : m = V.length := by omega
      obtain ⟨ho1, ho2⟩ := hS.out.2.1.facts.2.2.2.2 (k + V.length) (by have := hlen.out; have := HK.out; omega)
      have dx := hS.out.1.2.1.getD (k + V.length)
      have hst := Lib.hid (fun (x : Int) (hx : S.getD (k + V.length) 0 = x) => hS.out.1.stop HK.out x hx)
      generalize S.getD (k + V.length) 0 = x at *
      have hst2 := Lib.hid (hst.out x rfl)
      obtain ⟨x0, x9⟩ := dx
      have hSS := Lib.hid (fun (z : Int) => And.intro (hS.out.2.1.set (k + V.length) z) (hS.out.2.2.set (k + V.length) (.int .u32 z)))
      clear hst hS
      go_wp2_with fail
      go_end0
      obtain ⟨⟨t, ht⟩, h2, h3⟩ := hst2.out
      exact ⟨_, t, rfl, ⟨(hSS.out _).1, h2, (hSS.out _).2⟩, h3, ht⟩
set_option maxRecDepth 100000
open Go.RowKit
set_option linter.unusedVariables false
def GuessPost (u3 v2 : Int) (w : World) (e : Ending) (w' : World) : Prop := ∃ q : Int, e = .returned (.int .u32 q) ∧ Guessed u3 v2 q ∧ ∃ nd, w' = w.drewN nd
theorem u64_same {x : Int} (h0 : 0 ≤ x) (h1 : x ≤ 18446744073709551615) : IntKind.u64.wrap x = x := by rw [IntKind.wrap_u64]; omega
set_option maxHeartbeats 4000000 in
theorem guess_any (b o bv ov m c d : Nat) (pn p1 p0 h l : Int) (w : World)
    (cn : w.cell? ⟨b, o + (m + 2), none⟩ = some (.int .u32 pn)) (cp1 : w.cell? ⟨b, o + (m + 1), none⟩ = some (.int .u32 p1)) (cp0 : w.cell? ⟨b, o + m, none⟩ = some (.int .u32 p0))
    (ch : w.cell? ⟨bv, ov + (m + 1), none⟩ = some (.int .u32 h)) (cl : w.cell? ⟨bv, ov + m, none⟩ = some (.int .u32 l))
    (hm : m ≤ 1099511627776) (n0 : 0 ≤ pn) (n1 : pn ≤ h) (q0 : 0 ≤ p1) (q1 : p1 ≤ 4294967295) (z0 : 0 ≤ p0) (z1 : p0 ≤ 4294967295) (h0 : 2147483648 ≤ h) (h1 : h ≤ 4294967295) (l0 : 0 ≤ l) (l1 : l ≤ 4294967295) :
    Calls Tryd.prog 112 #[.slice (some ⟨b, o, none⟩) (m + 3) c, .slice (some ⟨bv, ov, none⟩) (m + 2) d] w (GuessPost ((pn * 4294967296 + p1) * 4294967296 + p0) (h * 4294967296 + l) w) := by
  have b1 : (0 : Int) ≤ (m : Int) := by omega
  have b2 : (0 : Int) ≤ (m : Int) + 1 := by omega
  have b3 : (0 : Int) ≤ (m : Int) + 2 := by omega
  have b4 : (m : Int) + 1 < (m : Int) + 2 := by omega
  have b5 : (m : Int) < (m : Int) + 2 := by omega
  have b6 : (m : Int) + 2 < (m : Int) + 3 := by omega
  have b7 : (m : Int) + 1 < (m : Int) + 3 := by omega
  have b8 : (m : Int) < (m : Int) + 3 := by omega
  have t1 : ((m : Int) + 1).toNat = m + 1 := by omega
  have t2 : ((m : Int) + 2).toNat = m + 2 := by omega
  have s1 : (m : Int) + 2 - 1 = (m : Int) + 1 := by omega
  have s2 : (m : Int) + 2 - 2 = (m : Int) := by omega
  have w1 : IntKind.i64.wrap ((m : Int) + 1) = (m : Int) + 1 := IntWalk.i64_in _ (by omega)
  have w2 : IntKind.i64.wrap (m : Int) = (m : Int) := IntWalk.i64_in _ (by omega)
  have u1 : IntKind.u64.wrap h = h := u64_same (by omega) (by omega)
  have u2 : IntKind.u64.wrap l = l := u64_same (by omega) (by omega)
  have u3 : IntKind.u64.wrap pn = pn := u64_same (by omega) (by omega)
  have u4 : IntKind.u64.wrap p1 = p1 := u64_same (by omega) (by omega)
  have u5 : IntKind.u64.wrap (pn * 4294967296) = pn * 4294967296 := u64_same (by omega) (by omega)
  have o1 := or_words pn p1 n0 (by omega) q0 q1
  go_enter Tryd.func112, Tryd.ntmps112
  go_wp2_with fail
  go_quiet (fail)
  go_wp2_with fail
  go_quiet (fail)
  have hH0 : 0 ≤ pn * 4294967296 + p1 := by omega
  have hHh : pn * 4294967296 + p1 ≤ h * 4294967296 + 4294967295 := by omega
  have hH1 : pn * 4294967296 + p1 ≤ 18446744073709551615 := by omega
  clear u1 u2 u3 u4 u5 o1 cn cp1 ch cl w1 t2 b3 b4 b6 b7
  have hst := Lib.hid (GuessRel.start (h := h) (l := l) (head := pn * 4294967296 + p1) (p := p0) (by omega) l0 z1 hH0)
  generalize pn * 4294967296 + p1 = H at *
  have hh0 : h ≠ 0 := by omega
  have k1 : H.tdiv h = H / h := Int.tdiv_eq_ediv_of_nonneg hH0
  have k2 : H.tmod h = H % h := Int.tmod_eq_emod_of_nonneg hH0
  have hq0 : 0 ≤ H / h := hst.out.2.1
  have hr0 : 0 ≤ H % h := hst.out.2.2.1
  have hrh : H % h < h := Int.emod_lt_of_pos H (by omega)
  have hq1 : H / h ≤ 4294967297 := by
    have e := Int.emod_add_mul_ediv H h
    by_cases g : H / h ≤ 4294967297
    · exact g
    · exfalso
      have : h * 4294967298 ≤ h * (H / h) := Int.mul_le_mul_of_nonneg_left (by omega) (by omega)
      omega
  have k3 : IntKind.u64.wrap (H / h) = H / h := u64_same (by omega) (by omega)
  have k4 : IntKind.u64.wrap (H % h) = H % h := u64_same (by omega) (by omega)
  go_wp2_with fail
  go_quiet (fail)
  clear k1 k2 k3 k4
  generalize H / h = D0 at *
  generalize H % h = R0 at *
  have hHh := Lib.hid hHh
  clear hH0 hH1
  go_wp2_with fail
  go_loopw [9, 10] (fun dv rv wr => ∃ (dd rr : Int) (nd : Nat), dv = .int .u64 dd ∧ rv = .int .u64 rr ∧ 0 ≤ dd ∧ dd ≤ 4294967297 ∧ 0 ≤ rr ∧ rr ≤ 4294967295 ∧ Hid (GuessRel h l H p0 dd rr) ∧ wr = w.drewN nd) (fun dv _ _ => (intOf dv).toNat)
  case atStart => exact ⟨D0, R0, _, rfl, rfl, hq0, hq1, hr0, by omega, hst, by simp only [World.drewN_drewN]; rfl⟩
  case round =>
    obtain ⟨dd, rr, nd, rfl, rfl, d0, d1, r0, r1, hg, rfl⟩ := hrel
    clear hst hq0 hq1 hr0 hrh
    have hmul : 0 ≤ dd * l := Int.mul_nonneg d0 l0
    have hdown := Lib.hid (fun hh => hg.out.down (by omega) hh)
    have hrh9 : rr + h ≤ 18446744073709551615 := by omega
    have hr32 : rr * 4294967296 ≤ 18446744073709551615 := by omega
    have hor := or_words rr p0 r0 r1 z0 z1
    by_cases hQ : 4294967296 ≤ dd
    · have hdq : dd / 4294967296 = 1 := by omega
      have hG := Lib.hid (hdown.out (.inl hQ) (by omega))
      clear hmul hdown hg hor
      by_cases hR : 4294967296 ≤ rr + h
      · have hrq : (rr + h) / 4294967296 = 1 := by omega
        have hE : Hid (Guessed (H * 4294967296 + p0) (h * 4294967296 + l) (dd - 1)) := Lib.hid (hG.out.stop (by
          obtain ⟨g1, _⟩ := hG.out
          by_cases e : dd ≤ 4294967296
          · omega
          · exfalso
            have e2 : dd = 4294967297 := by omega
            subst e2
            have := hHh.out
            omega) (by
          have k1 : (dd - 1) * l ≤ 4294967296 * 4294967295 := Int.mul_le_mul (by
            obtain ⟨g1, _⟩ := hG.out
            omega) l1 l0 (by omega)
          have k2 : 4294967296 * 4294967296 ≤ (rr + h) * 4294967296 := Int.mul_le_mul_of_nonneg_right hR (by omega)
          omega))
        go_wp2_with fail
        go_ret
        have hq := hE.out.2.1
        exact ⟨dd - 1, ret_int (by omega), hE.out, _, rfl⟩
      · have hrq : (rr + h) / 4294967296 = 0 := by omega
        go_wp2_with fail
        go_roundw
        case rel => exact ⟨dd - 1, rr + h, _, rfl, rfl, by omega, by omega, by omega, by omega, hG, rfl⟩
        case measure => simp [intOf]; omega
    · have hdq : dd / 4294967296 = 0 := by omega
      have hm9 : dd * l ≤ 18446744073709551615 := by
        have : dd * l ≤ 4294967295 * 4294967295 := Int.mul_le_mul (by omega) l1 l0 (by omega)
        omega
      by_cases hT : rr * 4294967296 + p0 < dd * l
      · have hd1 : 1 ≤ dd := by
          by_cases e : dd = 0
          · subst e; simp at hT; omega
          · omega
        have hG := Lib.hid (hdown.out (.inr hT) hd1)
        clear hdown hg
        by_cases hR : 4294967296 ≤ rr + h
        · have hrq : (rr + h) / 4294967296 = 1 := by omega
          have hE : Hid (Guessed (H * 4294967296 + p0) (h * 4294967296 + l) (dd - 1)) := Lib.hid (hG.out.stop (by omega) (by
            have k1 : (dd - 1) * l ≤ 4294967296 * 4294967295 := Int.mul_le_mul (by omega) l1 l0 (by omega)
            have k2 : 4294967296 * 4294967296 ≤ (rr + h) * 4294967296 := Int.mul_le_mul_of_nonneg_right hR (by omega)
            omega))
          go_wp2_with fail
          go_ret
          have hq := hE.out.2.1
          exact ⟨dd - 1, ret_int (by omega), hE.out, _, rfl⟩
        · have hrq : (rr + h) / 4294967296 = 0 := by omega
          go_wp2_with fail
          go_roundw
          case rel => exact ⟨dd - 1, rr + h, _, rfl, rfl, by omega, by omega, by omega, by omega, hG, rfl⟩
          case measure => simp [intOf]; omega
      · have hE := Lib.hid (hg.out.stop (by omega) (by omega))
        clear hdown hg
        go_wp2_with fail
        go_ret
        exact ⟨dd, ret_int (by omega), hE.out, _, rfl⟩
set_option maxRecDepth 100000
open Go.RowKit
set_option linter.unusedVariables false
theorem Only.trans {g : Nat} {w w1 w2 : World} (h : Only g w w1) (k : Only g w1 w2) : Only g w w2 :=
  ⟨k.1.trans h.1, k.2.1.trans h.2.1, k.2.2.1.trans h.2.2.1, k.2.2.2.1.trans h.2.2.2.1, fun j hj => (k.2.2.2.2 j hj).trans (h.2.2.2.2 j hj)⟩
theorem WRow.only {w w' : World} {B g g' cap : Nat} {a : List Int} (h : WRow w B g' cap a) (ho : Only g w w') (hne : g' ≠ g) : WRow w' B g' cap a :=
  ho.row h (by simp [Value.ownBlock]; exact hne)
theorem WList.only {w w' : World} {g : Nat} {v : Value} {V : List Int} (h : WList w v V) (ho : Only g w w') (hf : ∀ b o l d, v = .slice (some ⟨b, o, none⟩) l d → b ≠ g) : WList w' v V := by
  obtain ⟨⟨a, c, rfl, hc, ha⟩, h2⟩ := h
  refine ⟨⟨a, c, rfl, hc, ?_⟩, h2⟩
  rcases ha with h | ⟨b, off, rfl, hb, hcell⟩
  · exact .inl h
  · exact .inr ⟨b, off, rfl, by rw [ho.2.2.2.1]; exact hb, fun i hi => by rw [World.cell?_of_block (w := w) (w' := w') (ho.2.2.2.2 b (hf _ _ _ _ rfl))]; exact hcell i hi⟩
/-- Long division: the places from j on are done. -/
def LongRel (R V : List Int) (j0 j : Nat) (S Qt : List Int) : Prop :=
  wv S + wv V * wv Qt = wv R ∧ wv S < wv V * 4294967296 ^ j ∧ Wd S ∧ Wd Qt ∧ S.length = R.length ∧ Qt.length = j0 ∧ (∀ i, i < j → Qt.getD i 0 = 0)
theorem LongRel.start {R V : List Int} {j0 : Nat} (hR : Wd R) (h : wv R < wv V * 4294967296 ^ j0) : LongRel R V j0 j0 R (List.replicate j0 0) := by
  refine ⟨by rw [wv_replicate]; simp, h, hR, Wd.zeros _, rfl, by simp, fun i _ => ?_⟩
  simp [List.getD, List.getElem?_replicate]; split <;> simp
/-- The words above those that are looked at are noughts. -/
theorem LongRel.seg {R V S Qt : List Int} {j0 t : Nat} (h : LongRel R V j0 (t + 1) S Qt) (hV : Wd V) (hl : t + V.length < S.length) :
    wv S = wvN S t + 4294967296 ^ t * sgN S t (V.length + 1) ∧ sgN S t (V.length + 1) < wv V * 4294967296 := by
  obtain ⟨h1, h2, h3, h4, h5, h6, h7⟩ := h
  have hv := (wv_range hV).2
  have e1 : wvN S (t + (V.length + 1)) = wv S := by
    refine wvN_of_lt h3 ?_
    have k1 : wv V * 4294967296 ^ (t + 1) < 4294967296 ^ V.length * 4294967296 ^ (t + 1) := Int.mul_lt_mul_of_pos_right hv (q_pos _)
    rw [← Int.pow_add] at k1
    rw [show V.length + (t + 1) = t + (V.length + 1) from by omega] at k1
    omega
  have e2 := wvN_seg S t (V.length + 1)
  rw [e1] at e2
  refine ⟨e2, ?_⟩
  have h8 := (wvN_range h3 t).1
  have hp := q_pos t
  by_cases g : sgN S t (V.length + 1) < wv V * 4294967296
  · exact g
  · exfalso
    have k2 : 4294967296 ^ t * (wv V * 4294967296) ≤ 4294967296 ^ t * sgN S t (V.length + 1) := Int.mul_le_mul_of_nonneg_left (by omega) (by omega)
    rw [q_succ] at h2
    have k3 : 4294967296 ^ t * (wv V * 4294967296) = wv V * (4294967296 ^ t * 4294967296) := by rw [← Int.mul_assoc, Int.mul_comm (4294967296 ^ t : Int), Int.mul_assoc]
    omega
theorem LongRel.next {R V S T Qt : List Int} {j0 t : Nat} {q : Int} (h : LongRel R V j0 (t + 1) S Qt) (hV : Wd V) (hv0 : 0 < wv V) (hl : t + V.length < S.length) (hT : Wd T) (ho : Out S T t (V.length + 1)) (hq : q = sgN S t (V.length + 1) / wv V)
    (hs : sgN T t (V.length + 1) = sgN S t (V.length + 1) % wv V) (htl : t < j0) : LongRel R V j0 t T (Qt.set t q) := by
  obtain ⟨e1, e2⟩ := h.seg hV hl
  obtain ⟨h1, h2, h3, h4, h5, h6, h7⟩ := h
  have hu0 := (sgN_range h3 t (V.length + 1)).1
  have q0 : 0 ≤ q := by rw [hq]; exact Int.ediv_nonneg hu0 (by omega)
  have q1 : q < 4294967296 := by rw [hq]; exact Int.ediv_lt_of_lt_mul hv0 (by rw [Int.mul_comm]; exact e2)
  have hmod := Int.emod_add_mul_ediv (sgN S t (V.length + 1)) (wv V)
  have hr1 := Int.emod_lt_of_pos (sgN S t (V.length + 1)) hv0
  have hr0 := Int.emod_nonneg (sgN S t (V.length + 1)) (show wv V ≠ 0 by omega)
  rw [← hq, ← hs] at hmod
  rw [← hs] at hr1 hr0
  have hlow : wvN T t = wvN S t := wvN_congr (fun i hi => ho.2 i (.inl hi))
  have hw := wvN_range h3 t
  have hp := q_pos t
  have e3 : wv T = wvN S t + 4294967296 ^ t * sgN T t (V.length + 1) := by
    have k1 := wvN_seg T t (V.length + 1)
    rw [hlow] at k1
    have k2 : wv T - wvN T (t + (V.length + 1)) = wv S - wvN S (t + (V.length + 1)) := wv_same_top (fun i hi => ho.2 i (.inr (by omega)))
    have k3 := wvN_seg S t (V.length + 1)
    omega
  have hQl : t < Qt.length := by omega
  refine ⟨?_, ?_, hT, h4.set q0 (by omega), ho.1.trans h5, by simpa using h6, fun i hi => by rw [getD_set_other (by omega)]; exact h7 i (by omega)⟩
  · rw [wv_set hQl, h7 t (by omega), e3, ← h1, e1, ← hmod]
    generalize sgN T t (V.length + 1) = s
    generalize (4294967296 : Int) ^ t = P
    generalize wv V = v
    have k1 : v * (wv Qt + (q - 0) * P) = v * wv Qt + v * q * P := by rw [Int.sub_zero, Int.mul_add, ← Int.mul_assoc]
    have k2 : P * (s + v * q) = P * s + v * q * P := by rw [Int.mul_add, Int.mul_comm P (v * q)]
    omega
  · rw [e3]
    have k1 : 4294967296 ^ t * (sgN T t (V.length + 1) + 1) ≤ 4294967296 ^ t * wv V := Int.mul_le_mul_of_nonneg_left (by omega) (by omega)
    have k2 : 4294967296 ^ t * wv V = wv V * 4294967296 ^ t := Int.mul_comm _ _
    rw [Int.mul_add] at k1
    omega
/-- The digit out of its guess. -/
theorem digit_right {V S T : List Int} {k : Nat} {q : Int} {b : Bool} (hg : sgN S k (V.length + 1) / wv V ≤ q ∧ q ≤ sgN S k (V.length + 1) / wv V + 1) (hv0 : 0 < wv V) (hS : Wd S) (hT : Wd T)
    (h : sgN T k (V.length + 1) = sgN S k (V.length + 1) - q * wv V + 4294967296 ^ (V.length + 1) * (bif b then 1 else 0)) (hV : Wd V) :
    (b = false → q = sgN S k (V.length + 1) / wv V ∧ sgN T k (V.length + 1) = sgN S k (V.length + 1) % wv V) ∧
    (b = true → q - 1 = sgN S k (V.length + 1) / wv V ∧ ∀ (U : List Int) (t : Int), Wd U → sgN U k (V.length + 1) = sgN T k (V.length + 1) + wv V - 4294967296 ^ (V.length + 1) * t → sgN U k (V.length + 1) = sgN S k (V.length + 1) % wv V) := by
  have hT0 := sgN_range hT k (V.length + 1)
  have hS0 := sgN_range hS k (V.length + 1)
  have hv := (wv_range hV).2
  have hq2 := q_mono (m := V.length) (n := V.length + 1) (by omega)
  have hmod := Int.emod_add_mul_ediv (sgN S k (V.length + 1)) (wv V)
  have hr1 := Int.emod_lt_of_pos (sgN S k (V.length + 1)) hv0
  have hr0 := Int.emod_nonneg (sgN S k (V.length + 1)) (show wv V ≠ 0 by omega)
  generalize sgN S k (V.length + 1) = u at *
  generalize sgN T k (V.length + 1) = s at *
  generalize hd : u / wv V = d at *
  have hcase : q = d ∨ q = d + 1 := by omega
  have hcomm : wv V * d = d * wv V := Int.mul_comm _ _
  constructor
  · intro hb
    subst hb
    simp at h
    rcases hcase with rfl | rfl
    · exact ⟨rfl, by omega⟩
    · exfalso
      rw [Int.add_mul] at h
      omega
  · intro hb
    subst hb
    simp at h
    rcases hcase with rfl | rfl
    · exfalso; omega
    · refine ⟨by omega, fun U t hU hUt => ?_⟩
      have hU0 := sgN_range hU k (V.length + 1)
      rw [Int.add_mul] at h
      generalize sgN U k (V.length + 1) = y at *
      generalize hP : (4294967296 : Int) ^ (V.length + 1) = P at *
      have ht : y = u % wv V + P * (1 - t) := by
        have : P * (1 - t) = P - P * t := by rw [Int.mul_sub]; omega
        omega
      have h1 : 1 - t = 0 := by
        rcases Int.lt_trichotomy (1 - t) 0 with g | g | g
        · exfalso
          have : P * (1 - t) ≤ P * (-1) := Int.mul_le_mul_of_nonneg_left (by omega) (by omega)
          omega
        · exact g
        · exfalso
          have : P * 1 ≤ P * (1 - t) := Int.mul_le_mul_of_nonneg_left (by omega) (by omega)
          omega
      rw [h1] at ht
      omega
set_option maxRecDepth 100000
open Go.RowKit
set_option linter.unusedVariables false
theorem seg_top (S : List Int) (t m : Nat) : sgN S t (m + 2 + 1) = ((S.getD (t + (m + 2)) 0 * 4294967296 + S.getD (t + (m + 1)) 0) * 4294967296 + S.getD (t + m) 0) * 4294967296 ^ m + sgN S t m := by
  rw [sgN, sgN, sgN, q_succ (m + 1), q_succ m]
  generalize (4294967296 : Int) ^ m = P
  generalize S.getD (t + (m + 2)) 0 = a
  generalize S.getD (t + (m + 1)) 0 = b
  have e1 : a * (P * 4294967296 * 4294967296) = a * 4294967296 * 4294967296 * P := by rw [Int.mul_assoc P, Int.mul_comm P, ← Int.mul_assoc, ← Int.mul_assoc]
  have e2 : b * (P * 4294967296) = b * 4294967296 * P := by rw [Int.mul_comm P, ← Int.mul_assoc]
  have e3 : ((a * 4294967296 + b) * 4294967296 + S.getD (t + m) 0) * P = a * 4294967296 * 4294967296 * P + b * 4294967296 * P + S.getD (t + m) 0 * P := by rw [Int.add_mul, Int.add_mul, Int.add_mul]
  rw [e1, e2, e3]
  omega
theorem val_top {V : List Int} {m : Nat} (hl : V.length = m + 2) : wv V = (V.getD (m + 1) 0 * 4294967296 + V.getD m 0) * 4294967296 ^ m + wvN V m := by
  rw [wv, hl, wvN, wvN, q_succ]
  generalize (4294967296 : Int) ^ m = P
  have e2 : V.getD (m + 1) 0 * (P * 4294967296) = V.getD (m + 1) 0 * 4294967296 * P := by rw [Int.mul_comm P, ← Int.mul_assoc]
  rw [Int.add_mul, e2]
  omega
theorem top_le {S V : List Int} {t m : Nat} (hl : V.length = m + 2) (hS : Wd S) (hV : Wd V) (h : sgN S t (V.length + 1) < wv V * 4294967296) : S.getD (t + (m + 2)) 0 ≤ V.getD (m + 1) 0 := by
  have h1 := seg_top S t m
  have h2 := val_top hl
  have h3 := (sgN_range hS t m).1
  have h4 := (wvN_range hV m).2
  have hp := q_pos m
  have d1 := hS.getD (t + (m + 1))
  have d0 := hS.getD (t + m)
  have v0 := hV.getD m
  rw [hl, h1, h2] at h
  generalize S.getD (t + (m + 2)) 0 = a at *
  generalize S.getD (t + (m + 1)) 0 = b at *
  generalize S.getD (t + m) 0 = c at *
  generalize V.getD (m + 1) 0 = x at *
  generalize V.getD m 0 = y at *
  generalize (4294967296 : Int) ^ m = P at *
  by_cases g : a ≤ x
  · exact g
  · exfalso
    have k1 : (x * 4294967296 + y + 1) * 4294967296 ≤ (a * 4294967296 + b) * 4294967296 + c := by omega
    have k2 : (x * 4294967296 + y + 1) * 4294967296 * P ≤ ((a * 4294967296 + b) * 4294967296 + c) * P := Int.mul_le_mul_of_nonneg_right k1 (by omega)
    have k3 : ((x * 4294967296 + y) * P + wvN V m) * 4294967296 < (x * 4294967296 + y + 1) * 4294967296 * P := by
      have e : (x * 4294967296 + y + 1) * 4294967296 * P = ((x * 4294967296 + y) * P + P) * 4294967296 := by
        rw [Int.mul_assoc, Int.mul_comm 4294967296 P, ← Int.mul_assoc, Int.add_mul, Int.one_mul]
      omega
    omega
theorem guess_right {S V : List Int} {t m : Nat} {q : Int} (hl : V.length = m + 2) (hS : Wd S) (hV : Wd V) (h : sgN S t (V.length + 1) < wv V * 4294967296) (htop : 2147483648 ≤ V.getD (m + 1) 0)
    (hg : Guessed ((S.getD (t + (m + 2)) 0 * 4294967296 + S.getD (t + (m + 1)) 0) * 4294967296 + S.getD (t + m) 0) (V.getD (m + 1) 0 * 4294967296 + V.getD m 0) q) :
    sgN S t (V.length + 1) / wv V ≤ q ∧ q ≤ sgN S t (V.length + 1) / wv V + 1 := by
  have h3 := sgN_range hS t m
  have h4 := wvN_range hV m
  have d2 := hS.getD (t + (m + 2))
  have d1 := hS.getD (t + (m + 1))
  have d0 := hS.getD (t + m)
  have v0 := hV.getD m
  exact hg.digit (q_pos m) (by rw [hl]; exact seg_top S t m) (val_top hl) h3.1 h3.2 h4.1 h4.2 (by omega) h (by omega)
def LongPost (B g cap : Nat) (R V : List Int) (j0 : Nat) (w : World) (e : Ending) (w' : World) : Prop :=
  ∃ S Qt, e = .returned (.slice (some ⟨w.heap.size, 0, none⟩) j0 j0) ∧ WRow w' B g cap S ∧ Wd S ∧ S.length = R.length ∧ wv S = wv R % wv V ∧ WRow w' w.heap.size w.heap.size j0 Qt ∧ Wd Qt ∧ Qt.length = j0 ∧ wv Qt = wv R / wv V ∧ Below B w w'
set_option maxHeartbeats 4000000 in
theorem long_any (B g cap : Nat) (R : List Int) (bv ov d m : Nat) (V : List Int) (j0 : Nat) (w : World) (hr : WRow w B g cap R) (hR : Wd R) (hv : WList w (.slice (some ⟨bv, ov, none⟩) (m + 2) d) V) (hne : bv ≠ g) (hbv : bv < w.heap.size) (hB : B ≤ w.heap.size)
    (hlV : V.length = m + 2) (hlR : R.length = j0 + (m + 2)) (lR : R.length ≤ 1000000) (hj0 : 0 < j0) (htop : 2147483648 ≤ V.getD (m + 1) 0) (hlt : wv R < wv V * 4294967296 ^ j0) :
    Calls Tryd.prog 105 #[.slice (some ⟨g, 0, none⟩) R.length cap, .slice (some ⟨bv, ov, none⟩) (m + 2) d] w (LongPost B g cap R V j0 w) := by
  obtain ⟨i0, hi, hz0, hz1, hz2⟩ := info_parts Tryd.infoU32
  have hg := hr.facts.1
  have hgs := hr.facts.2.1
  have hcap := hr.facts.2.2.1
  have hcm := hr.facts.2.2.2.1
  unfold maxLen at hcm
  have HLs := Lib.hid (LongRel.start hR hlt)
  have HV := Lib.hid hv
  have HR := Lib.hid hr
  have HT := Lib.hid htop
  have HLV := Lib.hid hlV
  have HLR := Lib.hid hlR
  rw [hlR] at lR hcap ⊢
  clear hv hr hR htop hlt hlV hlR
  have hmk : (j0 : Int) + ((m : Int) + 2) - ((m : Int) + 2) = (j0 : Int) := by omega
  go_enter Tryd.func105, Tryd.ntmps105
  go_wp2_with (at_make; refine wpList_make_full _ rfl _ _ 58 rfl w.heap.size 83 i0 (.int .u32 0) 1 Tryd.underlying58 hi hz0 hz1 .i64 .i64 _ _ j0 rfl rfl (by omega) (by omega) (by rw [hz2]; omega) (by unfold maxLen; omega) (by simp) ?_; intro w0 hown hgrow)
  have hF := wrow_made rfl hown hgrow
  have hF := Lib.hid hF
  clear hown hgrow hmk
  go_wp2_with fail
  have hS0 : Hid (WRow w0 B g cap R ∧ WRow w0 w.heap.size w.heap.size j0 (List.replicate j0 0) ∧ WList w0 (.slice (some ⟨bv, ov, none⟩) (m + 2) d) V ∧ Below B w w0) := Lib.hid ⟨HR.out.call hF.out.2, hF.out.1, HV.out.below hF.out.2, hF.out.2.mono hB⟩
  go_loopw [18] (fun i wr => ∃ (k j : Nat) (S Qt : List Int), Hid (j0 = k + j) ∧ k ≤ j0 ∧ i = .int .i64 k ∧ Hid (LongRel R V j0 j S Qt) ∧ Hid (WRow wr B g cap S ∧ WRow wr w.heap.size w.heap.size j0 Qt ∧ WList wr (.slice (some ⟨bv, ov, none⟩) (m + 2) d) V ∧ Below B w wr)) (fun i _ => j0 - (intOf i).toNat)
  case atStart => exact ⟨0, j0, R, _, Lib.hid (by omega), by omega, rfl, HLs, hS0⟩
  case round =>
    obtain ⟨k, j, S, Qt, hjk, hk, rfl, hL, hS⟩ := hrel
    clear hS0 hF HR HV HLs
    have hlen : Hid (S.length = j0 + (m + 2)) := Lib.hid (hL.out.2.2.2.2.1.trans HLR.out)
    by_cases hlt : k < j0
    · obtain ⟨t, rfl⟩ : ∃ t, j = t + 1 := ⟨j - 1, by have := hjk.out; omega⟩
      have hi0 : (0 : Int) ≤ (j0 : Int) - 1 - k := by omega
      have hi1 : (j0 : Int) - 1 - k < j0 := by omega
      have hiN : ((j0 : Int) - 1 - k).toNat = t := by have := hjk.out; omega
      have hiT : (j0 : Int) - 1 - k = (t : Int) := by have := hjk.out; omega
      have htj : t + (m + 2) + 1 ≤ j0 + (m + 2) := by have := hjk.out; omega
      have htj2 : (t : Int) + ((m : Int) + 2) + 1 ≤ (cap : Int) := by omega
      have htc : t < j0 := by have := hjk.out; omega
      have hsl : t + (m + 2) + 1 - t = m + 3 := by omega
      have hct : m + 3 ≤ cap - t := by omega
      have hl3 : V.length + 1 = m + 3 := by have := HLV.out; omega
      have hf := hS.out.1.facts.2.2.2.2
      have ls := hlen.out
      have c2 := (hf (t + (m + 2)) (by omega)).1
      have c1 := (hf (t + (m + 1)) (by omega)).1
      have c0 := (hf (t + m) (by omega)).1
      have hvc : ∀ i, i < m + 2 → wr.cell? ⟨bv, ov + i, none⟩ = some (.int .u32 (V.getD i 0)) := fun i hi => by
        obtain ⟨b', o', e, _, hc⟩ := hS.out.2.2.1.1.cell (i := i) (by have := HLV.out; omega)
        simp only [Option.some.injEq, Addr.mk.injEq, and_true] at e
        obtain ⟨rfl, rfl⟩ := e
        exact hc
      have hsd := hL.out.2.2.1
      have hvd := hS.out.2.2.1.2.1
      have hseg := (hL.out.seg hvd (by rw [HLV.out]; omega)).2
      have hv0 : 0 < wv V := by
        have e := val_top HLV.out
        have h1 := (wvN_range hvd m).1
        have h2 := (hvd.getD m).1
        have h3 := HT.out
        have h4 : 0 < (V.getD (m + 1) 0 * 4294967296 + V.getD m 0) * 4294967296 ^ m := Int.mul_pos (by omega) (q_pos m)
        omega
      have HG := Lib.hid (guess_any g t bv ov m (cap - t) d _ _ _ _ _ wr c2 c1 c0 (hvc (m + 1) (by omega)) (hvc m (by omega)) (by omega) (hsd.getD _).1 (top_le HLV.out hsd hvd hseg) (hsd.getD _).1 (hsd.getD _).2 (hsd.getD _).1 (hsd.getD _).2 HT.out (hvd.getD _).2 (hvd.getD _).1 (hvd.getD _).2)
      have hgr := Lib.hid (fun q hq => guess_right (q := q) HLV.out hsd hvd hseg HT.out hq)
      have HD := Lib.hid (And.intro hsd (And.intro hvd hv0))
      have hHt : Hid (t + V.length < S.length) := Lib.hid (by rw [HLV.out]; omega)
      have hVl : Hid (V.length ≤ 1099511627775) := Lib.hid (by rw [HLV.out]; omega)
      have hTake := Lib.hid (fun (q : Int) (q0 : 0 ≤ q) (q1 : q ≤ 4294967295) (nd : Nat) => (by
        have := take_any B g cap t S (.slice (some ⟨bv, ov, none⟩) (m + 2) d) V q (cap - t) (wr.drewN nd) (hS.out.1.drewN nd) hsd (hS.out.2.2.1.below (below_drewN (Below.refl _ _) nd)) (fun b o l d e => by simp at e; omega) hHt.out hVl.out q0 q1 (by omega)
        rwa [hl3] at this : Calls Tryd.prog 113 #[.slice (some ⟨g, t, none⟩) (m + 3) (cap - t), .slice (some ⟨bv, ov, none⟩) (m + 2) d, .int .u32 q] (wr.drewN nd) (TakePost B g cap t S V q (wr.drewN nd))))
      have hGive := Lib.hid (fun (T : List Int) (w2 : World) (hT : WRow w2 B g cap T) (hTd : Wd T) (hTl : T.length = S.length) (hV2 : WList w2 (.slice (some ⟨bv, ov, none⟩) (m + 2) d) V) => (by
        have := give_any B g cap t T (.slice (some ⟨bv, ov, none⟩) (m + 2) d) V (cap - t) w2 hT hTd hV2 (fun b o l d e => by simp at e; omega) (by rw [hTl]; exact hHt.out) hVl.out (by omega)
        rwa [hl3] at this : Calls Tryd.prog 114 #[.slice (some ⟨g, t, none⟩) (m + 3) (cap - t), .slice (some ⟨bv, ov, none⟩) (m + 2) d] w2 (GivePost B g cap t T V w2)))
      have hgq : Hid (w.heap.size ≠ g ∧ bv ≠ w.heap.size) := Lib.hid ⟨by omega, by omega⟩
      have hQl : Hid (Qt.length = j0) := Lib.hid hL.out.2.2.2.2.2.1
      clear hf ls c2 c1 c0 hvc hsd hvd hseg hv0 hl3
      go_wp2_with fail
      refine (HG.out).mono ?_; rintro e w1 ⟨q, rfl, hq, nd, rfl⟩
      have hqq := hgr.out q hq
      obtain ⟨q0, q1, -, -⟩ := hq
      go_wp2_with fail
      refine (hTake.out q q0 q1 nd).mono ?_; rintro e w2 ⟨T, b, rfl, ⟨hr2, hd2, ho2⟩, hout, hsg⟩
      have hdr := digit_right hqq HD.out.2.2 HD.out.1 hd2 hsg HD.out.2.1
      have hQ2 := (hS.out.2.1.drewN nd).only ho2 hgq.out.1
      have hV2 := (hS.out.2.2.1.below (below_drewN (Below.refl _ _) nd)).only ho2 (fun b o l d e => by simp at e; omega)
      have hB2 := (below_drewN hS.out.2.2.2 nd).trans (ho2.below hg)
      have HS2 := Lib.hid (And.intro hr2 (And.intro hQ2 (And.intro hV2 hB2)))
      obtain ⟨hqc, hqf⟩ := hQ2.facts.2.2.2.2 t (by rw [hQl.out]; exact htc)
      cases b with
      | false =>
        obtain ⟨e1, e2⟩ := hdr.1 rfl
        have hN := Lib.hid (hL.out.next HD.out.2.1 HD.out.2.2 hHt.out hd2 hout e1 e2 htc)
        clear hdr hqq hr2 hQ2 hV2 hB2 ho2 hd2 hout hsg e1 e2 hgr HG hTake hGive
        go_wp2_with fail
        go_roundw
        case rel => exact ⟨k + 1, t, T, _, Lib.hid (by have := hjk.out; omega), by omega, by go_num, hN, Lib.hid ⟨HS2.out.1.only ((Only.refl w.heap.size w2).set t _) (fun e => hgq.out.1 e.symm), HS2.out.2.1.set t _, HS2.out.2.2.1.only ((Only.refl w.heap.size w2).set t _) (fun b o l d e => by simp at e; have := hgq.out.2; omega), below_set HS2.out.2.2.2 hB t _⟩⟩
        case measure => simp [intOf]; omega
      | true =>
        obtain ⟨e1, e2⟩ := hdr.2 rfl
        have hq1' : 0 ≤ q - 1 := by rw [e1]; exact Int.ediv_nonneg (sgN_range HD.out.1 _ _).1 (by have := HD.out.2.2; omega)
        have hGv := Lib.hid (hGive.out T w2 hr2 hd2 hout.1 hV2)
        have hN := Lib.hid (fun (U : List Int) (tt : Int) (hU : Wd U) (ho : Out T U t (V.length + 1)) (hs : sgN U t (V.length + 1) = sgN T t (V.length + 1) + wv V - 4294967296 ^ (V.length + 1) * tt) => hL.out.next HD.out.2.1 HD.out.2.2 hHt.out hU (hout.trans ho) e1 (e2 U tt hU hs) htc)
        clear hdr hqq hr2 hQ2 hV2 hB2 ho2 hd2 hout hsg e1 e2 hgr HG hTake hGive hqc hqf
        go_wp2_with fail
        refine (hGv.out).mono ?_; rintro e w3 ⟨U, tt, rfl, ⟨hr3, hd3, ho3⟩, hout3, hsg3⟩
        have hN2 := Lib.hid (hN.out U tt hd3 hout3 hsg3)
        have hQ3 := HS2.out.2.1.only ho3 hgq.out.1
        have hV3 := HS2.out.2.2.1.only ho3 (fun b o l d e => by simp at e; omega)
        have hB3 := HS2.out.2.2.2.trans (ho3.below hg)
        obtain ⟨hqc, hqf⟩ := hQ3.facts.2.2.2.2 t (by rw [hQl.out]; exact htc)
        have HS3 := Lib.hid (And.intro hr3 (And.intro hQ3 (And.intro hV3 hB3)))
        clear hr3 hQ3 hV3 hB3 ho3 hd3 hout3 hsg3 hN hGv HS2
        go_wp2_with fail
        go_roundw
        case rel => exact ⟨k + 1, t, U, _, Lib.hid (by have := hjk.out; omega), by omega, by go_num, hN2, Lib.hid ⟨HS3.out.1.only ((Only.refl w.heap.size w3).set t _) (fun e => hgq.out.1 e.symm), HS3.out.2.1.set t _, HS3.out.2.2.1.only ((Only.refl w.heap.size w3).set t _) (fun b o l d e => by simp at e; have := hgq.out.2; omega), below_set HS3.out.2.2.2 hB t _⟩⟩
        case measure => simp [intOf]; omega
    · obtain rfl : j = 0 := by have := hjk.out; omega
      have hE := Lib.hid hL.out
      clear hL
      go_wp2_with fail
      go_ret
      obtain ⟨h1, h2, h3, h4, h5, h6, h7⟩ := hE.out
      have hvp : 0 < wv V := by
        have e := val_top HLV.out
        have k1 := (wvN_range hS.out.2.2.1.2.1 m).1
        have k2 := (hS.out.2.2.1.2.1.getD m).1
        have k3 := HT.out
        have k4 : 0 < (V.getD (m + 1) 0 * 4294967296 + V.getD m 0) * 4294967296 ^ m := Int.mul_pos (by omega) (q_pos m)
        omega
      simp at h2
      have hu := (Int.ediv_emod_unique (a := wv R) (b := wv V) (r := wv S) (q := wv Qt) hvp).2 ⟨h1, (wv_range h3).1, h2⟩
      exact ⟨S, Qt, rfl, hS.out.1, h3, h5, hu.2.symm, hS.out.2.1, h4, h6, hu.1.symm, hS.out.2.2.2⟩
set_option maxRecDepth 100000
open Go.RowKit
set_option linter.unusedVariables false
theorem WRow.base {w : World} {B B' g cap : Nat} {a : List Int} (h : WRow w B g cap a) (hB : B' ≤ B) : WRow w B' g cap a := by
  obtain ⟨h1, h2⟩ := h
  refine ⟨h1, ?_⟩
  rcases h2 with h2 | ⟨g', cap', cur, e, h3, h4⟩
  · exact .inl h2
  · exact .inr ⟨g', cap', cur, e, by omega, h4⟩
/-- The shift that lays a divisor's highest bit. -/
theorem shift_facts (T : Nat) (h0 : 0 < T) (h1 : T < 4294967296) : ∃ s : Nat, (32 : Int) - (Lib.bitLen T : Int) = (s : Int) ∧ s < 32 ∧ 2147483648 ≤ T * 2 ^ s ∧ (T + 1) * 2 ^ s ≤ 4294967296 := by
  have hL := bitLen_log T h0 (by omega)
  have h2 := Nat.log2_self_le (n := T) (by omega)
  have h3 := Nat.lt_log2_self (n := T)
  have h4 : Nat.log2 T < 32 := by
    by_cases e : Nat.log2 T < 32
    · exact e
    · have := Nat.pow_le_pow_right (n := 2) (by decide) (show 32 ≤ Nat.log2 T by omega)
      omega
  generalize Nat.log2 T = L at *
  refine ⟨31 - L, by rw [hL]; omega, by omega, ?_, ?_⟩
  · have k1 : 2 ^ L * 2 ^ (31 - L) ≤ T * 2 ^ (31 - L) := Nat.mul_le_mul_right _ h2
    rw [← Nat.pow_add, show L + (31 - L) = 31 from by omega] at k1
    omega
  · have k1 : (T + 1) * 2 ^ (31 - L) ≤ 2 ^ (L + 1) * 2 ^ (31 - L) := Nat.mul_le_mul_right _ h3
    rw [← Nat.pow_add, show L + 1 + (31 - L) = 32 from by omega] at k1
    omega
/-- What the raised divisor's and the raised number's words are good for. -/
theorem raised_facts {a y A V : List Int} {n s : Nat} (ha : Wd a) (hy : Wd y) (hV : Wd V) (hl : y.length = n + 1) (h0 : 0 < y.getD n 0) (hs : s < 32) (h1 : 2147483648 ≤ y.getD n 0 * 2 ^ s) (h2 : (y.getD n 0 + 1) * 2 ^ s ≤ 4294967296)
    (hv : wv V = wv y * 2 ^ s) (hVl : V.length = n + 2) (hA : wv A = wv a * 2 ^ s) :
    wvN V (n + 1) = wv V ∧ 2147483648 ≤ V.getD n 0 ∧ ∀ j, j + (n + 1) = a.length + 1 → wv A < wv V * 4294967296 ^ j := by
  have hp := q_pos n
  have hps : (0 : Int) < 2 ^ s := Int.pow_pos (by decide)
  have e1 : wv y = wvN y n + y.getD n 0 * 4294967296 ^ n := by rw [wv, hl, wvN]
  have hr := wvN_range hy n
  have ha2 := (wv_range ha).2
  have ha0 := (wv_range ha).1
  have hlow : y.getD n 0 * 4294967296 ^ n * 2 ^ s ≤ wv V := by
    rw [hv]; exact Int.mul_le_mul_of_nonneg_right (by omega) (by omega)
  have hup : wv V < 4294967296 ^ (n + 1) := by
    have k1 : wv y + 1 ≤ (y.getD n 0 + 1) * 4294967296 ^ n := by rw [Int.add_mul]; omega
    have k2 : (wv y + 1) * 2 ^ s ≤ (y.getD n 0 + 1) * 4294967296 ^ n * 2 ^ s := Int.mul_le_mul_of_nonneg_right k1 (by omega)
    have k3 : (y.getD n 0 + 1) * 4294967296 ^ n * 2 ^ s = (y.getD n 0 + 1) * 2 ^ s * 4294967296 ^ n := by rw [Int.mul_assoc, Int.mul_comm (4294967296 ^ n : Int), ← Int.mul_assoc]
    have k4 : (y.getD n 0 + 1) * 2 ^ s * 4294967296 ^ n ≤ 4294967296 * 4294967296 ^ n := Int.mul_le_mul_of_nonneg_right h2 (by omega)
    rw [q_succ, hv, Int.mul_comm (4294967296 ^ n : Int)]
    rw [Int.add_mul] at k2
    omega
  have hlow2 : 2147483648 * 4294967296 ^ n ≤ wv V := by
    have k3 : y.getD n 0 * 4294967296 ^ n * 2 ^ s = y.getD n 0 * 2 ^ s * 4294967296 ^ n := by rw [Int.mul_assoc, Int.mul_comm (4294967296 ^ n : Int), ← Int.mul_assoc]
    have k4 : 2147483648 * 4294967296 ^ n ≤ y.getD n 0 * 2 ^ s * 4294967296 ^ n := Int.mul_le_mul_of_nonneg_right h1 (by omega)
    omega
  have hcut := wvN_of_lt hV hup
  refine ⟨hcut, ?_, fun j hj => ?_⟩
  · rw [wvN] at hcut
    have hrV := wvN_range hV n
    by_cases g : 2147483648 ≤ V.getD n 0
    · exact g
    · exfalso
      have : V.getD n 0 * 4294967296 ^ n ≤ 2147483647 * 4294967296 ^ n := Int.mul_le_mul_of_nonneg_right (by omega) (by omega)
      omega
  · rw [hA]
    have h31 : (2 : Int) ^ s ≤ 2147483648 := by have := pow2_mono (m := s) (n := 31) (by omega); simpa using this
    have k1 : wv a * 2 ^ s < 4294967296 ^ a.length * 2 ^ s := Int.mul_lt_mul_of_pos_right ha2 hps
    have k2 : (4294967296 : Int) ^ a.length * 2 ^ s ≤ 4294967296 ^ a.length * 2147483648 := Int.mul_le_mul_of_nonneg_left h31 (Int.le_of_lt (q_pos _))
    have k3 : 2147483648 * 4294967296 ^ n * 4294967296 ^ j ≤ wv V * 4294967296 ^ j := Int.mul_le_mul_of_nonneg_right hlow2 (Int.le_of_lt (q_pos _))
    have k4 : (2147483648 : Int) * 4294967296 ^ n * 4294967296 ^ j = 4294967296 ^ a.length * 2147483648 := by
      rw [Int.mul_assoc, ← Int.pow_add, show n + j = a.length from by omega, Int.mul_comm]
    omega
def RaisedG (w : World) (z : Int) (L : Nat) (e : Ending) (w' : World) : Prop :=
  ∃ g out, e = .returned (.slice (some ⟨g, 0, none⟩) L L) ∧ w.heap.size ≤ g ∧ WRow w' w.heap.size g L out ∧ Below w.heap.size w w' ∧ Wd out ∧ out.length = L ∧ wv out = z
theorem raise_small (u : Value) (a : List Int) (w : World) (hu : WList w u a) (la : a.length ≤ 274877906944) (s : Nat) (hs : s < 32) :
    Calls Tryd.prog 66 #[u, .int .i64 s] w (RaisedG w (wv a * 2 ^ s) (a.length + 1)) := by
  refine (raise_any u a w hu la s 0 s (by omega) hs (by omega)).mono ?_
  rintro e w' ⟨out, rfl, hF, hd, hl, hz⟩
  exact ⟨_, out, rfl, Nat.le_refl _, hF.1, hF.2, hd, hl, by rw [hz]; simp⟩
theorem WRow.lt {w : World} {B g cap : Nat} {a : List Int} (h : WRow w B g cap a) : g < w.heap.size := h.facts.2.1
theorem wv_take_any {V : List Int} {k : Nat} (h : k ≤ V.length) : wv (V.take k) = wvN V k := by
  have hl : (V.take k).length = k := by rw [List.length_take]; omega
  rw [wv, hl]
  exact wvN_congr (fun i hi => by simp [List.getD, hi])
theorem lowered {a b A V Q S : Int} {s : Nat} (hA : A = a * 2 ^ s) (hV : V = b * 2 ^ s) (hS : S = A % V) (hQ : Q = A / V) : Q = a / b ∧ S / 2 ^ s = a % b := by
  have hp : (0 : Int) < 2 ^ s := Int.pow_pos (by decide)
  rw [hQ, hS, hA, hV]
  refine ⟨Int.mul_ediv_mul_of_pos_left _ _ hp, ?_⟩
  rw [Int.mul_comm a, Int.mul_comm b, Int.mul_emod_mul_of_pos _ _ hp]
  exact Int.mul_ediv_cancel_left _ (by omega)
set_option maxHeartbeats 4000000 in
theorem div_long (u v : Value) (a b : List Int) (w : World) (hu : WList w u a) (hv : WList w v b) (la : a.length ≤ 900000) (h1 : 4294967296 ≤ wv b) (hz : wv b ≤ wv a) :
    Calls Tryd.prog 91 #[u, v] w (NatDivPost w (wv a / wv b) (wv a % wv b)) := by
  obtain ⟨q, d, rfl⟩ := hv.shape
  have HV := Lib.hid hv
  have HU := Lib.hid hu
  have HT := Lib.hid (sig_any q b.length d b w hv.1 hv.2.2)
  have hcm : ¬ cmpI (wv a) (wv b) < 0 := by have := cmpI_ge.2 hz; omega
  clear hv hu
  go_enter Tryd.func91, Tryd.ntmps91
  go_wp2_with fail
  refine (HT.out).mono ?_; rintro e w' ⟨v1, mm, rfl, hd, rfl⟩
  obtain ⟨hy, ey, ty⟩ := hd.wlist HV.out
  have HC := Lib.hid (cmp_any u v1 a _ w HU.out hy)
  rw [ey] at HC
  generalize cmpI (wv a) (wv b) = cm at *
  generalize b.take mm = y at *
  obtain ⟨q1, d1, rfl⟩ := hy.shape
  have hyl : ∃ m, y.length = m + 2 := by
    by_cases e : y.length ≤ 1
    · exfalso
      have k1 := (wv_range hy.2.1).2
      have k2 := q_mono (m := y.length) (n := 1) (by omega)
      simp at k2
      omega
    · exact ⟨y.length - 2, by omega⟩
  obtain ⟨m, hm⟩ := hyl
  have hml : m + 2 ≤ a.length := by
    have k1 := ty.wsize hy.2.1 (by intro e; subst e; simp at hm)
    have k2 := (wv_range HU.out.2.1).2
    by_cases e : m + 2 ≤ a.length
    · exact e
    · exfalso
      have := q_mono (m := a.length) (n := y.length - 1) (by omega)
      omega
  have hT0 : 0 < y.getD (m + 1) 0 := by
    have k1 := ty.resolve_left (by intro e; subst e; simp at hm)
    rw [hm] at k1
    have k2 := (hy.2.1.getD (m + 1)).1
    have k3 : y.getD (m + 1) 0 ≠ 0 := k1
    omega
  have hT1 := (hy.2.1.getD (m + 1)).2
  obtain ⟨T, hTT⟩ := Int.eq_ofNat_of_zero_le (Int.le_of_lt hT0)
  obtain ⟨s, hs1, hs2, hs3, hs4⟩ := shift_facts T (by omega) (by omega)
  obtain ⟨bq, oq, rfl, hbq, hc⟩ := hy.1.cell (i := m + 1) (by omega)
  have HLz := Lib.hid (fun w1 => lz32_any (T : Int) w1 (by omega) (by omega))
  simp only [Int.toNat_natCast] at HLz
  rw [hs1] at HLz
  rw [hTT] at hc
  have HS := Lib.hid (And.intro hs3 hs4)
  have hb2l : b.length ≤ 1099511627776 := HV.out.2.2
  have HRa := Lib.hid (fun w1 (h : WList w1 u a) => raise_small u a w1 h (by omega) s hs2)
  have HRb := Lib.hid (fun w1 (h : WList w1 (.slice (some ⟨bq, oq, none⟩) y.length d1) y) => raise_small _ y w1 h (by omega) s hs2)
  have HY := Lib.hid (And.intro hy (And.intro ey (And.intro hm (And.intro hT0 hTT))))
  rw [hm] at HC HRb ⊢
  clear hd hy ey ty HV HT hs1 hs3 hs4 hT0 hT1 hTT hb2l
  go_wp2_with fail
  refine (HC.out).mono ?_; rintro e w' ⟨rfl, nd, rfl⟩
  have hb0 := below_drewN (Below.refl w.heap.size w) nd
  have hc := cell_later hb0 hc
  generalize w.drewN nd = W at *
  have hb0 := Lib.hid hb0
  have hlen1 : (((m : Int) + 2) == 1) = false := by simp; omega
  go_wp2_with (go_at_call 104; refine (HLz.out _).mono ?_; rintro e w' ⟨rfl, rfl⟩)
  have hra := Lib.hid (HU.out.below hb0.out)
  have hrb := Lib.hid (HY.out.1.below hb0.out)
  rw [hm] at hrb
  go_region_with (first
    | (go_at_call_of 66 oq; refine (HRb.out _ ?_).mono ?_; exact hrb2.out; rintro e w2 ⟨g2, V, rfl, hg2, hR2, hB2, hd2, hl2, hz2⟩)
    | (go_at_call_of 66 u; refine (HRa.out _ ?_).mono ?_; exact hra.out.below (Below.refl _ _).drew; rintro e w1 ⟨g1, A1, rfl, hg1, hR1, hB1, hd1, hl1, hz1⟩; have hB1' := (Below.refl W.heap.size W).drew.trans hB1; have hrb2 := Lib.hid (hrb.out.below hB1')))
  obtain ⟨HY1, HY2, -, HY4, HY5⟩ := HY.out
  have hps : ((2 ^ s : Nat) : Int) = (2 : Int) ^ s := by simp
  obtain ⟨hcutV, htop, hlt⟩ := raised_facts (a := a) (y := y) (A := A1) (V := V) (n := m + 1) (s := s) HU.out.2.1 HY1.2.1 hd2 hm HY4 hs2 (by rw [HY5, ← hps, ← Int.natCast_mul]; have := HS.out.1; omega) (by rw [HY5, ← hps, show ((T : Int) + 1) = ((T + 1 : Nat) : Int) from rfl, ← Int.natCast_mul]; have := HS.out.2; omega) hz2 hl2 hz1
  rw [HY2] at hz2
  obtain ⟨j0, hj0⟩ : ∃ j0, a.length + 1 = j0 + (m + 2) := ⟨a.length - (m + 1), by omega⟩
  have hg12 : g1 < w1.heap.size := hR1.lt
  have hR2l : g2 < w2.heap.size := hR2.lt
  have hsz1 : W.heap.size ≤ w1.heap.size := hB1'.size
  have hsz2 : w1.heap.size ≤ w2.heap.size := hB2.size
  have hRow := (hR1.call hB2).base (B' := W.heap.size) (Nat.le_refl _)
  have hVw := hR2.wlist hd2 (by omega)
  rw [hl2] at hVw
  have hVk : V.length = m + 2 + 1 := hl2
  have hVt : wv (V.take (m + 2)) = wv V := (wv_take_any (by omega)).trans hcutV
  have hVW : WList w2 (.slice (some ⟨g2, 0, none⟩) (m + 2) (m + 2 + 1)) (V.take (m + 2)) := ⟨hVw.1.take (by omega), hd2.take _, by rw [List.length_take]; omega⟩
  have hVl : (V.take (m + 2)).length = m + 2 := by rw [List.length_take]; omega
  have hVg : (V.take (m + 2)).getD (m + 1) 0 = V.getD (m + 1) 0 := by simp [List.getD]
  have HD := Lib.hid (long_any W.heap.size g1 (a.length + 1) A1 g2 0 (m + 2 + 1) m (V.take (m + 2)) j0 w2 hRow hd1 hVW (by omega) hR2l (by omega) hVl (by omega) (by omega) (by omega) (by rw [hVg]; exact htop) (by rw [hVt]; exact hlt j0 hj0.symm))
  rw [hl1] at HD
  have HZ := Lib.hid (And.intro hz1 (And.intro hz2 (And.intro hVt hl1)))
  have HB := Lib.hid (hb0.out.trans ((hB1'.trans (hB2.mono hsz1)).mono hb0.out.size))
  have hszB := Lib.hid (Nat.le_trans hsz1 hsz2)
  have hWs := Lib.hid hb0.out.size
  have la2 := Lib.hid la
  have lj0 : Hid (j0 ≤ 1000000) := Lib.hid (by omega)
  clear HY1 HY2 HY4 HY5 hps hcutV htop hlt hg12 hR2l hsz1 hsz2 hRow hVw hVk hVt hVW hVl hVg hR1 hR2 hB1 hB1' hB2 hd1 hd2 hz1 hz2 hl1 hl2 hg1 hg2 hra hrb hrb2 HRa HRb HLz HC
  generalize V.take (m + 2) = V2 at *
  clear hj0
  have hs2 := Lib.hid hs2
  go_wp2_with fail
  refine (HD.out).mono ?_; rintro e w3 ⟨S, Qt, rfl, hS, hSd, hSl, hSv, hQ, hQd, hQl, hQv, hB3⟩
  rw [HZ.out.2.2.2] at hSl
  obtain ⟨hq, hr⟩ := lowered HZ.out.1 HZ.out.2.1 (hSv.trans (by rw [HZ.out.2.2.1])) (hQv.trans (by rw [HZ.out.2.2.1]))
  have hQw := hQ.wlist hQd (by rw [hQl]; have := lj0.out; omega)
  rw [hQl] at hQw
  have HSg := Lib.hid (sig_any (some ⟨w2.heap.size, 0, none⟩) j0 j0 Qt w3 hQw.1 (by have := lj0.out; omega))
  have hSw := hS.wlist hSd (by rw [hSl]; have := la2.out; omega)
  rw [hSl] at hSw
  have HSh := Lib.hid (shr_any (.slice (some ⟨g1, 0, none⟩) (a.length + 1) (a.length + 1)) S w3 hSw (by rw [hSl]; have := la2.out; omega) (s : Int) s (by omega) (by have := hs2.out; omega))
  rw [hr] at HSh
  have HQ := Lib.hid (And.intro hQ (And.intro hQd (And.intro hQl hq)))
  have HB := Lib.hid (HB.out.trans (hB3.mono hWs.out))
  have HSl := Lib.hid hSl
  clear hS hSd hSl hSv hQ hQd hQl hQv hB3 hq hr hQw hSw HD
  go_wp2_with fail
  refine (HSg.out).mono ?_; rintro e w' ⟨u2, n, rfl, hc, rfl⟩
  go_wp2_with fail
  refine (HSh.out).mono ?_; rintro e w4 ⟨u3, z, rfl, hF⟩
  go_wp2_with fail
  go_ret3
  have hN := Fresh.isNat ⟨u3, z, rfl, hF⟩ (by rw [HSl.out]; have := la2.out; omega)
  have hw := hc.wlist (HQ.out.1.wlist HQ.out.2.1 (by rw [HQ.out.2.2.1]; have := lj0.out; omega))
  have hQ : IsNat w3 u2 (wv a / wv b) := ⟨_, hw.1, hw.2.2, hw.2.1.trans HQ.out.2.2.2⟩
  exact ⟨_, _, rfl, hQ.below hN.2, hN.1, HB.out.trans (hN.2.mono HB.out.size)⟩
/-- Div, of any two numbers. -/
theorem div_any (u v : Value) (a b : List Int) (w : World) (hu : WList w u a) (hv : WList w v b) (la : a.length ≤ 900000) (h0 : 0 < wv b) :
    Calls Tryd.prog 91 #[u, v] w (NatDivPost w (wv a / wv b) (wv a % wv b)) := by
  have ha := (wv_range hu.2.1).1
  by_cases h1 : wv a < wv b
  · rw [Int.ediv_eq_zero_of_lt ha h1, Int.emod_eq_of_lt ha h1]
    exact div_less u v a b w hu hv h1
  · by_cases h2 : wv b < 4294967296
    · exact div_word u v a b w hu hv h0 h2 (by omega)
    · exact div_long u v a b w hu hv la (by omega) (by omega)
end Go.Proofs.YtboinjkeaffboaaDoor
