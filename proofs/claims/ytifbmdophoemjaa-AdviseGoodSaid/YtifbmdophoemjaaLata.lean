/- Layer 17: sets of dimensions as numbers: pure. -/
import Derived.Test.YtifbmdophoemjaaRefd
namespace Go.Proofs.Ytifbmdophoemjaa
set_option maxRecDepth 100000
set_option linter.unusedVariables false
/-- A set is within another. -/
def subN (a b : Nat) : Bool := a &&& b == a
theorem subN_iff {a b : Nat} : subN a b = true ↔ a &&& b = a := by simp [subN]
theorem subN_refl (a : Nat) : subN a a = true := by simp [subN]
theorem subN_trans {a b c : Nat} (h : subN a b = true) (k : subN b c = true) : subN a c = true := by
  rw [subN_iff] at *
  rw [← h, Nat.and_assoc, k]
theorem subN_and {a b c : Nat} (h : subN a b = true) (k : subN a c = true) : subN a (b &&& c) = true := by
  rw [subN_iff] at *
  rw [← Nat.and_assoc, h, k]
theorem and_subN (a b : Nat) : subN (a &&& b) a = true := by
  rw [subN_iff, Nat.and_comm a b, Nat.and_assoc, Nat.and_self]
theorem and_subN2 (a b : Nat) : subN (a &&& b) b = true := by rw [Nat.and_comm]; exact and_subN b a
theorem subN_anti {a b : Nat} (h : subN a b = true) (k : subN b a = true) : a = b := by
  rw [subN_iff] at *
  rw [← h, Nat.and_comm, k]
theorem high_bit {m k : Nat} (hm : m < 4294967296) (hk : 32 ≤ k) : m.testBit k = false :=
  Nat.testBit_lt_two_pow (Nat.lt_of_lt_of_le (show m < 2 ^ 32 by omega) (Nat.pow_le_pow_right (by decide) hk))
theorem subN_bits {a b : Nat} (ha : a < 4294967296) : subN a b = true ↔ ∀ k, k < 32 → a.testBit k = true → b.testBit k = true := by
  rw [subN_iff]
  constructor
  · intro h k _ hk
    rw [← h, Nat.testBit_and] at hk
    simp at hk
    exact hk.2
  · intro h
    refine Nat.eq_of_testBit_eq fun k => ?_
    rw [Nat.testBit_and]
    by_cases hk : k < 32
    · by_cases q : a.testBit k = true
      · rw [q, h k hk q]; rfl
      · rw [eq_false_of_ne_true q]; rfl
    · rw [high_bit ha (by omega)]; rfl
theorem and_lt32 {a : Nat} (b : Nat) (h : a < 4294967296) : a &&& b < 4294967296 := Nat.lt_of_le_of_lt Nat.and_le_left h
theorem subN_le {a b : Nat} (h : subN a b = true) : a ≤ b := by
  rw [subN_iff] at h
  rw [← h]
  exact Nat.and_le_right
theorem and_full {a : Nat} (h : a < 4294967296) : 4294967295 &&& a = a := by
  rw [Nat.and_comm]
  exact Nat.and_two_pow_sub_one_of_lt_two_pow (x := a) (n := 32) (show a < 2 ^ 32 from h)
/-- How many of the first k are in a set. -/
def cntN : Nat → Nat → Nat
  | 0, _ => 0
  | k + 1, f => f % 2 + cntN k (f / 2)
theorem cnt_add (a : Nat) : ∀ b f, cntN (a + b) f = cntN a f + cntN b (f / 2 ^ a) := by
  induction a with
  | zero => intro b f; simp [cntN]
  | succ a ih =>
    intro b f
    rw [Nat.add_right_comm]
    show f % 2 + cntN (a + b) (f / 2) = f % 2 + cntN a (f / 2) + _
    rw [ih, Nat.div_div_eq_div_mul, Nat.pow_succ, Nat.mul_comm 2]
    omega
theorem bit_test (f k : Nat) : f / 2 ^ k % 2 = (f.testBit k).toNat := by
  rw [Nat.testBit_eq_decide_div_mod_eq]
  have h := Nat.mod_two_eq_zero_or_one (f / 2 ^ k)
  rcases h with h | h <;> rw [h] <;> rfl
theorem cnt_next (k f : Nat) : cntN (k + 1) f = cntN k f + (f.testBit k).toNat := by
  rw [cnt_add]
  show _ + (f / 2 ^ k % 2 + 0) = _
  rw [Nat.add_zero, bit_test]
theorem cnt_le : ∀ k f, cntN k f ≤ k
  | 0, _ => Nat.le_refl _
  | k + 1, f => by
    have := cnt_le k (f / 2)
    show f % 2 + _ ≤ _
    omega
theorem cnt_mod : ∀ k f, cntN k (f % 2 ^ k) = cntN k f
  | 0, _ => rfl
  | k + 1, f => by
    show f % 2 ^ (k + 1) % 2 + cntN k (f % 2 ^ (k + 1) / 2) = f % 2 + cntN k (f / 2)
    have e1 : f % 2 ^ (k + 1) % 2 = f % 2 := Nat.mod_mod_of_dvd _ (Nat.dvd_of_mod_eq_zero (by rw [Nat.pow_succ]; exact Nat.mul_mod_left _ _))
    have e2 : f % 2 ^ (k + 1) / 2 = f / 2 % 2 ^ k := by rw [Nat.pow_succ, Nat.mul_comm]; exact Nat.mod_mul_right_div_self _ _ _
    rw [e1, e2, cnt_mod k]
theorem cnt_bytes (f : Nat) : cntN 32 f = cntN 8 (f % 256) + cntN 8 (f / 256 % 256) + cntN 8 (f / 65536 % 256) + cntN 8 (f / 16777216 % 256) := by
  have e : ∀ x, cntN 8 (x % 256) = cntN 8 x := fun x => cnt_mod 8 x
  rw [e, e, e, e]
  have h1 := cnt_add 8 24 f
  have h2 := cnt_add 8 16 (f / 2 ^ 8)
  have h3 := cnt_add 8 8 (f / 2 ^ 8 / 2 ^ 8)
  rw [Nat.div_div_eq_div_mul, Nat.div_div_eq_div_mul] at h3
  rw [Nat.div_div_eq_div_mul] at h2
  simp only [show (2 : Nat) ^ 8 = 256 from rfl, show 256 * 256 = 65536 from rfl, show 256 * (256 * 256) = 16777216 from rfl, show 256 * 65536 = 16777216 from rfl, Nat.reduceAdd] at h1 h2 h3
  omega
/-- The j-th subset of a set's first k, in rising order: the bits of j at the set's places. -/
def depN : Nat → Nat → Nat → Nat
  | 0, _, _ => 0
  | k + 1, f, j => if f % 2 = 1 then 2 * depN k (f / 2) (j / 2) + j % 2 else 2 * depN k (f / 2) j
theorem dep_high (k : Nat) : ∀ f j, j < 2 ^ cntN (k + 1) f → depN (k + 1) f j = depN k f (j % 2 ^ cntN k f) + (if f.testBit k = true then 2 ^ k * (j / 2 ^ cntN k f) else 0) := by
  induction k with
  | zero =>
    intro f j hj
    have hb : f.testBit 0 = decide (f % 2 = 1) := by rw [Nat.testBit_zero]
    simp only [depN, cntN, Nat.add_zero, Nat.pow_zero, Nat.div_one, Nat.one_mul] at *
    rw [hb]
    by_cases h : f % 2 = 1
    · rw [h] at hj
      rw [if_pos h, decide_eq_true h, if_pos rfl]
      omega
    · rw [if_neg h, decide_eq_false h]
      rfl
  | succ k ih =>
    intro f j hj
    have hb : f.testBit (k + 1) = (f / 2).testBit k := by rw [Nat.testBit_succ]
    have hc : cntN (k + 1 + 1) f = f % 2 + cntN (k + 1) (f / 2) := rfl
    have hc2 : cntN (k + 1) f = f % 2 + cntN k (f / 2) := rfl
    rw [hb]
    show (if f % 2 = 1 then 2 * depN (k + 1) (f / 2) (j / 2) + j % 2 else 2 * depN (k + 1) (f / 2) j) = (if f % 2 = 1 then 2 * depN k (f / 2) (j % 2 ^ cntN (k + 1) f / 2) + j % 2 ^ cntN (k + 1) f % 2 else 2 * depN k (f / 2) (j % 2 ^ cntN (k + 1) f)) + _
    by_cases h : f % 2 = 1
    · rw [if_pos h, if_pos h]
      rw [hc, h, Nat.add_comm 1, Nat.pow_succ] at hj
      rw [hc2, h, Nat.add_comm 1, Nat.pow_succ, Nat.mul_comm _ 2]
      rw [ih (f / 2) (j / 2) (by omega), Nat.mod_mul_right_div_self, Nat.mod_mul_right_mod, ← Nat.div_div_eq_div_mul, Nat.pow_succ]
      split
      · rw [Nat.mul_comm (2 ^ k) 2, Nat.mul_assoc]; omega
      · omega
    · have h0 : f % 2 = 0 := by omega
      rw [if_neg h, if_neg h]
      rw [hc, h0, Nat.zero_add] at hj
      rw [hc2, h0, Nat.zero_add, ih (f / 2) j hj, Nat.pow_succ]
      split
      · rw [Nat.mul_comm (2 ^ k) 2, Nat.mul_assoc]; omega
      · omega
theorem and_low (a b : Nat) : a &&& b = 2 * (a / 2 &&& b / 2) + (a % 2) * (b % 2) := by
  have h1 : (a &&& b) / 2 = a / 2 &&& b / 2 := Nat.and_div_two
  have h2 := and_mod_two a b
  omega
theorem dep_lt : ∀ k f j, depN k f j < 2 ^ k
  | 0, _, _ => by simp [depN]
  | k + 1, f, j => by
    have h1 := dep_lt k (f / 2) (j / 2)
    have h2 := dep_lt k (f / 2) j
    rw [Nat.pow_succ]
    unfold depN
    split <;> omega
theorem dep_sub : ∀ k f j, subN (depN k f j) f = true
  | 0, _, _ => by simp [depN, subN]
  | k + 1, f, j => by
    rw [subN_iff, and_low]
    have h1 := dep_sub k (f / 2) (j / 2)
    have h2 := dep_sub k (f / 2) j
    rw [subN_iff] at h1 h2
    unfold depN
    split
    · rename_i h
      have e1 : (2 * depN k (f / 2) (j / 2) + j % 2) / 2 = depN k (f / 2) (j / 2) := by omega
      have e2 : (2 * depN k (f / 2) (j / 2) + j % 2) % 2 = j % 2 := by omega
      rw [e1, e2, h, h1]
      omega
    · have e1 : (2 * depN k (f / 2) j) / 2 = depN k (f / 2) j := by omega
      have e2 : (2 * depN k (f / 2) j) % 2 = 0 := by omega
      rw [e1, e2, h2]
      omega
theorem not_and : ∀ k f c, f < 2 ^ k → subN c f = true → (2 ^ k - 1 - (f - c)) &&& f = c
  | 0, f, c, hf, hs => by
    have h := subN_le hs
    have e : f = 0 := by simpa using hf
    subst e
    have : c = 0 := by omega
    subst this
    rfl
  | k + 1, f, c, hf, hs => by
    have hle := subN_le hs
    rw [Nat.pow_succ] at hf
    rw [subN_iff, and_low] at hs
    have hb : c % 2 * (f % 2) = c % 2 ∧ c / 2 &&& f / 2 = c / 2 := by
      have : c % 2 * (f % 2) ≤ 1 := Nat.mul_le_mul (show c % 2 ≤ 1 by omega) (show f % 2 ≤ 1 by omega)
      omega
    have ih := not_and k (f / 2) (c / 2) (by omega) (subN_iff.2 hb.2)
    have hle2 := subN_le (subN_iff.2 hb.2)
    rw [and_low, Nat.pow_succ]
    have hcf : c % 2 ≤ f % 2 := by
      have h1 := hb.1
      rcases Nat.mod_two_eq_zero_or_one f with h | h
      · rw [h] at h1; omega
      · omega
    have e1 : (2 ^ k * 2 - 1 - (f - c)) / 2 = 2 ^ k - 1 - (f / 2 - c / 2) := by omega
    have e2 : (2 ^ k * 2 - 1 - (f - c)) % 2 = 1 - (f % 2 - c % 2) := by omega
    rw [e1, e2, ih]
    rcases Nat.mod_two_eq_zero_or_one f with h | h
    · rw [h] at hcf ⊢; omega
    · rw [h]; omega
/-- The next subset: to subtract the set is to carry past its free places. -/
def nextN (k f c : Nat) : Nat := ((c + 2 ^ k - f) % 2 ^ k) &&& f
theorem dep_next : ∀ k f j, f < 2 ^ k → j + 1 < 2 ^ cntN k f → nextN k f (depN k f j) = depN k f (j + 1)
  | 0, f, j, hf, hj => by simp [cntN] at hj
  | k + 1, f, j, hf, hj => by
    have hp : 0 < 2 ^ k := Nat.pow_pos (by decide)
    have hf2 : f / 2 < 2 ^ k := by rw [Nat.pow_succ] at hf; omega
    have hc : cntN (k + 1) f = f % 2 + cntN k (f / 2) := rfl
    rw [hc] at hj
    have l1 := dep_lt k (f / 2) (j / 2)
    have l2 := dep_lt k (f / 2) j
    unfold nextN
    rw [and_low, Nat.pow_succ, Nat.mul_comm _ 2]
    by_cases h : f % 2 = 1
    · rw [h, Nat.add_comm 1, Nat.pow_succ] at hj
      have ed : depN (k + 1) f j = 2 * depN k (f / 2) (j / 2) + j % 2 := by show (if _ then _ else _) = _; rw [if_pos h]
      have ed2 : depN (k + 1) f (j + 1) = 2 * depN k (f / 2) ((j + 1) / 2) + (j + 1) % 2 := by show (if _ then _ else _) = _; rw [if_pos h]
      rw [ed, ed2, h, Nat.mul_one]
      have hs := dep_sub k (f / 2) (j / 2)
      by_cases he : j % 2 = 1
      · have e1 : 2 * depN k (f / 2) (j / 2) + j % 2 + 2 * 2 ^ k - f = 2 * (depN k (f / 2) (j / 2) + 2 ^ k - f / 2) := by omega
        have e2 : (j + 1) / 2 = j / 2 + 1 := by omega
        have e3 : (j + 1) % 2 = 0 := by omega
        have ih := dep_next k (f / 2) (j / 2) hf2 (by omega)
        unfold nextN at ih
        rw [e1, Nat.mul_mod_mul_left, Nat.mul_div_cancel_left _ (by decide), ih, e2, e3]
        omega
      · have hle := subN_le hs
        have e1 : 2 * depN k (f / 2) (j / 2) + j % 2 + 2 * 2 ^ k - f = 2 * (2 ^ k - 1 - (f / 2 - depN k (f / 2) (j / 2))) + 1 := by omega
        have e2 : (j + 1) / 2 = j / 2 := by omega
        have e3 : (j + 1) % 2 = 1 := by omega
        have e4 := not_and k (f / 2) (depN k (f / 2) (j / 2)) hf2 hs
        have e5 : (2 * (2 ^ k - 1 - (f / 2 - depN k (f / 2) (j / 2))) + 1) % (2 * 2 ^ k) = 2 * (2 ^ k - 1 - (f / 2 - depN k (f / 2) (j / 2))) + 1 := Nat.mod_eq_of_lt (by omega)
        rw [e1, e5, e2, e3, show (2 * (2 ^ k - 1 - (f / 2 - depN k (f / 2) (j / 2))) + 1) / 2 = 2 ^ k - 1 - (f / 2 - depN k (f / 2) (j / 2)) by omega, e4]
        omega
    · have h0 : f % 2 = 0 := by omega
      rw [h0, Nat.zero_add] at hj
      have ed : ∀ j, depN (k + 1) f j = 2 * depN k (f / 2) j := fun j => by show (if _ then _ else _) = _; rw [if_neg h]
      rw [ed, ed, h0, Nat.mul_zero]
      have e1 : 2 * depN k (f / 2) j + 2 * 2 ^ k - f = 2 * (depN k (f / 2) j + 2 ^ k - f / 2) := by omega
      have ih := dep_next k (f / 2) j hf2 hj
      unfold nextN at ih
      rw [e1, Nat.mul_mod_mul_left, Nat.mul_div_cancel_left _ (by decide), ih]
      omega
theorem dep_zero : ∀ k f, depN k f 0 = 0
  | 0, _ => rfl
  | k + 1, f => by unfold depN; simp [dep_zero k]
/-- What the sets between two are, in rising order. -/
def betN (a b : Nat) : List Nat := (List.range (2 ^ cntN 32 (b - a))).map fun j => a + depN 32 (b - a) j
end Go.Proofs.Ytifbmdophoemjaa
