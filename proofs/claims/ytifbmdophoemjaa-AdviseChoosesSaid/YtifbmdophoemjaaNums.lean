/- Plain facts on 64-bit integers, bits and ends of calls; nothing of the program. -/
import Derived.WalkKit
import Derived.Laws.Bits64
import Derived.Laws.Bits64b
import Derived.Laws.BitsAllLaws
import Derived.Lib.Hide
import Derived.Deep.Draws
namespace Go.Proofs.Ytifbmdophoemjaa
set_option maxRecDepth 100000
open Go.RowKit
theorem ret_int {k : IntKind} {a b : Int} (h : a = b) : Ending.returned (.int k a) = .returned (.int k b) := by rw [h]
theorem ret_bool {a b : Bool} (h : a = b) : Ending.returned (.bool a) = .returned (.bool b) := by rw [h]
theorem ret_ib {k : IntKind} {a b : Int} {x y : Bool} (h : a = b) (g : x = y) : Ending.returned (.tuple #[.int k a, .bool x]) = .returned (.tuple #[.int k b, .bool y]) := by rw [h, g]
theorem ret_iib {k l : IntKind} {a b c d : Int} {x y : Bool} (h : a = b) (i : c = d) (g : x = y) : Ending.returned (.tuple #[.int k a, .int l c, .bool x]) = .returned (.tuple #[.int k b, .int l d, .bool y]) := by rw [h, i, g]
theorem ret_ii {k l : IntKind} {a b c d : Int} (h : a = b) (i : c = d) : Ending.returned (.tuple #[.int k a, .int l c]) = .returned (.tuple #[.int k b, .int l d]) := by rw [h, i]
theorem wrap64_in {n : Int} (h1 : -9223372036854775808 ≤ n) (h2 : n ≤ 9223372036854775807) : wrap64 n = n := by unfold wrap64; omega
theorem wrap_i64_toNat (v : BitVec 64) : IntKind.i64.wrap (v.toNat : Int) = v.toInt := by
  have h := v.isLt
  rw [IntKind.wrap_i64, BitVec.toInt_eq_toNat_cond]
  split <;> omega
theorem ofInt_msb (x : Int) (h1 : -9223372036854775808 ≤ x) (h2 : x ≤ 9223372036854775807) : (BitVec.ofInt 64 x).msb = decide (x < 0) := by
  rw [BitVec.msb_eq_toInt, BitVec.toInt_ofInt]
  have : x.bmod (2 ^ 64) = x := by
    rw [Int.bmod_eq_of_le] <;> omega
  rw [this]
theorem i64_and_eq (x y : Int) : bits .and .i64 x y = (BitVec.ofInt 64 x &&& BitVec.ofInt 64 y).toInt := wrap_i64_toNat _
theorem i64_xor_eq (x y : Int) : bits .xor .i64 x y = (BitVec.ofInt 64 x ^^^ BitVec.ofInt 64 y).toInt := wrap_i64_toNat _
theorem i64_or_eq (x y : Int) : bits .or .i64 x y = (BitVec.ofInt 64 x ||| BitVec.ofInt 64 y).toInt := wrap_i64_toNat _
theorem toInt_range (v : BitVec 64) : -9223372036854775808 ≤ v.toInt ∧ v.toInt ≤ 9223372036854775807 := by
  have h := v.isLt
  rw [BitVec.toInt_eq_toNat_cond]
  split <;> omega
theorem i64_and_range (x y : Int) : -9223372036854775808 ≤ bits .and .i64 x y ∧ bits .and .i64 x y ≤ 9223372036854775807 := by
  rw [i64_and_eq]; exact toInt_range _
theorem i64_xor_range (x y : Int) : -9223372036854775808 ≤ bits .xor .i64 x y ∧ bits .xor .i64 x y ≤ 9223372036854775807 := by
  rw [i64_xor_eq]; exact toInt_range _
theorem toInt_neg (v : BitVec 64) : decide (v.toInt < 0) = v.msb := by
  rw [BitVec.msb_eq_toInt]
theorem i64_and_neg (x y : Int) (h1 : -9223372036854775808 ≤ x) (h2 : x ≤ 9223372036854775807) (h3 : -9223372036854775808 ≤ y) (h4 : y ≤ 9223372036854775807) :
    decide (bits .and .i64 x y < 0) = (decide (x < 0) && decide (y < 0)) := by
  rw [i64_and_eq, toInt_neg, BitVec.msb_and, ofInt_msb x h1 h2, ofInt_msb y h3 h4]
theorem i64_xor_neg (x y : Int) (h1 : -9223372036854775808 ≤ x) (h2 : x ≤ 9223372036854775807) (h3 : -9223372036854775808 ≤ y) (h4 : y ≤ 9223372036854775807) :
    decide (bits .xor .i64 x y < 0) = (decide (x < 0) != decide (y < 0)) := by
  rw [i64_xor_eq, toInt_neg, BitVec.msb_xor, ofInt_msb x h1 h2, ofInt_msb y h3 h4]
theorem and_mod_two (a b : Nat) : (a &&& b) % 2 = (a % 2) * (b % 2) := by
  have h := Nat.testBit_and a b 0
  simp only [Nat.testBit_zero] at h
  rcases Nat.mod_two_eq_zero_or_one a with ha | ha <;> rcases Nat.mod_two_eq_zero_or_one b with hb | hb <;> rcases Nat.mod_two_eq_zero_or_one (a &&& b) with hc | hc <;> simp_all
theorem ofInt64_nat (x : Int) : ((BitVec.ofInt 64 x).toNat : Int) = x % 18446744073709551616 := by
  rw [BitVec.toNat_ofInt]
  have : (((2 ^ 64 : Nat)) : Int) = 18446744073709551616 := by decide
  rw [this]
  omega
theorem i64_and_nat (a b : Int) : ∃ A B : Nat, (A : Int) = a % 18446744073709551616 ∧ (B : Int) = b % 18446744073709551616 ∧ bits .and .i64 a b = IntKind.i64.wrap ((A &&& B : Nat) : Int) :=
  ⟨(BitVec.ofInt 64 a).toNat, (BitVec.ofInt 64 b).toNat, ofInt64_nat a, ofInt64_nat b, by
    show IntKind.i64.wrap ((BitVec.ofInt 64 a &&& BitVec.ofInt 64 b).toNat : Int) = _
    rw [BitVec.toNat_and]⟩
theorem i64_and_one (x : Int) : bits .and .i64 x 1 = x % 2 := by
  obtain ⟨A, B, hA, hB, h⟩ := i64_and_nat x 1
  have hB1 : B = 1 := by omega
  subst hB1
  rw [h, Nat.and_one_is_mod, IntKind.wrap_i64]
  omega
theorem odd_core (A B : Nat) (a b : Int) (hA : (A : Int) = a % 18446744073709551616) (hB : (B : Int) = b % 18446744073709551616) : ((A &&& B : Nat) : Int) % 2 = (a % 2) * (b % 2) := by
  have h2 := and_mod_two A B
  have ea : ((A % 2 : Nat) : Int) = a % 2 := by omega
  have eb : ((B % 2 : Nat) : Int) = b % 2 := by omega
  rw [← ea, ← eb, ← Int.natCast_mul, ← h2]
  omega
theorem wrap_mod_two (z : Int) : IntKind.i64.wrap z % 2 = z % 2 := by
  rw [IntKind.wrap_i64]; omega
theorem i64_and_odd (a b : Int) : bits .and .i64 (bits .and .i64 a b) 1 = (a % 2) * (b % 2) := by
  refine (i64_and_one _).trans ?_
  obtain ⟨A, B, hA, hB, h⟩ := i64_and_nat a b
  rw [h, wrap_mod_two]
  exact odd_core A B a b hA hB
theorem half_sum (a b : Int) : a / 2 + b / 2 + (a % 2) * (b % 2) = (a + b) / 2 := by
  rcases Int.emod_two_eq a with ha | ha <;> rcases Int.emod_two_eq b with hb | hb <;> rw [ha, hb] <;> omega
theorem floor_unique (a b q r : Int) (h : r + b * q = a) (hp : 0 < b → 0 ≤ r ∧ r < b) (hn : b < 0 → b < r ∧ r ≤ 0) (hb : b ≠ 0) : a.fdiv b = q ∧ a.fmod b = r := by
  have h2 := Int.fmod_add_mul_fdiv a b
  have key : a.fdiv b = q := by
    rcases Int.lt_or_gt_of_ne hb with hb | hb
    · obtain ⟨h3, h4⟩ := hn hb
      have e : a.fdiv b = (-a).fdiv (-b) := (Int.neg_fdiv_neg a b).symm
      rw [e, Int.fdiv_eq_ediv_of_nonneg _ (by omega)]
      refine ((Int.ediv_emod_unique (a := -a) (b := -b) (r := -r) (q := q) (by omega)).2 ⟨?_, by omega, by omega⟩).1
      rw [Int.neg_mul]; omega
    · obtain ⟨h3, h4⟩ := hp hb
      rw [Int.fdiv_eq_ediv_of_nonneg _ (by omega)]
      exact ((Int.ediv_emod_unique (a := a) (b := b) (r := r) (q := q) (by omega)).2 ⟨h, by omega, by omega⟩).1
  refine ⟨key, ?_⟩
  rw [key] at h2
  omega
theorem tmod_bounds (a b : Int) (hb : b ≠ 0) : (a.tmod b).natAbs < b.natAbs := by
  rw [Int.natAbs_tmod]; exact Nat.mod_lt _ (by omega)
/-- Floor division out of the one that rounds towards 0: where the remainder is 0 or has the divisor's sign. -/
theorem floor_same (a b : Int) (hb : b ≠ 0) (h : a.tmod b = 0 ∨ (a.tmod b < 0 ↔ b < 0)) : a.fdiv b = a.tdiv b ∧ a.fmod b = a.tmod b := by
  have h1 := Int.tmod_add_mul_tdiv a b
  have h2 := tmod_bounds a b hb
  exact floor_unique a b _ _ h1 (fun _ => by omega) (fun _ => by omega) hb
/-- .. and where it has the other sign. -/
theorem floor_other (a b : Int) (hb : b ≠ 0) (h0 : a.tmod b ≠ 0) (h : ¬ (a.tmod b < 0 ↔ b < 0)) : a.fdiv b = a.tdiv b - 1 ∧ a.fmod b = a.tmod b + b := by
  have h1 := Int.tmod_add_mul_tdiv a b
  have h2 := tmod_bounds a b hb
  refine floor_unique a b _ _ ?_ (fun _ => by omega) (fun _ => by omega) hb
  rw [Int.mul_sub]; omega
/-- The quotient fits where it is not -2^63 by -1. -/
theorem tdiv_fits (a b : Int) (h1 : -9223372036854775808 ≤ a) (h2 : a ≤ 9223372036854775807) (hb : b ≠ 0) (hx : ¬ (a = -9223372036854775808 ∧ b = -1)) :
    -9223372036854775808 ≤ a.tdiv b ∧ a.tdiv b ≤ 9223372036854775807 := by
  have h := Int.natAbs_tdiv_le_natAbs a b
  by_cases hm : b = -1
  · subst hm; simp; omega
  · by_cases hp : a = -9223372036854775808
    · by_cases h1 : b = 1
      · subst h1; simp; omega
      · have h3 : (a.tdiv b).natAbs = a.natAbs / b.natAbs := Int.natAbs_tdiv a b
        have h4 : a.natAbs / b.natAbs ≤ a.natAbs / 2 := Nat.div_le_div_left (by omega) (by omega)
        omega
    · omega
theorem floor_fits (a b : Int) (h1 : -9223372036854775808 ≤ a) (h2 : a ≤ 9223372036854775807) (hb : b ≠ 0) (hx : ¬ (a = -9223372036854775808 ∧ b = -1)) :
    -9223372036854775808 ≤ a.fdiv b ∧ a.fdiv b ≤ 9223372036854775807 := by
  have h := tdiv_fits a b h1 h2 hb hx
  by_cases ht : a.tmod b = 0 ∨ (a.tmod b < 0 ↔ b < 0)
  · rw [(floor_same a b hb ht).1]; exact h
  · have ht1 : a.tmod b ≠ 0 := fun e => ht (.inl e)
    have ht2 : ¬ (a.tmod b < 0 ↔ b < 0) := fun e => ht (.inr e)
    rw [(floor_other a b hb ht1 ht2).1]
    refine ⟨?_, by omega⟩
    by_cases e : a.tdiv b = -9223372036854775808
    · exfalso
      have h3 : (a.tdiv b).natAbs = a.natAbs / b.natAbs := Int.natAbs_tdiv a b
      by_cases hb1 : b.natAbs = 1
      · have : b = 1 ∨ b = -1 := by omega
        rcases this with rfl | rfl <;> simp at ht1
      · have h4 : a.natAbs / b.natAbs ≤ a.natAbs / 2 := Nat.div_le_div_left (by omega) (by omega)
        omega
    · omega
/-- Does a number fit into an int64; and itself, or 0. -/
def fitB (z : Int) : Bool := decide (-9223372036854775808 ≤ z) && decide (z ≤ 9223372036854775807)
def clip (z : Int) : Int := bif fitB z then z else 0
theorem fitB_yes {z : Int} (h1 : -9223372036854775808 ≤ z) (h2 : z ≤ 9223372036854775807) : fitB z = true := by simp [fitB, h1, h2]
theorem fitB_no {z : Int} (h : z < -9223372036854775808 ∨ 9223372036854775807 < z) : fitB z = false := by
  simp only [fitB, Bool.and_eq_false_iff, decide_eq_false_iff_not]; omega
theorem clip_yes {z : Int} (h1 : -9223372036854775808 ≤ z) (h2 : z ≤ 9223372036854775807) : clip z = z := by simp [clip, fitB_yes h1 h2]
theorem clip_no {z : Int} (h : z < -9223372036854775808 ∨ 9223372036854775807 < z) : clip z = 0 := by simp [clip, fitB_no h]
theorem fitB_iff {z : Int} : fitB z = true ↔ -9223372036854775808 ≤ z ∧ z ≤ 9223372036854775807 := by simp [fitB]
theorem ret_fit {z y : Int} {b : Bool} (h1 : -9223372036854775808 ≤ z) (h2 : z ≤ 9223372036854775807) (hy : y = z) (hb : b = true) : Ending.returned (.tuple #[.int .i64 y, .bool b]) = .returned (.tuple #[.int .i64 (clip z), .bool (fitB z)]) :=
  ret_ib (by rw [clip_yes h1 h2, hy]) (by rw [fitB_yes h1 h2, hb])
theorem ret_nofit {z y : Int} {b : Bool} (h : z < -9223372036854775808 ∨ 9223372036854775807 < z) (hy : y = 0) (hb : b = false) : Ending.returned (.tuple #[.int .i64 y, .bool b]) = .returned (.tuple #[.int .i64 (clip z), .bool (fitB z)]) :=
  ret_ib (by rw [clip_no h, hy]) (by rw [fitB_no h, hb])
theorem and_xor_neg (x y u v : Int) (hx : -9223372036854775808 ≤ x ∧ x ≤ 9223372036854775807) (hy : -9223372036854775808 ≤ y ∧ y ≤ 9223372036854775807) (hu : -9223372036854775808 ≤ u ∧ u ≤ 9223372036854775807) (hv : -9223372036854775808 ≤ v ∧ v ≤ 9223372036854775807) :
    decide (bits .and .i64 (bits .xor .i64 x y) (bits .xor .i64 u v) < 0) = ((decide (x < 0) != decide (y < 0)) && (decide (u < 0) != decide (v < 0))) := by
  rw [i64_and_neg _ _ (i64_xor_range _ _).1 (i64_xor_range _ _).2 (i64_xor_range _ _).1 (i64_xor_range _ _).2, i64_xor_neg x y hx.1 hx.2 hy.1 hy.2, i64_xor_neg u v hu.1 hu.2 hv.1 hv.2]
theorem wrap64_range (n : Int) : -9223372036854775808 ≤ wrap64 n ∧ wrap64 n ≤ 9223372036854775807 := by unfold wrap64; omega
theorem add_test_yes (a b : Int) (h1 : -9223372036854775808 ≤ a) (h2 : a ≤ 9223372036854775807) (h3 : -9223372036854775808 ≤ b) (h4 : b ≤ 9223372036854775807) (h5 : -9223372036854775808 ≤ a + b) (h6 : a + b ≤ 9223372036854775807) :
    ¬ bits .and .i64 (bits .xor .i64 a (a + b)) (bits .xor .i64 b (a + b)) < 0 := by
  have h := and_xor_neg a (a + b) b (a + b) ⟨h1, h2⟩ ⟨h5, h6⟩ ⟨h3, h4⟩ ⟨h5, h6⟩
  intro hn
  rw [decide_eq_true hn] at h
  have h := h.symm
  simp only [Bool.and_eq_true, bne_iff_ne, ne_eq, decide_eq_decide] at h
  omega
theorem add_test_no (a b : Int) (h1 : -9223372036854775808 ≤ a) (h2 : a ≤ 9223372036854775807) (h3 : -9223372036854775808 ≤ b) (h4 : b ≤ 9223372036854775807) (h5 : a + b < -9223372036854775808 ∨ 9223372036854775807 < a + b) :
    bits .and .i64 (bits .xor .i64 a (wrap64 (a + b))) (bits .xor .i64 b (wrap64 (a + b))) < 0 := by
  have h := and_xor_neg a (wrap64 (a + b)) b (wrap64 (a + b)) ⟨h1, h2⟩ (wrap64_range _) ⟨h3, h4⟩ (wrap64_range _)
  apply of_decide_eq_true
  rw [h]
  simp only [Bool.and_eq_true, bne_iff_ne, ne_eq, decide_eq_decide]
  unfold wrap64
  omega
theorem sub_test_yes (a b : Int) (h1 : -9223372036854775808 ≤ a) (h2 : a ≤ 9223372036854775807) (h3 : -9223372036854775808 ≤ b) (h4 : b ≤ 9223372036854775807) (h5 : -9223372036854775808 ≤ a - b) (h6 : a - b ≤ 9223372036854775807) :
    ¬ bits .and .i64 (bits .xor .i64 a b) (bits .xor .i64 a (a - b)) < 0 := by
  have h := and_xor_neg a b a (a - b) ⟨h1, h2⟩ ⟨h3, h4⟩ ⟨h1, h2⟩ ⟨h5, h6⟩
  intro hn
  rw [decide_eq_true hn] at h
  have h := h.symm
  simp only [Bool.and_eq_true, bne_iff_ne, ne_eq, decide_eq_decide] at h
  omega
theorem sub_test_no (a b : Int) (h1 : -9223372036854775808 ≤ a) (h2 : a ≤ 9223372036854775807) (h3 : -9223372036854775808 ≤ b) (h4 : b ≤ 9223372036854775807) (h5 : a - b < -9223372036854775808 ∨ 9223372036854775807 < a - b) :
    bits .and .i64 (bits .xor .i64 a b) (bits .xor .i64 a (wrap64 (a - b))) < 0 := by
  have h := and_xor_neg a b a (wrap64 (a - b)) ⟨h1, h2⟩ ⟨h3, h4⟩ ⟨h1, h2⟩ (wrap64_range _)
  apply of_decide_eq_true
  rw [h]
  simp only [Bool.and_eq_true, bne_iff_ne, ne_eq, decide_eq_decide]
  unfold wrap64
  omega
/-- The sum in 128 bits: one step of both halves, and the end. -/
def lowOf (s : Int) : Int := s % 18446744073709551616
def highOf (s : Int) : Int := s / 18446744073709551616 % 18446744073709551616
theorem low_step (s x : Int) : (lowOf s + x % 18446744073709551616) % 18446744073709551616 = lowOf (s + x) := by unfold lowOf; omega
theorem high_step (s x : Int) (h1 : -9223372036854775808 ≤ x) (h2 : x ≤ 9223372036854775807) :
    (highOf s + x / 9223372036854775808 % 18446744073709551616 + (lowOf s + x % 18446744073709551616) / 18446744073709551616) % 18446744073709551616 = highOf (s + x) := by
  unfold highOf lowOf
  have e : (s + x) / 18446744073709551616 = s / 18446744073709551616 + x / 9223372036854775808 + (s % 18446744073709551616 + x % 18446744073709551616) / 18446744073709551616 := by
    have : x / 9223372036854775808 = 0 ∧ 0 ≤ x ∨ x / 9223372036854775808 = -1 ∧ x < 0 := by omega
    rcases this with ⟨h, _⟩ | ⟨h, _⟩ <;> rw [h] <;> omega
  rw [e]
  generalize (s % 18446744073709551616 + x % 18446744073709551616) / 18446744073709551616 = c
  generalize x / 9223372036854775808 = y
  generalize s / 18446744073709551616 = z
  omega
theorem low_range (s : Int) : 0 ≤ lowOf s ∧ lowOf s ≤ 18446744073709551615 := by unfold lowOf; omega
theorem high_range (s : Int) : 0 ≤ highOf s ∧ highOf s ≤ 18446744073709551615 := by unfold highOf; omega
theorem low_end (s : Int) : wrap64 (lowOf s) = wrap64 s := by unfold lowOf wrap64; omega
theorem high_end (s : Int) (h1 : -85070591730234615865843651857942052864 ≤ s) (h2 : s ≤ 85070591730234615865843651857942052864) :
    wrap64 (highOf s) = s / 18446744073709551616 := by unfold highOf wrap64; omega
theorem sum_test (s : Int) : (s / 18446744073709551616 = wrap64 s / 9223372036854775808) ↔ fitB s = true := by
  rw [fitB_iff]; unfold wrap64; omega
theorem sum_no {s : Int} (h1 : -85070591730234615865843651857942052864 ≤ s) (h2 : s ≤ 85070591730234615865843651857942052864)
    (h : (wrap64 (highOf s) != wrap64 (lowOf s) / 9223372036854775808) = true) : s < -9223372036854775808 ∨ 9223372036854775807 < s := by
  rw [low_end, high_end s h1 h2] at h
  have h3 := sum_test s
  rw [fitB_iff] at h3
  simp at h
  omega
theorem sum_yes {s : Int} (h1 : -85070591730234615865843651857942052864 ≤ s) (h2 : s ≤ 85070591730234615865843651857942052864)
    (h : (wrap64 (highOf s) != wrap64 (lowOf s) / 9223372036854775808) = false) : -9223372036854775808 ≤ s ∧ s ≤ 9223372036854775807 := by
  rw [low_end, high_end s h1 h2] at h
  have h3 := sum_test s
  rw [fitB_iff] at h3
  simp at h
  omega
def sumOf (l : List Int) : Int := l.sum
theorem sumOf_snoc (l : List Int) (x : Int) : sumOf (l ++ [x]) = sumOf l + x := by simp [sumOf]
theorem sumOf_nil : sumOf [] = 0 := rfl
theorem sumOf_bound (l : List Int) (h : ∀ x ∈ l, -9223372036854775808 ≤ x ∧ x ≤ 9223372036854775807) :
    -(9223372036854775808 * (l.length : Int)) ≤ sumOf l ∧ sumOf l ≤ 9223372036854775808 * (l.length : Int) := by
  induction l with
  | nil => simp [sumOf]
  | cons x l ih =>
    have h1 := ih (fun y hy => h y (by simp [hy]))
    have h2 := h x (by simp)
    unfold sumOf at h1 ⊢
    simp only [List.sum_cons, List.length_cons]
    omega
theorem take_snoc {α : Type} (l : List α) (k : Nat) (h : k < l.length) (d : α) : l.take (k + 1) = l.take k ++ [l.getD k d] := by
  rw [List.take_succ_eq_append_getElem h]
  simp [List.getD, h]
end Go.Proofs.Ytifbmdophoemjaa
