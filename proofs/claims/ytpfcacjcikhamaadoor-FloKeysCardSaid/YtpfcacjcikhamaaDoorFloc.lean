/- Operations on the bits of a float, and the calls of package math that need no loop. -/
import Derived.Test.YtpfcacjcikhamaaDoorFlob
import Derived.Test.YtpfcacjcikhamaaDoorNatc
import Derived.WalkLawsBesides
import Derived.Laws.Externs
import Derived.Laws.BitsAllLaws
namespace Go.Proofs.YtpfcacjcikhamaaDoor
set_option maxRecDepth 100000
open Go.RowKit
set_option linter.unusedVariables false
theorem not64 (n : Int) (h0 : 0 ≤ n) (h1 : n ≤ 18446744073709551615) : bits .xor .u64 IntKind.u64.max n = 18446744073709551615 - n := by
  obtain ⟨N, rfl⟩ := Int.eq_ofNat_of_zero_le h0
  show IntKind.u64.wrap ((BitVec.ofInt 64 18446744073709551615 ^^^ BitVec.ofInt 64 (N : Int)).toNat : Int) = _
  have e : BitVec.ofInt 64 18446744073709551615 = BitVec.allOnes 64 := by decide
  rw [e, BitVec.allOnes_xor, BitVec.toNat_not, BitVec.ofInt_natCast, BitVec.toNat_ofNat, IntKind.wrap_u64]
  omega
theorem or63 (n : Int) (h0 : 0 ≤ n) (h1 : n < 9223372036854775808) : bits .or .u64 n 9223372036854775808 = n + 9223372036854775808 := by
  obtain ⟨N, rfl⟩ := Int.eq_ofNat_of_zero_le h0
  have := or_sum64' 1 N 63 (by omega) (by omega)
  have e : ((2 ^ 63 * 1 : Nat) : Int) = 9223372036854775808 := by decide
  rw [e] at this
  rw [this]; omega
theorem or63' (n : Int) (h0 : 9223372036854775808 ≤ n) (h1 : n ≤ 18446744073709551615) : bits .or .u64 n 9223372036854775808 = n := by
  obtain ⟨N, hN⟩ := Int.eq_ofNat_of_zero_le (a := n - 9223372036854775808) (by omega)
  have e1 := or63 (N : Int) (by omega) (by omega)
  obtain rfl : n = (N : Int) + 9223372036854775808 := by omega
  rw [← e1]
  have e : (9223372036854775808 : Int) = ((9223372036854775808 : Nat) : Int) := by decide
  rw [e, bits_or_u64_nat _ _ (by omega) (by omega)]
  have h2 : N ||| 9223372036854775808 < 2 ^ 64 := Nat.or_lt_two_pow (by omega) (by omega)
  rw [bits_or_u64_nat _ _ (by omega) (by omega), Nat.or_assoc, Nat.or_self]
theorem clr63 (n : Int) (h0 : 0 ≤ n) (h1 : n ≤ 18446744073709551615) : bits .andNot .u64 n 9223372036854775808 = n % 9223372036854775808 := by
  rw [u64_andNot n _ h0 (by omega) (by omega) (by omega)]
  have e : (18446744073709551615 - (9223372036854775808 : Int).toNat : Nat) = 2 ^ 63 - 1 := by decide
  rw [e, Nat.and_two_pow_sub_one_eq_mod]
  omega
theorem and63 (N : Nat) (h : N < 2 ^ 64) : N &&& 2 ^ 63 = if N < 2 ^ 63 then 0 else 2 ^ 63 := by
  have key : N &&& 2 ^ 63 = if N.testBit 63 then 2 ^ 63 else 0 := by
    apply Nat.eq_of_testBit_eq
    intro i
    rw [Nat.testBit_and, Nat.testBit_two_pow]
    by_cases hi : 63 = i
    · subst hi
      cases N.testBit 63
      · rw [Bool.false_and, if_neg (by decide), Nat.zero_testBit]
      · rw [Bool.true_and, if_pos rfl, Nat.testBit_two_pow]
    · have h2 : decide (63 = i) = false := by simpa using hi
      cases N.testBit 63
      · rw [h2, Bool.and_false, if_neg (by decide), Nat.zero_testBit]
      · rw [h2, Bool.and_false, if_pos rfl, Nat.testBit_two_pow, h2]
  rw [key, Nat.testBit_eq_decide_div_mod_eq]
  by_cases h : N < 2 ^ 63
  · rw [if_pos h, show N / 2 ^ 63 = 0 by omega]; rfl
  · rw [if_neg h, show N / 2 ^ 63 = 1 by omega]; rfl
theorem sgn63 (n : Int) (h0 : 0 ≤ n) (h1 : n ≤ 18446744073709551615) : bits .and .u64 n 9223372036854775808 = if n < 9223372036854775808 then 0 else 9223372036854775808 := by
  obtain ⟨N, rfl⟩ := Int.eq_ofNat_of_zero_le h0
  have e : (9223372036854775808 : Int) = ((2 ^ 63 : Nat) : Int) := by decide
  rw [e, bits_and_u64_nat _ _ (by omega) (by omega), and63 N (by omega)]
  by_cases h : N < 2 ^ 63
  · rw [if_pos h, if_pos (by omega)]; rfl
  · rw [if_neg h, if_neg (by omega)]
theorem low11 (n : Int) (h0 : 0 ≤ n) (h1 : n ≤ 18446744073709551615) : bits .and .u64 n 2047 = n % 2048 := by
  obtain ⟨N, rfl⟩ := Int.eq_ofNat_of_zero_le h0
  have e : (2047 : Int) = ((2 ^ 11 - 1 : Nat) : Int) := by decide
  rw [e, bits_and_u64_nat _ _ (by omega) (by omega), Nat.and_two_pow_sub_one_eq_mod]
  omega
theorem lowb1 (n : Int) (h0 : 0 ≤ n) (h1 : n ≤ 18446744073709551615) : bits .and .u64 n 1 = n % 2 := by
  obtain ⟨N, rfl⟩ := Int.eq_ofNat_of_zero_le h0
  have e : (1 : Int) = ((2 ^ 1 - 1 : Nat) : Int) := by decide
  rw [e, bits_and_u64_nat _ _ (by omega) (by omega), Nat.and_two_pow_sub_one_eq_mod]
  omega
theorem low11i (n : Int) (h0 : 0 ≤ n) (h1 : n ≤ 9223372036854775807) : bits .and .i64 n 2047 = n % 2048 := by
  obtain ⟨N, rfl⟩ := Int.eq_ofNat_of_zero_le h0
  show IntKind.i64.wrap ((BitVec.ofInt 64 (N : Int) &&& BitVec.ofInt 64 2047).toNat : Int) = _
  have e : BitVec.ofInt 64 2047 = BitVec.ofNat 64 2047 := by decide
  rw [e, BitVec.ofInt_natCast, BitVec.toNat_and, BitVec.toNat_ofNat, BitVec.toNat_ofNat]
  have e1 : (2047 : Nat) % 2 ^ 64 = 2 ^ 11 - 1 := by decide
  rw [e1, Nat.and_two_pow_sub_one_eq_mod, IntKind.wrap_i64]
  omega
theorem clrExp (n : Int) (h0 : 0 ≤ n) (h1 : n < 9223372036854775808) : bits .andNot .u64 n 9218868437227405312 = n % 4503599627370496 := by
  obtain ⟨N, rfl⟩ := Int.eq_ofNat_of_zero_le h0
  rw [u64_andNot _ _ h0 (by omega) (by omega) (by omega)]
  have e : (18446744073709551615 - (9218868437227405312 : Int).toNat : Nat) = 2 ^ 63 ||| (2 ^ 52 - 1) := by decide
  have e2 : N &&& (2 ^ 63 ||| (2 ^ 52 - 1)) = N % 2 ^ 52 := by
    apply Nat.eq_of_testBit_eq
    intro i
    rw [Nat.testBit_and, Nat.testBit_or, Nat.testBit_two_pow, Nat.testBit_two_pow_sub_one, Nat.testBit_mod_two_pow]
    by_cases hi : i = 63
    · subst hi
      have : N.testBit 63 = false := Nat.testBit_lt_two_pow (by omega)
      simp [this]
    · have : decide (63 = i) = false := by simp; omega
      rw [this, Bool.false_or, Bool.and_comm]
  rw [e, Int.toNat_natCast, e2]
  omega
theorem orExp (f : Int) (e : Nat) (f0 : 0 ≤ f) (f1 : f < 4503599627370496) (e1 : e < 4096) : bits .or .u64 f ((e : Int) * 4503599627370496) = f + (e : Int) * 4503599627370496 := by
  obtain ⟨F, rfl⟩ := Int.eq_ofNat_of_zero_le f0
  have := or_sum64' e F 52 (by omega) (by omega)
  have h : ((2 ^ 52 * e : Nat) : Int) = (e : Int) * 4503599627370496 := by omega
  rw [h] at this
  rw [this]; omega
/- Calls that the model stands in for. -/
theorem fbits (x : Nat) (w : World) : (callFunc 76 #[.float .f64 x]).run Tryd.prog w = .ok (.value (.int .u64 x)) w := by
  rw [run_callFunc_extern Tryd.func76 (by kernel_rfl) (by kernel_rfl) (by kernel_rfl) (e := Extern.MathFloatBits.float64bits) (by kernel_rfl)]
  rfl
theorem ffrom (n : Int) (w : World) : (callFunc 75 #[.int .u64 n]).run Tryd.prog w = .ok (.value (.float .f64 n.toNat)) w := by
  rw [run_callFunc_extern Tryd.func75 (by kernel_rfl) (by kernel_rfl) (by kernel_rfl) (e := Extern.MathFloatBits.float64frombits) (by kernel_rfl)]
  rfl
theorem ret_float {a b : Nat} (h : a = b) : Ending.returned (.float .f64 a) = .returned (.float .f64 b) := by rw [h]
abbrev W64 (x : Nat) : Prop := x < 18446744073709551616
def isNaNB (x : Nat) : Bool := decide (9218868437227405312 < x % 9223372036854775808)
def isInfB (x : Nat) : Bool := decide (x % 9223372036854775808 = 9218868437227405312)
def isZeroB (x : Nat) : Bool := decide (x % 9223372036854775808 = 0)
def negB (x : Nat) : Bool := decide (9223372036854775808 ≤ x)
theorem notNan_of {x : Nat} (h : W64 x) (hn : isNaNB x = false) : notNan x := ⟨h, by simpa [isNaNB] using hn⟩
theorem nan_of {x : Nat} (hn : isNaNB x = true) : ¬ x % 9223372036854775808 ≤ 9218868437227405312 := by simpa [isNaNB] using hn
theorem cmp_eq_iff (a b : Int) : (compare a b == Ordering.eq) = decide (a = b) := by
  show (compareOfLessAndEq a b == Ordering.eq) = _
  unfold compareOfLessAndEq
  by_cases h1 : a < b
  · rw [if_pos h1]; simp; omega
  · rw [if_neg h1]
    by_cases h2 : a = b
    · simp [h2]
    · simp [h2]
theorem cmp_lt_iff (a b : Int) : (compare a b == Ordering.lt) = decide (a < b) := by
  show (compareOfLessAndEq a b == Ordering.lt) = _
  unfold compareOfLessAndEq
  by_cases h1 : a < b
  · simp [h1]
  · rw [if_neg h1]
    by_cases h2 : a = b
    · simp [h2]
    · simp [h1, h2]
theorem cmp_gt_iff (a b : Int) : (compare a b == Ordering.gt) = decide (b < a) := by
  show (compareOfLessAndEq a b == Ordering.gt) = _
  unfold compareOfLessAndEq
  by_cases h1 : a < b
  · rw [if_pos h1]; simp; omega
  · rw [if_neg h1]
    by_cases h2 : a = b
    · simp [h2]
    · have : b < a := by omega
      simp [h2, this]
theorem ord_eq {x y : Nat} (hx : notNan x) (hy : notNan y) : (FloatKind.f64.format.order x y == some .eq) = decide (skey x = skey y) := by
  show (Ieee.double.order x y == some .eq) = _
  rw [order_key hx hy, ← cmp_eq_iff]; rfl
theorem ord_lt {x y : Nat} (hx : notNan x) (hy : notNan y) : (FloatKind.f64.format.order x y == some .lt) = decide (skey x < skey y) := by
  show (Ieee.double.order x y == some .lt) = _
  rw [order_key hx hy, ← cmp_lt_iff]; rfl
theorem ord_gt {x y : Nat} (hx : notNan x) (hy : notNan y) : (FloatKind.f64.format.order x y == some .gt) = decide (skey y < skey x) := by
  show (Ieee.double.order x y == some .gt) = _
  rw [order_key hx hy, ← cmp_gt_iff]; rfl
theorem ord_nan_l {x : Nat} (hx : isNaNB x = true) (y : Nat) (o : Ordering) : (FloatKind.f64.format.order x y == some o) = false := by
  show (Ieee.double.order x y == some o) = _
  rw [order_nan_left (nan_of hx)]; rfl
theorem ord_nan_r {y : Nat} (hy : isNaNB y = true) (x : Nat) (o : Ordering) : (FloatKind.f64.format.order x y == some o) = false := by
  show (Ieee.double.order x y == some o) = _
  rw [order_nan_right (nan_of hy)]; rfl
theorem bne_of {α : Type} [BEq α] {a b : α} {c : Bool} (h : (a == b) = c) : (a != b) = !c := by rw [bne, h]
theorem isNaN_any (x : Nat) (w : World) (hx : W64 x) :
    Calls Tryd.prog 68 #[.float .f64 x] w fun e w' => e = .returned (.bool (isNaNB x)) ∧ w = w' := by
  have H : (FloatKind.f64.format.order x x != some .eq) = isNaNB x := by
    by_cases h : isNaNB x = true
    · rw [bne_of (ord_nan_l h x .eq), h]; rfl
    · have h' : isNaNB x = false := by simpa using h
      rw [bne_of (ord_eq (notNan_of hx h') (notNan_of hx h')), h']; simp
  go_enter Tryd.func68, Tryd.ntmps68
  go_wp2
  all_goals (go_ret; exact ⟨rfl, rfl⟩)
theorem signbit_any (x : Nat) (w : World) (hx : W64 x) :
    Calls Tryd.prog 63 #[.float .f64 x] w fun e w' => e = .returned (.bool (negB x)) ∧ w = w' := by
  have hF := fun w => fbits x w
  go_enter Tryd.func63, Tryd.ntmps63
  go_wp2
  all_goals (go_ret; refine ⟨ret_bool ?_, rfl⟩)
  all_goals (rw [negB, wrap64]; by_cases h : 9223372036854775808 ≤ x <;> simp [h] <;> omega)
theorem fabs_any (x : Nat) (w : World) (hx : W64 x) :
    Calls Tryd.prog 65 #[.float .f64 x] w fun e w' => e = .returned (.float .f64 (x % 9223372036854775808)) ∧ w = w' := by
  have hF := fun w => fbits x w
  have hG := fun n w => ffrom n w
  have hC := clr63 (x : Int) (by omega) (by omega)
  go_enter Tryd.func65, Tryd.ntmps65
  go_wp2
  all_goals (go_ret; refine ⟨ret_float ?_, rfl⟩)
  all_goals omega
end Go.Proofs.YtpfcacjcikhamaaDoor
