/- What the calls of math/bits on 32 bits return. -/
import Derived.Test.YtpfcacjcikhamaaDoorNatb
import Derived.Shelf.Spec.TrailingZeros
import Derived.Laws.Bits64b
import Derived.Lib.BitFns
import Derived.Lib.Small
import Derived.Lib.Strings
import Derived.Lib.Slices
import Derived.Lib.Walk
namespace Go.Proofs.YtpfcacjcikhamaaDoor
set_option maxRecDepth 100000
open Go.RowKit
set_option linter.unusedVariables false
theorem ofInt32_nat (a : Nat) (ha : a < 4294967296) : (BitVec.ofInt 32 (a : Int)).toNat = a := by
  rw [BitVec.ofInt_natCast, BitVec.toNat_ofNat]; exact Nat.mod_eq_of_lt (by omega)
theorem bits_or_u32_nat (a b : Nat) (ha : a < 4294967296) (hb : b < 4294967296) : bits .or .u32 (a : Int) (b : Int) = ((a ||| b : Nat) : Int) := by
  have hx : a ||| b < 2 ^ 32 := Nat.or_lt_two_pow (by omega) (by omega)
  show IntKind.u32.wrap ((BitVec.ofInt 32 (a : Int) ||| BitVec.ofInt 32 (b : Int)).toNat : Int) = _
  rw [BitVec.toNat_or, ofInt32_nat a ha, ofInt32_nat b hb, wrap_u32']
  omega
theorem bits_xor_u32_nat (a b : Nat) (ha : a < 4294967296) (hb : b < 4294967296) : bits .xor .u32 (a : Int) (b : Int) = ((a ^^^ b : Nat) : Int) := by
  have hx : a ^^^ b < 2 ^ 32 := Nat.xor_lt_two_pow (by omega) (by omega)
  show IntKind.u32.wrap ((BitVec.ofInt 32 (a : Int) ^^^ BitVec.ofInt 32 (b : Int)).toNat : Int) = _
  rw [BitVec.toNat_xor, ofInt32_nat a ha, ofInt32_nat b hb, wrap_u32']
  omega
theorem top_bit (v : Nat) (h : v < 4294967296) : v / 2147483648 = (v.testBit 31).toNat := by
  rw [Nat.testBit_eq_decide_div_mod_eq]
  have : v / 2 ^ 31 < 2 := by omega
  by_cases e : v / 2 ^ 31 % 2 = 1
  · simp [e]; omega
  · simp [e]; omega
theorem borrow_bit (X Y D : Nat) (c : Int) (hX : X < 4294967296) (hY : Y < 4294967296) (hD : (D : Int) = ((X : Int) - Y - c) % 4294967296) (c0 : 0 ≤ c) (c1 : c ≤ 1) :
    ((((4294967295 ^^^ X) &&& Y ||| (4294967295 ^^^ (X ^^^ Y)) &&& D : Nat)) : Int) / 2147483648 = -(((X : Int) - Y - c) / 4294967296) := by
  have hlt : ((4294967295 ^^^ X) &&& Y ||| (4294967295 ^^^ (X ^^^ Y)) &&& D) < 4294967296 :=
    Nat.or_lt_two_pow (n := 32) (Nat.and_lt_two_pow _ hY) (Nat.and_lt_two_pow _ (by omega))
  have h := top_bit _ hlt
  have hm : Nat.testBit 4294967295 31 = true := by decide
  rw [Nat.testBit_or, Nat.testBit_and, Nat.testBit_and, Nat.testBit_xor, Nat.testBit_xor, Nat.testBit_xor, hm] at h
  have hx := top_bit X hX
  have hy := top_bit Y hY
  have hd := top_bit D (by omega)
  generalize (4294967295 ^^^ X) &&& Y ||| (4294967295 ^^^ (X ^^^ Y)) &&& D = E at *
  cases ex : X.testBit 31 <;> cases ey : Y.testBit 31 <;> cases ed : D.testBit 31 <;> simp [ex, ey, ed] at h hx hy hd <;> omega
theorem sub_borrow (x y c : Int) (x0 : 0 ≤ x) (x1 : x ≤ 4294967295) (y0 : 0 ≤ y) (y1 : y ≤ 4294967295) (c0 : 0 ≤ c) (c1 : c ≤ 1) :
    bits .or .u32 (bits .and .u32 (bits .xor .u32 IntKind.u32.max x) y) (bits .and .u32 (bits .xor .u32 IntKind.u32.max (bits .xor .u32 x y)) ((x - y - c) % 4294967296)) / 2147483648 = -((x - y - c) / 4294967296) := by
  obtain ⟨X, rfl⟩ := Int.eq_ofNat_of_zero_le x0
  obtain ⟨Y, rfl⟩ := Int.eq_ofNat_of_zero_le y0
  obtain ⟨D, hD⟩ := Int.eq_ofNat_of_zero_le (a := ((X : Int) - Y - c) % 4294967296) (by omega)
  have hm : IntKind.u32.max = ((4294967295 : Nat) : Int) := rfl
  have hX : X < 4294967296 := by omega
  have hY : Y < 4294967296 := by omega
  have k1 : 4294967295 ^^^ X < 4294967296 := Nat.xor_lt_two_pow (n := 32) (by omega) hX
  have k2 : X ^^^ Y < 4294967296 := Nat.xor_lt_two_pow (n := 32) hX hY
  have k3 : 4294967295 ^^^ (X ^^^ Y) < 4294967296 := Nat.xor_lt_two_pow (n := 32) (by omega) k2
  have k4 : (4294967295 ^^^ X) &&& Y < 4294967296 := Nat.and_lt_two_pow (n := 32) _ hY
  have k5 : (4294967295 ^^^ (X ^^^ Y)) &&& D < 4294967296 := Nat.and_lt_two_pow (n := 32) _ (by omega)
  rw [hD, hm, bits_xor_u32_nat _ _ (by omega) hX, bits_and_u32_nat _ _ k1 hY, bits_xor_u32_nat _ _ hX hY, bits_xor_u32_nat _ _ (by omega) k2, bits_and_u32_nat _ _ k3 (by omega), bits_or_u32_nat _ _ k4 k5]
  exact borrow_bit X Y D c hX hY hD.symm c0 c1
theorem or_sum64 (a b k : Nat) (hb : b < 2 ^ k) (h : 2 ^ k * a + b < 18446744073709551616) : bits .or .u64 ((2 ^ k * a : Nat) : Int) (b : Int) = ((2 ^ k * a + b : Nat) : Int) := by
  rw [bits_or_u64_nat _ _ (by omega) (by omega), Nat.two_pow_add_eq_or_of_lt hb]
theorem or_sum32 (a b k : Nat) (hb : b < 2 ^ k) (h : 2 ^ k * a + b < 4294967296) : bits .or .u32 ((2 ^ k * a : Nat) : Int) (b : Int) = ((2 ^ k * a + b : Nat) : Int) := by
  rw [bits_or_u32_nat _ _ (by omega) (by omega), Nat.two_pow_add_eq_or_of_lt hb]
theorem or_sum64' (a b k : Nat) (hb : b < 2 ^ k) (h : 2 ^ k * a + b < 18446744073709551616) : bits .or .u64 (b : Int) ((2 ^ k * a : Nat) : Int) = ((2 ^ k * a + b : Nat) : Int) := by
  rw [bits_or_u64_nat _ _ (by omega) (by omega), Nat.or_comm, Nat.two_pow_add_eq_or_of_lt hb]
theorem or_sum32' (a b k : Nat) (hb : b < 2 ^ k) (h : 2 ^ k * a + b < 4294967296) : bits .or .u32 (b : Int) ((2 ^ k * a : Nat) : Int) = ((2 ^ k * a + b : Nat) : Int) := by
  rw [bits_or_u32_nat _ _ (by omega) (by omega), Nat.or_comm, Nat.two_pow_add_eq_or_of_lt hb]
/-- Two words side by side. -/
theorem or_words (h l : Int) (h0 : 0 ≤ h) (h1 : h ≤ 4294967295) (l0 : 0 ≤ l) (l1 : l ≤ 4294967295) : bits .or .u64 (h * 4294967296) l = h * 4294967296 + l := by
  obtain ⟨H, rfl⟩ := Int.eq_ofNat_of_zero_le h0
  obtain ⟨L, rfl⟩ := Int.eq_ofNat_of_zero_le l0
  have := or_sum64 H L 32 (by omega) (by omega)
  have e : ((2 ^ 32 * H : Nat) : Int) = (H : Int) * 4294967296 := by omega
  rw [e] at this
  rw [this]; omega
theorem or_words' (h l : Int) (h0 : 0 ≤ h) (h1 : h ≤ 4294967295) (l0 : 0 ≤ l) (l1 : l ≤ 4294967295) : bits .or .u64 l (h * 4294967296) = h * 4294967296 + l := by
  obtain ⟨H, rfl⟩ := Int.eq_ofNat_of_zero_le h0
  obtain ⟨L, rfl⟩ := Int.eq_ofNat_of_zero_le l0
  have := or_sum64' H L 32 (by omega) (by omega)
  have e : ((2 ^ 32 * H : Nat) : Int) = (H : Int) * 4294967296 := by omega
  rw [e] at this
  rw [this]; omega
theorem div_word_bounds {h l d : Int} (h0 : 0 ≤ h) (h1 : h < d) (l0 : 0 ≤ l) (l1 : l ≤ 4294967295) (d1 : d ≤ 4294967295) :
    0 ≤ (h * 4294967296 + l) / d ∧ (h * 4294967296 + l) / d ≤ 4294967295 ∧ 0 ≤ (h * 4294967296 + l) % d ∧ (h * 4294967296 + l) % d < d := by
  refine ⟨Int.ediv_nonneg (by omega) (by omega), ?_, Int.emod_nonneg _ (by omega), Int.emod_lt_of_pos _ (by omega)⟩
  have h2 : (h * 4294967296 + l) / d < 4294967296 := Int.ediv_lt_of_lt_mul (by omega) (by
    have : (h + 1) * 4294967296 ≤ d * 4294967296 := Int.mul_le_mul_of_nonneg_right (by omega) (by omega)
    have e : (h + 1) * 4294967296 = h * 4294967296 + 4294967296 := by omega
    rw [Int.mul_comm 4294967296 d]; omega)
  omega
theorem div_ends (h l d : Int) (h0 : 0 ≤ h) (h1 : h < d) (l0 : 0 ≤ l) (l1 : l ≤ 4294967295) (d1 : d ≤ 4294967295) :
    IntKind.u64.wrap ((bits BinOp.or IntKind.u64 (h * 4294967296) l).tdiv d) % 4294967296 = (h * 4294967296 + l) / d ∧ (bits BinOp.or IntKind.u64 (h * 4294967296) l).tmod d % 4294967296 = (h * 4294967296 + l) % d := by
  obtain ⟨q0, q1, r0, r1⟩ := div_word_bounds h0 h1 l0 l1 d1
  rw [or_words h l h0 (by omega) l0 l1, Int.tdiv_eq_ediv_of_nonneg (by omega), Int.tmod_eq_emod_of_nonneg (by omega), IntKind.wrap_u64]
  omega
set_option maxHeartbeats 400000 in
theorem add32_any (x y c : Int) (x0 : 0 ≤ x) (x1 : x ≤ 4294967295) (y0 : 0 ≤ y) (y1 : y ≤ 4294967295) (c0 : 0 ≤ c) (c1 : c ≤ 4294967295) (w : World) :
    Calls Tryd.prog 97 #[.int .u32 x, .int .u32 y, .int .u32 c] w fun e w' => e = .returned (.tuple #[.int .u32 ((x + y + c) % 4294967296), .int .u32 ((x + y + c) / 4294967296)]) ∧ w = w' := by
  go_enter Tryd.func97, Tryd.ntmps97
  go_wp2
  go_ret2
  exact ⟨ret_ii rfl (by omega), rfl⟩
set_option maxHeartbeats 400000 in
theorem sub32_any (x y c : Int) (x0 : 0 ≤ x) (x1 : x ≤ 4294967295) (y0 : 0 ≤ y) (y1 : y ≤ 4294967295) (c0 : 0 ≤ c) (c1 : c ≤ 1) (w : World) :
    Calls Tryd.prog 106 #[.int .u32 x, .int .u32 y, .int .u32 c] w fun e w' => e = .returned (.tuple #[.int .u32 ((x - y - c) % 4294967296), .int .u32 (-((x - y - c) / 4294967296))]) ∧ w = w' := by
  go_enter Tryd.func106, Tryd.ntmps106
  go_wp2
  go_ret2
  exact ⟨ret_ii rfl (sub_borrow x y c x0 x1 y0 y1 c0 c1), rfl⟩
set_option maxHeartbeats 400000 in
theorem div32_any (h l d : Int) (h0 : 0 ≤ h) (h1 : h < d) (l0 : 0 ≤ l) (l1 : l ≤ 4294967295) (d1 : d ≤ 4294967295) (w : World) :
    Calls Tryd.prog 86 #[.int .u32 h, .int .u32 l, .int .u32 d] w fun e w' => e = .returned (.tuple #[.int .u32 ((h * 4294967296 + l) / d), .int .u32 ((h * 4294967296 + l) % d)]) ∧ ∃ n, w' = w.drewN n := by
  go_enter Tryd.func86, Tryd.ntmps86
  go_wp2
  go_quiet (fail)
  go_wp2
  go_ret2
  exact ⟨ret_ii (div_ends h l d h0 h1 l0 l1 d1).1 (div_ends h l d h0 h1 l0 l1 d1).2, _, rfl⟩
theorem len8tab_at (j : Nat) (h : j < Lib.len8tab.size) : ((Lib.len8tab[j].toNat : Nat) : Int) = (Lib.bitLen j : Int) := by
  have hs := Lib.len8tab_size
  have e := Lib.len8_of (j : Int) (by omega) (by omega)
  have e2 : ((j : Int)).toNat = j := by omega
  rw [Lib.len8, e2, ByteArray.getElem?_lt' _ _ h] at e
  simpa using e
theorem wrap64_small {n : Int} (h1 : 0 ≤ n) (h2 : n ≤ 255) : wrap64 n = n := wrap64_in (by omega) (by omega)
theorem len_close (x i : Int) (s : Nat) (h : i.toNat < Lib.len8tab.size) (hs : s ≤ 56) (e : Lib.bitLen x.toNat = s + Lib.bitLen i.toNat) : wrap64 ((s : Int) + wrap64 ((Lib.len8tab[i.toNat].toNat : Nat) : Int)) = (Lib.bitLen x.toNat : Int) := by
  have h8 := Lib.bitLen_le8 ⟨i.toNat, by have := Lib.len8tab_size; omega⟩
  simp only at h8
  rw [len8tab_at _ h, wrap64_small (n := (Lib.bitLen i.toNat : Int)) (by omega) (by omega), wrap64_small (by omega) (by omega), e]
  omega
theorem len_close0 (x : Int) (h : x.toNat < Lib.len8tab.size) : wrap64 (wrap64 ((Lib.len8tab[x.toNat].toNat : Nat) : Int)) = (Lib.bitLen x.toNat : Int) := by
  have h8 := Lib.bitLen_le8 ⟨x.toNat, by have := Lib.len8tab_size; omega⟩
  simp only at h8
  rw [len8tab_at _ h, wrap64_small (n := (Lib.bitLen x.toNat : Int)) (by omega) (by omega), wrap64_small (by omega) (by omega)]
set_option maxHeartbeats 1000000 in
set_option maxRecDepth 100000 in
theorem len32_any (x : Int) (w : World) (h0 : 0 ≤ x) (h1 : x ≤ 4294967295) :
    Calls Tryd.prog 58 #[.int .u32 x] w fun e w' => e = .returned (.int .i64 (Lib.bitLen x.toNat)) ∧ w = w' := by
  have hsz := Lib.len8tab_size
  go_enter Tryd.func58, Tryd.ntmps58
  go_wp2
  all_goals (go_ret; refine ⟨ret_int ?_, rfl⟩)
  · exact len_close x _ 24 _ (by decide) ((Lib.bitLen_shift24 x.toNat (by omega) (by omega)).trans (by congr 2; omega))
  · exact len_close x _ 16 _ (by decide) ((Lib.bitLen_shift16 x.toNat (by omega) (by omega)).trans (by congr 2; omega))
  · exact len_close x _ 8 _ (by decide) ((Lib.bitLen_shift8 x.toNat (by omega) (by omega)).trans (by congr 2; omega))
  · exact len_close0 x _
set_option maxHeartbeats 1000000 in
theorem lz32_any (x : Int) (w : World) (h0 : 0 ≤ x) (h1 : x ≤ 4294967295) :
    Calls Tryd.prog 95 #[.int .u32 x] w fun e w' => e = .returned (.int .i64 (32 - (Lib.bitLen x.toNat : Int))) ∧ w = w' := by
  have hL := Lib.hid (len32_any x w h0 h1)
  have hle : Lib.bitLen x.toNat ≤ 32 := Lib.bitLen_le _ 32 (by omega) (by omega)
  generalize Lib.bitLen x.toNat = L at *
  go_enter Tryd.func95, Tryd.ntmps95
  go_wp2_with fail
  refine (hL.out).mono ?_; rintro e w' ⟨rfl, rfl⟩
  go_wp2_with fail
  go_ret
  exact ⟨rfl, rfl⟩
end Go.Proofs.YtpfcacjcikhamaaDoor
