/- Layer 12, a seat that has bushelref01 and math/bits but no package nat: layer 2's Nate and Len64. -/
import Derived.Test.YtdnbjaeeebodkaaGreatRows
import Derived.Test.YtdnbjaeeebodkaaGreatRefg
import Derived.Test.YtdnbjaeeebodkaaGreatNatb
import Derived.Shelf.Spec.TrailingZeros
import Derived.Laws.Bits64b
import Derived.Lib.BitFns
import Derived.Lib.Small
import Derived.Lib.Strings
import Derived.Lib.Slices
import Derived.Lib.Walk
import Derived.Deep.QuietTactic
import Derived.BigQuiet
namespace Go.Proofs.YtdnbjaeeebodkaaGreat
set_option maxRecDepth 100000
open Go.RowKit
set_option linter.unusedVariables false
theorem ofInt32_nat (a : Nat) (ha : a < 4294967296) : (BitVec.ofInt 32 (a : Int)).toNat = a := by
  rw [BitVec.ofInt_natCast, BitVec.toNat_ofNat]; exact Nat.mod_eq_of_lt (by omega)
theorem bits_or_u32_nat (a b : Nat) (ha : a < 4294967296) (hb : b < 4294967296) : bits .or .u32 (a : Int) (b : Int) = ((a ||| b : Nat) : Int) := by
  have hx : a ||| b < 2 ^ 32 := Nat.or_lt_two_pow (by omega) (by omega)
  show IntKind.u32.wrap ((BitVec.ofInt 32 (a : Int) ||| BitVec.ofInt 32 (b : Int)).toNat : Int) = _
  rw [BitVec.toNat_or, ofInt32_nat a ha, ofInt32_nat b hb, wrap_u32']
  omega
theorem bits_xor_u32_nat (a b : Nat) (ha : a < 4294967296) (hb : b < 4294967296) : bits .xor .u32 (a : Int) (b : Int) = ((a ^^^ b : Nat) : Int) := by
  have hx : a ^^^ b < 2 ^ 32 := Nat.xor_lt_two_pow (by omega) (by omega)
  show IntKind.u32.wrap ((BitVec.ofInt 32 (a : Int) ^^^ BitVec.ofInt 32 (b : Int)).toNat : Int) = _
  rw [BitVec.toNat_xor, ofInt32_nat a ha, ofInt32_nat b hb, wrap_u32']
  omega
theorem top_bit (v : Nat) (h : v < 4294967296) : v / 2147483648 = (v.testBit 31).toNat := by
  rw [Nat.testBit_eq_decide_div_mod_eq]
  have : v / 2 ^ 31 < 2 := by omega
  by_cases e : v / 2 ^ 31 % 2 = 1
  · simp [e]; omega
  · simp [e]; omega
theorem borrow_bit (X Y D : Nat) (c : Int) (hX : X < 4294967296) (hY : Y < 4294967296) (hD : (D : Int) = ((X : Int) - Y - c) % 4294967296) (c0 : 0 ≤ c) (c1 : c ≤ 1) :
    ((((4294967295 ^^^ X) &&& Y ||| (4294967295 ^^^ (X ^^^ Y)) &&& D : Nat)) : Int) / 2147483648 = -(((X : Int) - Y - c) / 4294967296) := by
  have hlt : ((4294967295 ^^^ X) &&& Y ||| (4294967295 ^^^ (X ^^^ Y)) &&& D) < 4294967296 :=
    Nat.or_lt_two_pow (n := 32) (Nat.and_lt_two_pow _ hY) (Nat.and_lt_two_pow _ (by omega))
  have h := top_bit _ hlt
  have hm : Nat.testBit 4294967295 31 = true := by decide
  rw [Nat.testBit_or, Nat.testBit_and, Nat.testBit_and, Nat.testBit_xor, Nat.testBit_xor, Nat.testBit_xor, hm] at h
  have hx := top_bit X hX
  have hy := top_bit Y hY
  have hd := top_bit D (by omega)
  generalize (4294967295 ^^^ X) &&& Y ||| (4294967295 ^^^ (X ^^^ Y)) &&& D = E at *
  cases ex : X.testBit 31 <;> cases ey : Y.testBit 31 <;> cases ed : D.testBit 31 <;> simp [ex, ey, ed] at h hx hy hd <;> omega
theorem sub_borrow (x y c : Int) (x0 : 0 ≤ x) (x1 : x ≤ 4294967295) (y0 : 0 ≤ y) (y1 : y ≤ 4294967295) (c0 : 0 ≤ c) (c1 : c ≤ 1) :
    bits .or .u32 (bits .and .u32 (bits .xor .u32 IntKind.u32.max x) y) (bits .and .u32 (bits .xor .u32 IntKind.u32.max (bits .xor .u32 x y)) ((x - y - c) % 4294967296)) / 2147483648 = -((x - y - c) / 4294967296) := by
  obtain ⟨X, rfl⟩ := Int.eq_ofNat_of_zero_le x0
  obtain ⟨Y, rfl⟩ := Int.eq_ofNat_of_zero_le y0
  obtain ⟨D, hD⟩ := Int.eq_ofNat_of_zero_le (a := ((X : Int) - Y - c) % 4294967296) (by omega)
  have hm : IntKind.u32.max = ((4294967295 : Nat) : Int) := rfl
  have hX : X < 4294967296 := by omega
  have hY : Y < 4294967296 := by omega
  have k1 : 4294967295 ^^^ X < 4294967296 := Nat.xor_lt_two_pow (n := 32) (by omega) hX
  have k2 : X ^^^ Y < 4294967296 := Nat.xor_lt_two_pow (n := 32) hX hY
  have k3 : 4294967295 ^^^ (X ^^^ Y) < 4294967296 := Nat.xor_lt_two_pow (n := 32) (by omega) k2
  have k4 : (4294967295 ^^^ X) &&& Y < 4294967296 := Nat.and_lt_two_pow (n := 32) _ hY
  have k5 : (4294967295 ^^^ (X ^^^ Y)) &&& D < 4294967296 := Nat.and_lt_two_pow (n := 32) _ (by omega)
  rw [hD, hm, bits_xor_u32_nat _ _ (by omega) hX, bits_and_u32_nat _ _ k1 hY, bits_xor_u32_nat _ _ hX hY, bits_xor_u32_nat _ _ (by omega) k2, bits_and_u32_nat _ _ k3 (by omega), bits_or_u32_nat _ _ k4 k5]
  exact borrow_bit X Y D c hX hY hD.symm c0 c1
theorem or_sum64 (a b k : Nat) (hb : b < 2 ^ k) (h : 2 ^ k * a + b < 18446744073709551616) : bits .or .u64 ((2 ^ k * a : Nat) : Int) (b : Int) = ((2 ^ k * a + b : Nat) : Int) := by
  rw [bits_or_u64_nat _ _ (by omega) (by omega), Nat.two_pow_add_eq_or_of_lt hb]
theorem or_sum32 (a b k : Nat) (hb : b < 2 ^ k) (h : 2 ^ k * a + b < 4294967296) : bits .or .u32 ((2 ^ k * a : Nat) : Int) (b : Int) = ((2 ^ k * a + b : Nat) : Int) := by
  rw [bits_or_u32_nat _ _ (by omega) (by omega), Nat.two_pow_add_eq_or_of_lt hb]
theorem or_sum64' (a b k : Nat) (hb : b < 2 ^ k) (h : 2 ^ k * a + b < 18446744073709551616) : bits .or .u64 (b : Int) ((2 ^ k * a : Nat) : Int) = ((2 ^ k * a + b : Nat) : Int) := by
  rw [bits_or_u64_nat _ _ (by omega) (by omega), Nat.or_comm, Nat.two_pow_add_eq_or_of_lt hb]
theorem or_sum32' (a b k : Nat) (hb : b < 2 ^ k) (h : 2 ^ k * a + b < 4294967296) : bits .or .u32 (b : Int) ((2 ^ k * a : Nat) : Int) = ((2 ^ k * a + b : Nat) : Int) := by
  rw [bits_or_u32_nat _ _ (by omega) (by omega), Nat.or_comm, Nat.two_pow_add_eq_or_of_lt hb]
/-- Two words side by side. -/
theorem or_words (h l : Int) (h0 : 0 ≤ h) (h1 : h ≤ 4294967295) (l0 : 0 ≤ l) (l1 : l ≤ 4294967295) : bits .or .u64 (h * 4294967296) l = h * 4294967296 + l := by
  obtain ⟨H, rfl⟩ := Int.eq_ofNat_of_zero_le h0
  obtain ⟨L, rfl⟩ := Int.eq_ofNat_of_zero_le l0
  have := or_sum64 H L 32 (by omega) (by omega)
  have e : ((2 ^ 32 * H : Nat) : Int) = (H : Int) * 4294967296 := by omega
  rw [e] at this
  rw [this]; omega
theorem or_words' (h l : Int) (h0 : 0 ≤ h) (h1 : h ≤ 4294967295) (l0 : 0 ≤ l) (l1 : l ≤ 4294967295) : bits .or .u64 l (h * 4294967296) = h * 4294967296 + l := by
  obtain ⟨H, rfl⟩ := Int.eq_ofNat_of_zero_le h0
  obtain ⟨L, rfl⟩ := Int.eq_ofNat_of_zero_le l0
  have := or_sum64' H L 32 (by omega) (by omega)
  have e : ((2 ^ 32 * H : Nat) : Int) = (H : Int) * 4294967296 := by omega
  rw [e] at this
  rw [this]; omega
theorem div_word_bounds {h l d : Int} (h0 : 0 ≤ h) (h1 : h < d) (l0 : 0 ≤ l) (l1 : l ≤ 4294967295) (d1 : d ≤ 4294967295) :
    0 ≤ (h * 4294967296 + l) / d ∧ (h * 4294967296 + l) / d ≤ 4294967295 ∧ 0 ≤ (h * 4294967296 + l) % d ∧ (h * 4294967296 + l) % d < d := by
  refine ⟨Int.ediv_nonneg (by omega) (by omega), ?_, Int.emod_nonneg _ (by omega), Int.emod_lt_of_pos _ (by omega)⟩
  have h2 : (h * 4294967296 + l) / d < 4294967296 := Int.ediv_lt_of_lt_mul (by omega) (by
    have : (h + 1) * 4294967296 ≤ d * 4294967296 := Int.mul_le_mul_of_nonneg_right (by omega) (by omega)
    have e : (h + 1) * 4294967296 = h * 4294967296 + 4294967296 := by omega
    rw [Int.mul_comm 4294967296 d]; omega)
  omega
theorem div_ends (h l d : Int) (h0 : 0 ≤ h) (h1 : h < d) (l0 : 0 ≤ l) (l1 : l ≤ 4294967295) (d1 : d ≤ 4294967295) :
    IntKind.u64.wrap ((bits BinOp.or IntKind.u64 (h * 4294967296) l).tdiv d) % 4294967296 = (h * 4294967296 + l) / d ∧ (bits BinOp.or IntKind.u64 (h * 4294967296) l).tmod d % 4294967296 = (h * 4294967296 + l) % d := by
  obtain ⟨q0, q1, r0, r1⟩ := div_word_bounds h0 h1 l0 l1 d1
  rw [or_words h l h0 (by omega) l0 l1, Int.tdiv_eq_ediv_of_nonneg (by omega), Int.tmod_eq_emod_of_nonneg (by omega), IntKind.wrap_u64]
  omega
theorem len8tab_at (j : Nat) (h : j < Lib.len8tab.size) : ((Lib.len8tab[j].toNat : Nat) : Int) = (Lib.bitLen j : Int) := by
  have hs := Lib.len8tab_size
  have e := Lib.len8_of (j : Int) (by omega) (by omega)
  have e2 : ((j : Int)).toNat = j := by omega
  rw [Lib.len8, e2, ByteArray.getElem?_lt' _ _ h] at e
  simpa using e
theorem wrap64_small {n : Int} (h1 : 0 ≤ n) (h2 : n ≤ 255) : wrap64 n = n := wrap64_in (by omega) (by omega)
theorem len_close (x i : Int) (s : Nat) (h : i.toNat < Lib.len8tab.size) (hs : s ≤ 56) (e : Lib.bitLen x.toNat = s + Lib.bitLen i.toNat) : wrap64 ((s : Int) + wrap64 ((Lib.len8tab[i.toNat].toNat : Nat) : Int)) = (Lib.bitLen x.toNat : Int) := by
  have h8 := Lib.bitLen_le8 ⟨i.toNat, by have := Lib.len8tab_size; omega⟩
  simp only at h8
  rw [len8tab_at _ h, wrap64_small (n := (Lib.bitLen i.toNat : Int)) (by omega) (by omega), wrap64_small (by omega) (by omega), e]
  omega
theorem len_close0 (x : Int) (h : x.toNat < Lib.len8tab.size) : wrap64 (wrap64 ((Lib.len8tab[x.toNat].toNat : Nat) : Int)) = (Lib.bitLen x.toNat : Int) := by
  have h8 := Lib.bitLen_le8 ⟨x.toNat, by have := Lib.len8tab_size; omega⟩
  simp only at h8
  rw [len8tab_at _ h, wrap64_small (n := (Lib.bitLen x.toNat : Int)) (by omega) (by omega), wrap64_small (by omega) (by omega)]
set_option maxRecDepth 100000
open Go.RowKit
set_option linter.unusedVariables false
theorem tidy_len_lt {a b : List Int} (ha : Wd a) (hb : Wd b) (ht : Tidy b) (h : a.length < b.length) : wv a < wv b := by
  have h1 := ht.wsize hb (by intro e; subst e; simp at h)
  have h2 := (wv_range ha).2
  have h3 := q_mono (m := a.length) (n := b.length - 1) (by omega)
  omega
/-- A call that leaves the world alone, in a drawn region behind another one. -/
theorem quiet_later {P : Program} {f : FuncId} {args : Array Value} {w : World} {k n : Nat} {v : Value} (h : Calls P f args (w.drewN (k + n)) fun e w' => e = .returned v ∧ w' = w.drewN (k + n)) :
    Calls P f args (w.drewN (k + n)) fun e w' => e = .returned v ∧ ∃ m, w' = w.drewN (k + m) := h.mono fun _ _ q => ⟨q.1, n, q.2⟩
/-- How many bits: of a trim list the number of those of its last word, and 32 for each of the others. -/
def bitsZ (z : Int) : Nat := if z = 0 then 0 else Nat.log2 z.toNat + 1
theorem bitLenAux_log : ∀ f x : Nat, 0 < x → x < 2 ^ f → Lib.bitLenAux f x = Nat.log2 x + 1
  | 0, x, h0, h => by simp at h; omega
  | f + 1, x, h0, h => by
    have hx : x ≠ 0 := by omega
    simp only [Lib.bitLenAux, if_neg hx]
    by_cases h1 : x = 1
    · subst h1
      have : Lib.bitLenAux f (1 / 2) = 0 := by cases f <;> simp [Lib.bitLenAux]
      rw [this]; decide
    · rw [bitLenAux_log f (x / 2) (by omega) (by rw [Nat.pow_succ] at h; omega), Nat.log2_def x, if_pos (by omega)]; omega
theorem bitLen_log (s : Nat) (h0 : 0 < s) (h : s < 18446744073709551616) : Lib.bitLen s = Nat.log2 s + 1 := bitLenAux_log 64 s h0 h
theorem bitsZ_words {x : List Int} (hd : Wd x) {n : Nat} (hl : x.length = n + 1) (h0 : 0 < x.getD n 0) : (n : Int) * 32 + (Lib.bitLen (x.getD n 0).toNat : Int) = bitsZ (wv x) := by
  have h1 := bitLen_log (x.getD n 0).toNat (by omega) (by have := (hd.getD n).2; omega)
  have h2 : wv x = wvN x n + x.getD n 0 * 4294967296 ^ n := by rw [wv, hl]; rfl
  have h3 := wvN_range hd n
  have hp := q_pos n
  have h4 : 0 < x.getD n 0 * 4294967296 ^ n := Int.mul_pos h0 hp
  have hz : wv x ≠ 0 := by omega
  rw [h1, bitsZ, if_neg hz]
  have hb := Nat.log2_lt (n := (x.getD n 0).toNat) (k := Nat.log2 (x.getD n 0).toNat + 1) (by omega)
  have ha := Nat.log2_self_le (n := (x.getD n 0).toNat) (by omega)
  have hb := hb.1 (by omega)
  generalize hs : x.getD n 0 = s at *
  obtain ⟨S, rfl⟩ := Int.eq_ofNat_of_zero_le (Int.le_of_lt h0)
  obtain ⟨R, hR⟩ := Int.eq_ofNat_of_zero_le h3.1
  rw [hR] at h2 h3
  simp only [Int.toNat_natCast] at *
  have hw : (wv x).toNat = R + S * 2 ^ (32 * n) := by
    have e : (4294967296 : Int) ^ n = ((2 ^ (32 * n) : Nat) : Int) := by rw [Nat.pow_mul]; simp
    rw [h2, e, ← Int.natCast_mul, ← Int.natCast_add, Int.toNat_natCast]
  have hR2 : R < 2 ^ (32 * n) := by
    have e : (4294967296 : Int) ^ n = ((2 ^ (32 * n) : Nat) : Int) := by rw [Nat.pow_mul]; simp
    rw [e] at h3; omega
  have key : Nat.log2 (R + S * 2 ^ (32 * n)) = 32 * n + Nat.log2 S := by
    have hS0 : S ≠ 0 := by omega
    have hP : 0 < 2 ^ (32 * n) := Nat.two_pow_pos _
    have hne : R + S * 2 ^ (32 * n) ≠ 0 := by
      have : 0 < S * 2 ^ (32 * n) := Nat.mul_pos (by omega) hP
      omega
    rw [Nat.log2_eq_iff hne, Nat.pow_add, Nat.pow_add, Nat.pow_add, Nat.pow_one]
    rw [Nat.pow_succ] at hb
    have k1 : 2 ^ (32 * n) * 2 ^ Nat.log2 S ≤ 2 ^ (32 * n) * S := Nat.mul_le_mul_left _ ha
    have k2 : 2 ^ (32 * n) * (S + 1) ≤ 2 ^ (32 * n) * (2 ^ Nat.log2 S * 2) := Nat.mul_le_mul_left _ (by omega)
    rw [Nat.mul_comm S, Nat.mul_assoc]
    rw [Nat.mul_add] at k2
    omega
  rw [hw, key]; omega
set_option maxRecDepth 100000
open Go.RowKit
set_option linter.unusedVariables false
def smallB (z : Int) : Bool := decide (z < 18446744073709551616)
theorem smallB_yes {z : Int} (h : z < 18446744073709551616) : smallB z = true := by simp [smallB, h]
theorem smallB_no {z : Int} (h : 18446744073709551616 ≤ z) : smallB z = false := by simp [smallB]; omega
theorem ret_ub {a b : Int} {x y : Bool} (h : a = b) (g : x = y) : Ending.returned (.tuple #[.int .u64 a, .bool x]) = .returned (.tuple #[.int .u64 b, .bool y]) := by rw [h, g]
theorem uint_round {x : List Int} {k : Nat} {z s : Int} (hk : k = 0 ∨ k = 1) (hz : 0 ≤ z ∧ z < 4294967296 ^ k) (s0 : 0 ≤ s) (s1 : s ≤ 4294967295) (hs : z + s * 4294967296 ^ k = wvN x (k + 1)) :
    bits BinOp.or IntKind.u64 z (IntKind.u64.wrap (s * 2 ^ (k * 32))) = wvN x (k + 1) := by
  rw [← hs]
  rcases hk with rfl | rfl
  · have h0 : z = 0 := by have := hz.2; simp at this; omega
    subst h0
    obtain ⟨S, rfl⟩ := Int.eq_ofNat_of_zero_le s0
    have := bits_or_u64_nat 0 S (by omega) (by omega)
    simp only [Nat.zero_or] at this
    simp [IntKind.wrap_u64]
    rw [Int.emod_eq_of_lt (by omega) (by omega)]
    simpa using this
  · have e : (2 : Int) ^ (1 * 32) = 4294967296 := by decide
    rw [e, IntKind.wrap_u64, Int.emod_eq_of_lt (by omega) (by omega)]
    have := hz.2
    simp only [Int.pow_one] at this ⊢
    rw [or_words' s z s0 s1 hz.1 (by omega)]
    omega
theorem own_words2 (x y : Int) (w : World) (B : Nat) (hB : B ≤ w.heap.size) : WRow (w.alloc (.cells #[.int .u32 x, .int .u32 y] 90)) B w.heap.size 2 [x, y] :=
  ⟨by simp, .inr ⟨w.heap.size, 2, #[.int .u32 x, .int .u32 y], rfl, hB, heap_alloc_new w _, by simp, by unfold maxLen; omega, by simp, by simp⟩⟩
set_option maxHeartbeats 1000000 in
set_option maxRecDepth 100000 in
theorem len64_any (x : Int) (w : World) (h0 : 0 ≤ x) (h1 : x ≤ 18446744073709551615) :
    Calls Tryz.prog 113 #[.int .u64 x] w fun e w' => e = .returned (.int .i64 (Lib.bitLen x.toNat)) ∧ w = w' := by
  have hsz := Lib.len8tab_size
  go_enter Tryz.func113, Tryz.ntmps113
  go_wp2
  all_goals (go_ret; refine ⟨ret_int ?_, rfl⟩)
  · exact len_close x _ 56 _ (by decide) ((Lib.bitLen_shift56 x.toNat (by omega) (by omega)).trans (by congr 2; omega))
  · exact len_close x _ 48 _ (by decide) ((Lib.bitLen_shift48 x.toNat (by omega) (by omega)).trans (by congr 2; omega))
  · exact len_close x _ 40 _ (by decide) ((Lib.bitLen_shift40 x.toNat (by omega) (by omega)).trans (by congr 2; omega))
  · exact len_close x _ 32 _ (by decide) ((Lib.bitLen_shift32 x.toNat (by omega) (by omega)).trans (by congr 2; omega))
  · exact len_close x _ 24 _ (by decide) ((Lib.bitLen_shift24 x.toNat (by omega) (by omega)).trans (by congr 2; omega))
  · exact len_close x _ 16 _ (by decide) ((Lib.bitLen_shift16 x.toNat (by omega) (by omega)).trans (by congr 2; omega))
  · exact len_close x _ 8 _ (by decide) ((Lib.bitLen_shift8 x.toNat (by omega) (by omega)).trans (by congr 2; omega))
  · exact len_close0 x _
end Go.Proofs.YtdnbjaeeebodkaaGreat
