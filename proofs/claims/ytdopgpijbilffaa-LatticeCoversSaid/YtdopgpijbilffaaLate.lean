/- Layer 17: how many are in a set: the program's Count. -/
import Derived.Test.YtdopgpijbilffaaLatd
import Derived.Lib.Tables
import Derived.Lib.BitFns
namespace Go.Proofs.Ytdopgpijbilffaa
set_option maxRecDepth 100000
open Go.RowKit
set_option linter.unusedVariables false
theorem pop_cnt : ∀ n : Fin 256, Lib.pop8 (n.val : Int) = (cntN 8 n.val : Int) := by decide +kernel
theorem pop_is {n : Nat} (h : n < 256) : Lib.pop8 (n : Int) = (cntN 8 n : Int) := pop_cnt ⟨n, h⟩
theorem and255 (n : Nat) (h : n < 4294967296) : bits .and .u32 (n : Int) 255 = ((n % 256 : Nat) : Int) := by
  rw [u32_and n 255 (by omega) (by omega) (by omega) (by omega)]
  have := Nat.and_two_pow_sub_one_eq_mod n 8
  simp only [Int.toNat_natCast]
  exact congrArg (fun x : Nat => (x : Int)) this
theorem fold_pop17 : ({ data := ((([0, 1, 1, 2, 1, 2, 2, 3, 1, 2, 2, 3, 2, 3, 3, 4, 1, 2, 2, 3, 2, 3, 3, 4, 2, 3, 3, 4, 3, 4, 4, 5, 1, 2, 2, 3, 2, 3, 3, 4, 2, 3, 3, 4, 3, 4, 4, 5, 2, 3, 3, 4, 3, 4, 4, 5, 3, 4, 4, 5, 4, 5, 5, 6] : List UInt8).append [1, 2, 2, 3, 2, 3, 3, 4, 2, 3, 3, 4, 3, 4, 4, 5, 2, 3, 3, 4, 3, 4, 4, 5, 3, 4, 4, 5, 4, 5, 5, 6, 2, 3, 3, 4, 3, 4, 4, 5, 3, 4, 4, 5, 4, 5, 5, 6, 3, 4, 4, 5, 4, 5, 5, 6, 4, 5, 5, 6, 5, 6, 6, 7]).append (([1, 2, 2, 3, 2, 3, 3, 4, 2, 3, 3, 4, 3, 4, 4, 5, 2, 3, 3, 4, 3, 4, 4, 5, 3, 4, 4, 5, 4, 5, 5, 6, 2, 3, 3, 4, 3, 4, 4, 5, 3, 4, 4, 5, 4, 5, 5, 6, 3, 4, 4, 5, 4, 5, 5, 6, 4, 5, 5, 6, 5, 6, 6, 7] : List UInt8).append [2, 3, 3, 4, 3, 4, 4, 5, 3, 4, 4, 5, 4, 5, 5, 6, 3, 4, 4, 5, 4, 5, 5, 6, 4, 5, 5, 6, 5, 6, 6, 7, 3, 4, 4, 5, 4, 5, 5, 6, 4, 5, 5, 6, 5, 6, 6, 7, 4, 5, 5, 6, 5, 6, 6, 7, 5, 6, 6, 7, 6, 7, 7, 8])).toArray } : ByteArray) = Lib.pop8tab := rfl
set_option maxHeartbeats 2000000 in
theorem ones_any (w : World) (a : Nat) (ha : a < 4294967296) :
    Calls Try.prog 23 #[.int .u32 a] w fun e w' => e = .returned (.int .i64 (cntN 32 a : Nat)) ∧ Drew w w' := by
  have HC := Lib.hid (cnt_bytes a)
  have e3 : (a / 16777216 % 256 : Nat) = a / 16777216 := by omega
  have p0 := pop_is (n := a % 256) (by omega)
  have p1 := pop_is (n := a / 256 % 256) (by omega)
  have p2 := pop_is (n := a / 65536 % 256) (by omega)
  have p3 := pop_is (n := a / 16777216) (by omega)
  rw [e3] at HC
  have l0 := cnt_le 8 (a % 256)
  have l1 := cnt_le 8 (a / 256 % 256)
  have l2 := cnt_le 8 (a / 65536 % 256)
  have l3 := cnt_le 8 (a / 16777216)
  have b0 := and255 a ha
  have b1 := and255 (a / 256) (by omega)
  have b2 := and255 (a / 65536) (by omega)
  have q3 : ((a / 16777216 : Nat) : Int) = (a : Int) / 16777216 := by omega
  have q2 : ((a / 65536 : Nat) : Int) = (a : Int) / 65536 := by omega
  have q1 : ((a / 256 : Nat) : Int) = (a : Int) / 256 := by omega
  have m3 : (0 : Int) ≤ (a : Int) / 16777216 := by omega
  have n3 : (a : Int) / 16777216 ≤ 255 := by omega
  have n2 : a / 65536 % 256 ≤ 255 := by omega
  have n1 : a / 256 % 256 ≤ 255 := by omega
  have n0 : a % 256 ≤ 255 := by omega
  rw [q3] at p3
  rw [q2] at b2
  rw [q1] at b1
  clear e3 q1 q2 q3
  generalize cntN 32 a = c at *
  generalize cntN 8 (a % 256) = c0 at *
  generalize cntN 8 (a / 256 % 256) = c1 at *
  generalize cntN 8 (a / 65536 % 256) = c2 at *
  generalize cntN 8 (a / 16777216) = c3 at *
  generalize a / 65536 % 256 = x2 at *
  generalize a / 256 % 256 = x1 at *
  generalize a % 256 = x0 at *
  have k2 : (x2 : Int) ≤ 255 := by omega
  have k1 : (x1 : Int) ≤ 255 := by omega
  have k0 : (x0 : Int) ≤ 255 := by omega
  have hsz := Lib.pop8tab_size
  go_enter Try.func23, Try.ntmps23
  rw [fold_pop17]
  go_upto_region 1 with fail
  go_quiet (fail)
  go_wp2
  go_ret
  refine ⟨ret_int ?_, nq, rfl⟩
  have := HC.out
  omega
set_option maxHeartbeats 1000000 in
theorem pcount_any (w : World) (a : Nat) (ha : a < 4294967296) :
    Calls Try.prog 10 #[.int .u32 a] w fun e w' => e = .returned (.int .i64 (cntN 32 a : Nat)) ∧ Drew w w' := by
  have H := Lib.hid (ones_any w a ha)
  generalize cntN 32 a = c at *
  go_enter Try.func10, Try.ntmps10
  go_wp2_with fail
  refine (H.out).mono ?_; rintro e w1 ⟨rfl, hd⟩
  have HD := Lib.hid hd
  clear hd
  go_wp2_with fail
  go_ret
  exact ⟨rfl, HD.out⟩
/-- The answer of a comparison. -/
def cmp17 (x y : Int) : Int := if x < y then -1 else if y < x then 1 else 0
theorem nanI17_any (w : World) (x : Int) : Calls Try.prog 41 #[.int .i64 x] w fun e w' => e = .returned (.bool false) ∧ w = w' := by
  go_enter Try.func41, Try.ntmps41
  go_wp2_with fail
  go_ret
  exact ⟨rfl, rfl⟩
theorem nanU17_any (w : World) (x : Int) : Calls Try.prog 42 #[.int .u32 x] w fun e w' => e = .returned (.bool false) ∧ w = w' := by
  go_enter Try.func42, Try.ntmps42
  go_wp2_with fail
  go_ret
  exact ⟨rfl, rfl⟩
theorem cmpI17_any (w : World) (x y : Int) : Calls Try.prog 29 #[.int .i64 x, .int .i64 y] w fun e w' => e = .returned (.int .i64 (cmp17 x y)) ∧ w = w' := by
  have H1 := Lib.hid (nanI17_any w x)
  have H2 := Lib.hid (nanI17_any w y)
  have HR := Lib.hid (show (x < y → cmp17 x y = -1) ∧ (¬ x < y → y < x → cmp17 x y = 1) ∧ (¬ x < y → ¬ y < x → cmp17 x y = 0) from by
    unfold cmp17
    exact ⟨fun h => if_pos h, fun h h2 => by rw [if_neg h, if_pos h2], fun h h2 => by rw [if_neg h, if_neg h2]⟩)
  generalize cmp17 x y = R at *
  go_enter Try.func29, Try.ntmps29
  go_wp2_with fail
  refine (H1.out).mono ?_; rintro e w1 ⟨rfl, rfl⟩
  go_wp2_with fail
  refine (H2.out).mono ?_; rintro e w1 ⟨rfl, rfl⟩
  by_cases h1 : x < y
  · have hR := HR.out.1 h1
    subst hR
    go_wp2_with fail
    go_ret
    exact ⟨rfl, rfl⟩
  · by_cases h2 : y < x
    · have hR := HR.out.2.1 (by omega) h2
      subst hR
      go_wp2_with fail
      go_ret
      exact ⟨rfl, rfl⟩
    · have hR := HR.out.2.2 (by omega) (by omega)
      subst hR
      go_wp2_with fail
      go_ret
      exact ⟨rfl, rfl⟩
theorem cmpU17_any (w : World) (x y : Int) : Calls Try.prog 30 #[.int .u32 x, .int .u32 y] w fun e w' => e = .returned (.int .i64 (cmp17 x y)) ∧ w = w' := by
  have H1 := Lib.hid (nanU17_any w x)
  have H2 := Lib.hid (nanU17_any w y)
  have HR := Lib.hid (show (x < y → cmp17 x y = -1) ∧ (¬ x < y → y < x → cmp17 x y = 1) ∧ (¬ x < y → ¬ y < x → cmp17 x y = 0) from by
    unfold cmp17
    exact ⟨fun h => if_pos h, fun h h2 => by rw [if_neg h, if_pos h2], fun h h2 => by rw [if_neg h, if_neg h2]⟩)
  generalize cmp17 x y = R at *
  go_enter Try.func30, Try.ntmps30
  go_wp2_with fail
  refine (H1.out).mono ?_; rintro e w1 ⟨rfl, rfl⟩
  go_wp2_with fail
  refine (H2.out).mono ?_; rintro e w1 ⟨rfl, rfl⟩
  by_cases h1 : x < y
  · have hR := HR.out.1 h1
    subst hR
    go_wp2_with fail
    go_ret
    exact ⟨rfl, rfl⟩
  · by_cases h2 : y < x
    · have hR := HR.out.2.1 (by omega) h2
      subst hR
      go_wp2_with fail
      go_ret
      exact ⟨rfl, rfl⟩
    · have hR := HR.out.2.2 (by omega) (by omega)
      subst hR
      go_wp2_with fail
      go_ret
      exact ⟨rfl, rfl⟩
theorem or17_any (w : World) (g : Nat) (x y : Int) (h0 : w.cell? ⟨g, 0, none⟩ = some (.int .i64 x)) (h1 : w.cell? ⟨g, 1, none⟩ = some (.int .i64 y)) :
    Calls Try.prog 28 #[.slice (some ⟨g, 0, none⟩) 2 2] w fun e w' => e = .returned (.int .i64 (if x = 0 then y else x)) ∧ w = w' := by
  have HR := Lib.hid (show (x ≠ 0 → (if x = 0 then y else x) = x) ∧ (x = 0 → (if x = 0 then y else x) = y) from ⟨fun h => if_neg h, fun h => if_pos h⟩)
  generalize (if x = 0 then y else x) = R at *
  go_enter Try.func28, Try.ntmps28
  go_wp2_with fail
  go_loopw [8] (fun iv wr => ∃ k : Nat, k ≤ 2 ∧ iv = .int .i64 k ∧ Hid ((1 ≤ k → x = 0) ∧ (2 ≤ k → y = 0)) ∧ wr = w) (fun iv _ => 2 - (intOf iv).toNat)
  case atStart => exact ⟨0, by omega, rfl, Lib.hid ⟨fun h => by omega, fun h => by omega⟩, by trivial⟩
  case round =>
    obtain ⟨k, hk, rfl, HJ, rfl⟩ := hrel
    rcases (by omega : k = 0 ∨ k = 1 ∨ k = 2) with rfl | rfl | rfl
    · by_cases hx : x = 0
      · subst hx
        go_wp2_with fail
        go_roundw
        case rel => exact ⟨1, by omega, by go_num, Lib.hid ⟨fun _ => by trivial, fun h => by omega⟩, by trivial⟩
        case measure => simp [intOf]
      · have hR := HR.out.1 hx
        have hx' : (x == 0) = false := by simp [hx]
        subst hR
        go_wp2_with fail
        go_ret
        exact ⟨rfl, rfl⟩
    · have hR := HR.out.2 (HJ.out.1 (by omega))
      subst hR
      by_cases hy : R = 0
      · have HJ2 := Lib.hid (And.intro (HJ.out.1 (by omega)) hy)
        subst hy
        go_wp2_with fail
        go_roundw
        case rel => exact ⟨2, by omega, by go_num, Lib.hid ⟨fun _ => HJ2.out.1, fun _ => by trivial⟩, by trivial⟩
        case measure => simp [intOf]
      · have hy' : (R == 0) = false := by simp [hy]
        go_wp2_with fail
        go_ret
        exact ⟨rfl, rfl⟩
    · have hR := HR.out.2 (HJ.out.1 (by omega))
      have h2 := HJ.out.2 (by omega)
      subst hR
      subst h2
      go_wp2_with fail
      go_ret
      exact ⟨rfl, rfl⟩
end Go.Proofs.Ytdopgpijbilffaa
