/- Layer 17: single sets: both sides' Sub, Count, the reference's In, Two, common. -/
import Derived.Lib.BitFns
import Derived.BigQuiet
import Derived.Deep.QuietTactic
import Derived.Test.YtifbmdophoemjaaLatb
namespace Go.Proofs.Ytifbmdophoemjaa
set_option maxRecDepth 100000
open Go.RowKit
set_option linter.unusedVariables false
def Drew (w w' : World) : Prop := ∃ n, w' = w.drewN n
theorem Drew.refl (w : World) : Drew w w := ⟨0, rfl⟩
theorem Drew.then {a b c : World} (h : Drew a b) (k : Drew b c) : Drew a c := by
  obtain ⟨n, rfl⟩ := h
  obtain ⟨m, rfl⟩ := k
  exact ⟨n + m, by simp [World.drewN, Nat.add_assoc]⟩
theorem Drew.below {a b : World} (h : Drew a b) : Below a.heap.size a b := by
  obtain ⟨n, rfl⟩ := h
  exact below_drewN (Below.refl _ _) n
theorem pow_cast (k : Nat) : ((2 ^ k : Nat) : Int) = 2 ^ k := by rw [Int.natCast_pow]; rfl
theorem pow_le31 {k : Nat} (h : k ≤ 31) : 1 ≤ 2 ^ k ∧ 2 ^ k ≤ 2147483648 := by
  have h1 : (2 : Nat) ^ k ≤ 2 ^ 31 := Nat.pow_le_pow_right (by decide) h
  have h2 : 0 < (2 : Nat) ^ k := Nat.pow_pos (by decide)
  omega
set_option maxHeartbeats 1000000 in
theorem two17_any (w : World) (n : Nat) (hn : n ≤ 31) :
    Calls Try.prog 18 #[.int .i64 n] w fun e w' => e = .returned (.int .u32 ((2 ^ n : Nat) : Int)) ∧ w = w' := by
  have HP := Lib.hid (fun k (h : k ≤ 31) => @pow_le31 k h)
  have HSu := Lib.hid (fun k => Nat.pow_succ (n := 2) (m := k))
  go_enter Try.func18, Try.ntmps18
  go_wp2
  go_loopw [3, 4] (fun x i wr => ∃ k : Nat, k ≤ n ∧ i = .int .i64 k ∧ w = wr ∧ ∃ y : Nat, x = .int .u32 y ∧ 1 ≤ y ∧ y ≤ 2147483648 ∧ Hid (y = 2 ^ k)) (fun _ i _ => n - (intOf i).toNat)
  case atStart => exact ⟨0, Nat.zero_le _, rfl, rfl, 1, rfl, by decide, by decide, Lib.hid rfl⟩
  case round =>
    obtain ⟨k, hk, rfl, rfl, y, rfl, y0, y1, HY⟩ := hrel
    by_cases hlk : k < n
    · have hp := HP.out k (by omega)
      have hp2 := HP.out (k + 1) (by omega)
      rw [HSu.out, ← HY.out] at hp2
      have HY2 := Lib.hid (show 2 * y = 2 ^ (k + 1) by rw [HSu.out, ← HY.out, Nat.mul_comm])
      have i1 : IntKind.u32.wrap (2 * (y : Int)) = ((2 * y : Nat) : Int) := by rw [IntKind.wrap_u32]; omega
      go_wp2
      go_roundw
      case rel => exact ⟨k + 1, by omega, by go_num, by trivial, 2 * y, rfl, by omega, by omega, HY2⟩
      case measure => simp [intOf]; omega
    · have : k = n := by omega
      subst this
      have HE := Lib.hid HY.out
      clear HY
      go_wp2
      go_ret
      rw [HE.out]
      exact ⟨rfl, rfl⟩
theorem test_int (m n : Nat) : decide ((m : Int) / ((2 ^ n : Nat) : Int) % 2 = 1) = m.testBit n := by
  rw [Nat.testBit_eq_decide_div_mod_eq]
  have h : ((m : Int) / ((2 ^ n : Nat) : Int) % 2 = 1) ↔ m / 2 ^ n % 2 = 1 := by omega
  by_cases q : m / 2 ^ n % 2 = 1
  · rw [decide_eq_true q, decide_eq_true (h.2 q)]
  · rw [decide_eq_false q, decide_eq_false (fun x => q (h.1 x))]
set_option maxHeartbeats 1000000 in
theorem in17_any (w : World) (m n : Nat) (hn : n ≤ 31) (hm : m < 4294967296) :
    Calls Try.prog 22 #[.int .u32 m, .int .i64 n] w fun e w' => e = .returned (.bool (m.testBit n)) ∧ w = w' := by
  have HT := Lib.hid (two17_any w n hn)
  have HR := Lib.hid (test_int m n)
  have hp := pow_le31 hn
  generalize hP : 2 ^ n = p at *
  have hd0 : 0 ≤ (m : Int) / (p : Int) := Int.ediv_nonneg (by omega) (by omega)
  have hd1 : (m : Int) / (p : Int) ≤ m := Int.ediv_le_self _ (by omega)
  have hr : ((m : Int) / (p : Int)).tmod 2 = (m : Int) / p % 2 := Int.tmod_eq_emod_of_nonneg hd0
  have hq : (m : Int).tdiv (p : Int) = (m : Int) / p := Int.tdiv_eq_ediv_of_nonneg (by omega)
  generalize m.testBit n = r at *
  clear hP
  go_enter Try.func22, Try.ntmps22
  go_wp2_with fail
  refine (HT.out).mono ?_; rintro e w1 ⟨rfl, rfl⟩
  go_wp2_with fail
  go_ret
  exact ⟨by rw [← HR.out]; rfl, rfl⟩
set_option maxHeartbeats 2000000 in
theorem rsub17_any (w : World) (a b : Nat) (ha : a < 4294967296) (hb : b < 4294967296) :
    Calls Try.prog 19 #[.int .u32 a, .int .u32 b] w fun e w' => e = .returned (.bool (subN a b)) ∧ w = w' := by
  have HA := Lib.hid (fun i (hi : i ≤ 31) => in17_any w a i hi ha)
  have HF := Lib.hid (fun i (hi : i ≤ 31) => in17_any w b i hi hb)
  have HT := Lib.hid (show (∀ k, k < 32 → a.testBit k = true → b.testBit k = true) → subN a b = true from (subN_bits ha).2)
  have HN := Lib.hid (show ∀ k, k < 32 → a.testBit k = true → b.testBit k = false → subN a b = false from fun k hk h1 h2 => by
    by_cases q : subN a b = true
    · have := (subN_bits ha).1 q k hk h1
      rw [h2] at this; cases this
    · exact eq_false_of_ne_true q)
  generalize subN a b = r at *
  go_enter Try.func19, Try.ntmps19
  go_wp2
  go_loopw [5] (fun i wr => ∃ k : Nat, k ≤ 32 ∧ i = .int .i64 k ∧ w = wr ∧ Hid (∀ j, j < k → a.testBit j = true → b.testBit j = true)) (fun i _ => 32 - (intOf i).toNat)
  case atStart => exact ⟨0, Nat.zero_le _, rfl, rfl, Lib.hid (fun j hj => by omega)⟩
  case round =>
    obtain ⟨k, hk, rfl, rfl, HJ⟩ := hrel
    by_cases hlk : k < 32
    · have hlk' : (k : Int) < 32 := by omega
      have HAk := Lib.hid (HA.out k (by omega))
      have HFk := Lib.hid (HF.out k (by omega))
      by_cases h1 : a.testBit k = true
      · rw [h1] at HAk
        by_cases h2 : b.testBit k = true
        · rw [h2] at HFk
          have HJ2 := Lib.hid (show ∀ j, j < k + 1 → a.testBit j = true → b.testBit j = true from fun j hj hb => if e : j = k then e ▸ h2 else HJ.out j (by omega) hb)
          clear h1 h2
          go_wp2_with fail
          refine (HAk.out).mono ?_; rintro e w1 ⟨rfl, rfl⟩
          go_wp2_with fail
          refine (HFk.out).mono ?_; rintro e w1 ⟨rfl, rfl⟩
          go_wp2_with fail
          go_roundw
          case rel => exact ⟨k + 1, by omega, by go_num, by trivial, HJ2⟩
          case measure => simp [intOf]; omega
        · have hR := HN.out k hlk h1 (eq_false_of_ne_true h2)
          subst hR
          rw [eq_false_of_ne_true h2] at HFk
          clear h1 h2
          go_wp2_with fail
          refine (HAk.out).mono ?_; rintro e w1 ⟨rfl, rfl⟩
          go_wp2_with fail
          refine (HFk.out).mono ?_; rintro e w1 ⟨rfl, rfl⟩
          go_wp2_with fail
          go_ret
          exact ⟨rfl, rfl⟩
      · rw [eq_false_of_ne_true h1] at HAk
        have HJ2 := Lib.hid (show ∀ j, j < k + 1 → a.testBit j = true → b.testBit j = true from fun j hj hb => if e : j = k then absurd (e ▸ hb) h1 else HJ.out j (by omega) hb)
        clear h1
        go_wp2_with fail
        refine (HAk.out).mono ?_; rintro e w1 ⟨rfl, rfl⟩
        go_wp2_with fail
        go_roundw
        case rel => exact ⟨k + 1, by omega, by go_num, by trivial, HJ2⟩
        case measure => simp [intOf]; omega
    · have : k = 32 := by omega
      subst this
      have hR := HT.out HJ.out
      subst hR
      clear HJ HN
      go_wp2_with fail
      go_ret
      exact ⟨rfl, rfl⟩
/-- What two sets have in common, of the first k. -/
theorem and_next (a b k : Nat) : (a &&& b) % 2 ^ (k + 1) = (a &&& b) % 2 ^ k + (if a.testBit k = true ∧ b.testBit k = true then 2 ^ k else 0) := by
  have h := Nat.mod_mul (x := a &&& b) (a := 2 ^ k) (b := 2)
  rw [Nat.pow_succ, h, bit_test, Nat.testBit_and]
  cases a.testBit k <;> cases b.testBit k <;> simp
theorem andNot_sub {a b : Nat} (ha : a < 4294967296) (hb : b < 4294967296) : (bits .andNot .u32 (a : Int) (b : Int) == 0) = subN a b := by
  rw [u32_andNot a b (by omega) (by omega) (by omega) (by omega)]
  simp only [Int.toNat_natCast]
  have hk : ∀ k, (a &&& (4294967295 - b)).testBit k = (a.testBit k && !b.testBit k) := fun k => by
    rw [Nat.testBit_and, show 4294967295 - b = 2 ^ 32 - (b + 1) by omega, Nat.testBit_two_pow_sub_succ (by omega)]
    by_cases h : k < 32
    · simp [h]
    · rw [high_bit ha (by omega)]; simp
  by_cases hs : subN a b = true
  · have h := subN_iff.1 hs
    have e : a &&& (4294967295 - b) = 0 := Nat.eq_of_testBit_eq fun k => by
      rw [hk, Nat.zero_testBit]
      by_cases q : a.testBit k = true
      · have := congrArg (fun x => x.testBit k) h
        simp only [Nat.testBit_and, q, Bool.true_and] at this
        rw [this]; simp
      · rw [eq_false_of_ne_true q]; simp
    rw [e, hs]; rfl
  · have e : a &&& (4294967295 - b) ≠ 0 := fun e => hs ((subN_bits ha).2 fun k _ q => by
      have := hk k
      rw [e, Nat.zero_testBit, q] at this
      simpa using this.symm)
    rw [eq_false_of_ne_true hs]
    simp only [beq_eq_false_iff_ne]
    omega
set_option maxHeartbeats 1000000 in
theorem psub_any (w : World) (a b : Nat) (ha : a < 4294967296) (hb : b < 4294967296) :
    Calls Try.prog 21 #[.int .u32 a, .int .u32 b] w fun e w' => e = .returned (.bool (subN a b)) ∧ w = w' := by
  have h := andNot_sub ha hb
  generalize subN a b = r at *
  go_enter Try.func21, Try.ntmps21
  go_wp2
  go_ret
  exact ⟨rfl, rfl⟩
end Go.Proofs.Ytifbmdophoemjaa
