/- What Root of package whole returns. -/
import Derived.Test.YtbpdgbahallgoaaWholed
import Derived.Laws.ShiftsVarLaws
namespace Go.Proofs.Ytbpdgbahallgoaa
open Go.RowKit
/-- The answer to a number's root. -/
def RootOf (a : Int) (w : World) (e : Ending) (w' : World) : Prop := ∃ r : Int, e = .returned (.tuple #[.int .i64 r, .bool true]) ∧ 0 ≤ r ∧ r ≤ 4294967295 ∧ r * r ≤ a ∧ a < (r + 1) * (r + 1) ∧ w = w'
theorem root_none (a : Int) (h : a < 0) (w : World) : Calls Try.prog 27 #[.int .i64 a] w fun e w' => e = .returned (.tuple #[.int .i64 0, .bool false]) ∧ w = w' := by
  go_enter Try.func27, Try.ntmps27
  go_wp2
  go_ret2
  exact ⟨rfl, rfl⟩
def RootRel (a : Nat) (k : Nat) (r : Nat) : Prop := r * r ≤ a ∧ a < (r + 2 ^ (32 - k)) * (r + 2 ^ (32 - k)) ∧ r % 2 ^ (32 - k) = 0 ∧ r < 2 ^ 32
theorem RootRel.start {a : Nat} (h : a < 18446744073709551616) : RootRel a 0 0 := ⟨by omega, by simpa using h, by simp, by decide⟩
theorem pow31 (k : Nat) : 2 ^ (31 - k) ≤ 2147483648 := Nat.pow_le_pow_right (n := 2) (by omega) (show 31 - k ≤ 31 by omega)
/-- The next candidate: one bit more. -/
theorem RootRel.next {a k q : Nat} (h : RootRel a k q) (hk : k < 32) :
    bits BinOp.or IntKind.u64 (q : Int) (IntKind.u64.wrap (2 ^ (31 - k))) = ((q + 2 ^ (31 - k) : Nat) : Int) ∧ q + 2 ^ (31 - k) < 4294967296 ∧
    ((q + 2 ^ (31 - k)) * (q + 2 ^ (31 - k)) ≤ a → RootRel a (k + 1) (q + 2 ^ (31 - k))) ∧ (¬ (q + 2 ^ (31 - k)) * (q + 2 ^ (31 - k)) ≤ a → RootRel a (k + 1) q) := by
  obtain ⟨h1, h2, h3, h4⟩ := h
  have e1 : 32 - k = (31 - k) + 1 := by omega
  have e2 : 32 - (k + 1) = 31 - k := by omega
  have hp := pow31 k
  have hpos : 0 < 2 ^ (31 - k) := Nat.two_pow_pos _
  have hj : q ||| 2 ^ (31 - k) = q + 2 ^ (31 - k) := nat_join (32 - k) q _ h3 (by rw [e1, Nat.pow_succ]; omega)
  have hdvd : 2 ^ (32 - k) ∣ 4294967296 := by
    have : (4294967296 : Nat) = 2 ^ 32 := by decide
    rw [this]; exact Nat.pow_dvd_pow 2 (by omega)
  have hq : q + 2 ^ (32 - k) ≤ 4294967296 := by
    obtain ⟨c, hc⟩ := hdvd
    obtain ⟨d, hd⟩ := Nat.dvd_of_mod_eq_zero h3
    have hlt : d < c := by
      have : 2 ^ (32 - k) * d < 2 ^ (32 - k) * c := by rw [← hd, ← hc]; exact h4
      exact Nat.lt_of_mul_lt_mul_left this
    have : 2 ^ (32 - k) * (d + 1) ≤ 2 ^ (32 - k) * c := Nat.mul_le_mul_left _ hlt
    rw [Nat.mul_succ, ← hd, ← hc] at this
    exact this
  have hp2 : 2 ^ (32 - k) = 2 * 2 ^ (31 - k) := by rw [e1, Nat.pow_succ]; omega
  have hm2 : q % 2 ^ (31 - k) = 0 := by
    obtain ⟨d, hd⟩ := Nat.dvd_of_mod_eq_zero h3
    rw [hd, hp2, Nat.mul_comm 2, Nat.mul_assoc]; exact Nat.mul_mod_right _ _
  refine ⟨?_, by omega, ?_, ?_⟩
  · have e3 : IntKind.u64.wrap (2 ^ (31 - k)) = ((2 ^ (31 - k) : Nat) : Int) := by
      have : (2 : Int) ^ (31 - k) = ((2 ^ (31 - k) : Nat) : Int) := by rw [Int.natCast_pow]; rfl
      rw [this, IntKind.wrap_u64]
      generalize 2 ^ (31 - k) = z at *
      omega
    rw [e3]
    refine Eq.trans (bits_or_u64_nat q (2 ^ (31 - k)) (by omega) (by omega)) ?_
    rw [hj]
  · intro hle
    refine ⟨hle, ?_, ?_, by omega⟩
    · rw [e2, Nat.add_assoc, ← Nat.two_mul, ← hp2]; exact h2
    · rw [e2, Nat.add_mod_right]; exact hm2
  · intro hgt
    exact ⟨h1, by rw [e2]; omega, by rw [e2]; exact hm2, h4⟩
theorem RootRel.stop {a r : Nat} (h : RootRel a 32 r) : r * r ≤ a ∧ a < (r + 1) * (r + 1) ∧ r ≤ 4294967295 := by
  obtain ⟨h1, h2, h3, h4⟩ := h
  exact ⟨h1, by simpa using h2, by omega⟩
theorem sq_wrap (m : Nat) (h : m < 4294967296) : IntKind.u64.wrap ((m : Int) * (m : Int)) = (m : Int) * (m : Int) := by
  have h2 : m * m ≤ 4294967295 * 4294967295 := Nat.mul_le_mul (by omega) (by omega)
  rw [← Int.natCast_mul, IntKind.wrap_u64]; omega
set_option maxHeartbeats 1000000 in
theorem root_any (a : Int) (h0 : 0 ≤ a) (h1 : a ≤ 9223372036854775807) (w : World) :
    Calls Try.prog 27 #[.int .i64 a] w (RootOf a w) := by
  obtain ⟨A, rfl⟩ := Int.eq_ofNat_of_zero_le h0
  go_enter Try.func27, Try.ntmps27
  go_wp2_with fail
  go_loop [4, 9] (fun r i => ∃ (k q : Nat), k ≤ 32 ∧ i = .int .i64 k ∧ r = .int .u64 q ∧ Hid (RootRel A k q)) (fun _ i => 32 - (intOf i).toNat)
  case atStart => exact ⟨0, 0, Nat.zero_le _, rfl, rfl, Lib.hid (RootRel.start (by omega))⟩
  case round =>
    obtain ⟨k, q, hk, rfl, rfl, hR⟩ := hrel
    by_cases hlt : k < 32
    · obtain ⟨hor, hlt2, hy, hn⟩ := hR.out.next hlt
      have HY := Lib.hid hy
      have HN := Lib.hid hn
      clear hy hn
      generalize q + 2 ^ (31 - k) = m at *
      have hsq := sq_wrap m hlt2
      by_cases hm : m * m ≤ A
      · have hm2 : (m : Int) * (m : Int) ≤ (A : Int) := by rw [← Int.natCast_mul]; omega
        have HR2 := Lib.hid (HY.out hm)
        clear HY HN hR hm
        go_wp2_with fail
        go_round
        case rel => exact ⟨k + 1, m, by omega, by go_num, rfl, HR2⟩
        case measure => simp [intOf]; omega
      · have hm2 : ¬ (m : Int) * (m : Int) ≤ (A : Int) := by rw [← Int.natCast_mul]; omega
        have HR2 := Lib.hid (HN.out hm)
        clear HY HN hR hm
        go_wp2_with fail
        go_round
        case rel => exact ⟨k + 1, q, by omega, by go_num, rfl, HR2⟩
        case measure => simp [intOf]; omega
    · obtain rfl : k = 32 := by omega
      obtain ⟨s1, s2, s3⟩ := hR.out.stop
      have H1 := Lib.hid s1
      have H2 := Lib.hid s2
      clear hR s1 s2
      go_wp2_with fail
      go_ret2
      exact ⟨q, rfl, by omega, by omega, by rw [← Int.natCast_mul]; have := H1.out; omega, by have := H2.out; rw [show ((q : Int) + 1) = ((q + 1 : Nat) : Int) from by omega, ← Int.natCast_mul]; omega, rfl⟩
end Go.Proofs.Ytbpdgbahallgoaa
