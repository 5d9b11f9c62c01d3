/- What Len64 of math/bits and Mul of package whole return. -/
import Derived.Test.YtfaglcfoamfelaaWholeb
import Derived.Lib.BitFns
import Derived.Lib.Small
import Derived.Lib.Strings
import Derived.Lib.Slices
import Derived.Lib.Walk
namespace Go.Proofs.Ytfaglcfoamfelaa
open Go.RowKit
theorem len8tab_at (j : Nat) (h : j < Lib.len8tab.size) : ((Lib.len8tab[j].toNat : Nat) : Int) = (Lib.bitLen j : Int) := by
  have hs := Lib.len8tab_size
  have e := Lib.len8_of (j : Int) (by omega) (by omega)
  have e2 : ((j : Int)).toNat = j := by omega
  rw [Lib.len8, e2, ByteArray.getElem?_lt' _ _ h] at e
  simpa using e
theorem wrap64_small {n : Int} (h1 : 0 ≤ n) (h2 : n ≤ 255) : wrap64 n = n := wrap64_in (by omega) (by omega)
theorem len_close (x i : Int) (s : Nat) (h : i.toNat < Lib.len8tab.size) (hs : s ≤ 56) (e : Lib.bitLen x.toNat = s + Lib.bitLen i.toNat) : wrap64 ((s : Int) + wrap64 ((Lib.len8tab[i.toNat].toNat : Nat) : Int)) = (Lib.bitLen x.toNat : Int) := by
  have h8 := Lib.bitLen_le8 ⟨i.toNat, by have := Lib.len8tab_size; omega⟩
  simp only at h8
  rw [len8tab_at _ h, wrap64_small (n := (Lib.bitLen i.toNat : Int)) (by omega) (by omega), wrap64_small (by omega) (by omega), e]
  omega
theorem len_close0 (x : Int) (h : x.toNat < Lib.len8tab.size) : wrap64 (wrap64 ((Lib.len8tab[x.toNat].toNat : Nat) : Int)) = (Lib.bitLen x.toNat : Int) := by
  have h8 := Lib.bitLen_le8 ⟨x.toNat, by have := Lib.len8tab_size; omega⟩
  simp only at h8
  rw [len8tab_at _ h, wrap64_small (n := (Lib.bitLen x.toNat : Int)) (by omega) (by omega), wrap64_small (by omega) (by omega)]
theorem bitLenAux_lt : ∀ f x : Nat, x < 2 ^ f → x < 2 ^ Lib.bitLenAux f x
  | 0, x, h => by simpa [Lib.bitLenAux] using h
  | f + 1, x, h => by
    by_cases h0 : x = 0
    · subst h0; simp [Lib.bitLenAux]
    · have h1 := bitLenAux_lt f (x / 2) (by rw [Nat.pow_succ] at h; omega)
      simp only [Lib.bitLenAux, if_neg h0]
      rw [Nat.add_comm, Nat.pow_succ]; omega
theorem bitLen_lt (x : Nat) (h : x < 2 ^ 64) : x < 2 ^ Lib.bitLen x := bitLenAux_lt 64 x h
theorem abs_mul_sgn (a b : Int) : sgn (!(decide (a < 0) == decide (b < 0))) ((a.natAbs * b.natAbs : Nat) : Int) = a * b := by
  have h := Int.natAbs_mul a b
  by_cases ha : a < 0 <;> by_cases hb : b < 0
  · have : 0 ≤ a * b := Int.mul_nonneg_of_nonpos_of_nonpos (by omega) (by omega)
    simp [ha, hb, sgn]; rw [← Int.natCast_mul, ← h]; omega
  · have : a * b ≤ 0 := Int.mul_nonpos_of_nonpos_of_nonneg (by omega) (by omega)
    simp [ha, hb, sgn]; rw [← Int.natCast_mul, ← h]; omega
  · have : a * b ≤ 0 := Int.mul_nonpos_of_nonneg_of_nonpos (by omega) (by omega)
    simp [ha, hb, sgn]; rw [← Int.natCast_mul, ← h]; omega
  · have : 0 ≤ a * b := Int.mul_nonneg (by omega) (by omega)
    simp [ha, hb, sgn]; rw [← Int.natCast_mul, ← h]; omega
set_option maxHeartbeats 400000 in
theorem mul_any (a b : Int) (h1 : -9223372036854775808 ≤ a) (h2 : a ≤ 9223372036854775807) (h3 : -9223372036854775808 ≤ b) (h4 : b ≤ 9223372036854775807) (w : World) :
    Calls Try.prog 5 #[.int .i64 a, .int .i64 b] w fun e w' => e = .returned (.tuple #[.int .i64 (clip (a * b)), .bool (fitB (a * b))]) ∧ w = w' := by
  have HA := Lib.hid (abs_any a h1 h2)
  have HB := Lib.hid (abs_any b h3 h4)
  have HM := Lib.hid (mul64_any a.natAbs b.natAbs (by omega) (by omega))
  have hs := abs_mul_sgn a b
  have hab : (a * b).natAbs = a.natAbs * b.natAbs := Int.natAbs_mul a b
  generalize a.natAbs = x at *
  generalize b.natAbs = y at *
  generalize hp : x * y = p at *
  clear hp
  by_cases hz : p / 18446744073709551616 = 0
  · have hlt : p < 18446744073709551616 := by omega
    have hm : p % 18446744073709551616 = p := by omega
    rw [hz, hm] at HM
    have HS := Lib.hid (fun w => hs ▸ signed_any (p : Int) (!(decide (a < 0) == decide (b < 0))) (by omega) (by omega) w)
    clear hs hab hz hm hlt
    go_enter Try.func5, Try.ntmps5
    go_wp2_with fail
    refine (HA.out _).mono ?_; rintro e w' ⟨rfl, rfl⟩
    go_wp2_with fail
    refine (HB.out _).mono ?_; rintro e w' ⟨rfl, rfl⟩
    go_wp2_with fail
    refine (HM.out _).mono ?_; rintro e w' ⟨rfl, rfl⟩
    go_wp2_with fail
    refine (HS.out _).mono ?_; rintro e w' ⟨rfl, rfl⟩
    go_wp2_with fail
    go_ret2
    exact ⟨rfl, rfl⟩
  · have hno : a * b < -9223372036854775808 ∨ 9223372036854775807 < a * b := by omega
    have hq : ¬ ((p / 18446744073709551616 : Nat) : Int) = 0 := by omega
    have HN := Lib.hid hno
    clear hs hab hz hno
    generalize ((p / 18446744073709551616 : Nat) : Int) = q at *
    generalize ((p % 18446744073709551616 : Nat) : Int) = r at *
    go_enter Try.func5, Try.ntmps5
    go_wp2_with fail
    refine (HA.out _).mono ?_; rintro e w' ⟨rfl, rfl⟩
    go_wp2_with fail
    refine (HB.out _).mono ?_; rintro e w' ⟨rfl, rfl⟩
    go_wp2_with fail
    refine (HM.out _).mono ?_; rintro e w' ⟨rfl, rfl⟩
    go_wp2_with fail
    go_ret2
    exact ⟨ret_nofit HN.out rfl rfl, rfl⟩
end Go.Proofs.Ytfaglcfoamfelaa
