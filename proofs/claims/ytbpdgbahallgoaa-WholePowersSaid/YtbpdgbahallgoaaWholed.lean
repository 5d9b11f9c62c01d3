/- What Pow and Root of package whole return. -/
import Derived.Test.YtbpdgbahallgoaaWholec
namespace Go.Proofs.Ytbpdgbahallgoaa
open Go.RowKit
def NoFit (z : Int) : Prop := z < -9223372036854775808 ∨ 9223372036854775807 < z
theorem nofit_iff {z : Int} : fitB z = false ↔ NoFit z := by
  unfold NoFit
  constructor
  · intro h
    by_cases h2 : -9223372036854775808 ≤ z ∧ z ≤ 9223372036854775807
    · rw [fitB_yes h2.1 h2.2] at h; cases h
    · omega
  · exact fitB_no
theorem pow_small {a m : Nat} (h : a ≤ 1) : a ^ m ≤ 1 := by
  have : a = 0 ∨ a = 1 := by omega
  rcases this with rfl | rfl
  · cases m <;> simp
  · simp
theorem nofit_up {a : Int} {m n : Nat} (hmn : m ≤ n) (h : NoFit (a ^ m)) : NoFit (a ^ n) := by
  by_cases e : m = n
  · subst e; exact h
  · unfold NoFit at h ⊢
    have h1 : (a ^ m).natAbs = a.natAbs ^ m := Int.natAbs_pow a m
    have h2 : (a ^ n).natAbs = a.natAbs ^ n := Int.natAbs_pow a n
    have h3 : 2 ≤ a.natAbs := by
      by_cases h4 : 2 ≤ a.natAbs
      · exact h4
      · have := pow_small (a := a.natAbs) (m := m) (by omega)
        omega
    have h5 : a.natAbs ^ (m + 1) ≤ a.natAbs ^ n := Nat.pow_le_pow_right (by omega) (by omega)
    have h6 : a.natAbs ^ m * 2 ≤ a.natAbs ^ m * a.natAbs := Nat.mul_le_mul_left _ h3
    rw [Nat.pow_succ] at h5
    omega
/-- The exponent's upper bits, one more. -/
theorem half_up (N s : Nat) : N / 2 ^ s = 2 * (N / 2 ^ (s + 1)) + N / 2 ^ s % 2 := by
  rw [Nat.pow_succ, ← Nat.div_div_eq_div_mul]; omega
theorem pow_double (a : Int) (e : Nat) : a ^ e * a ^ e = a ^ (2 * e) := by rw [← Int.pow_add]; congr 1; omega
theorem pow_even {a p : Int} {N s : Nat} (hp : p = a ^ (N / 2 ^ (s + 1))) (hb : N / 2 ^ s % 2 = 0) : p * p = a ^ (N / 2 ^ s) := by
  rw [hp, pow_double, half_up N s, hb]; rfl
theorem pow_odd {a p : Int} {N s : Nat} (hp : p = a ^ (N / 2 ^ (s + 1))) (hb : N / 2 ^ s % 2 = 1) : p * p * a = a ^ (N / 2 ^ s) := by
  rw [hp, pow_double, half_up N s, hb, Int.pow_succ]
theorem pow_part (a p : Int) (N s : Nat) (hp : p = a ^ (N / 2 ^ (s + 1))) : NoFit (p * p) → NoFit (a ^ N) := fun h => by
  rw [hp, pow_double] at h
  refine nofit_up ?_ h
  have h1 := half_up N s
  have h2 := Nat.div_le_self N (2 ^ s)
  omega
theorem pow_part2 (a : Int) (N s : Nat) : NoFit (a ^ (N / 2 ^ s)) → NoFit (a ^ N) := nofit_up (Nat.div_le_self _ _)
theorem fit_cases (z : Int) : (fitB z = true ∧ clip z = z ∧ -9223372036854775808 ≤ z ∧ z ≤ 9223372036854775807) ∨ (fitB z = false ∧ NoFit z) := by
  by_cases h : -9223372036854775808 ≤ z ∧ z ≤ 9223372036854775807
  · exact .inl ⟨fitB_yes h.1 h.2, clip_yes h.1 h.2, h.1, h.2⟩
  · exact .inr ⟨fitB_no (by omega), by unfold NoFit; omega⟩
theorem bit_test (N t : Nat) (h : N < 18446744073709551616) : bits BinOp.and IntKind.u64 ((N : Int) / 2 ^ t) 1 = ((N / 2 ^ t % 2 : Nat) : Int) := by
  have e : (N : Int) / 2 ^ t = ((N / 2 ^ t : Nat) : Int) := by rw [Int.natCast_ediv, Int.natCast_pow]; rfl
  have h2 : N / 2 ^ t ≤ N := Nat.div_le_self _ _
  have h3 := bits_and_u64_nat (N / 2 ^ t) 1 (by omega) (by omega)
  rw [e]
  refine Eq.trans (by exact h3) ?_
  rw [Nat.and_one_is_mod]
set_option maxHeartbeats 1000000 in
theorem pow_any (a n : Int) (h1 : -9223372036854775808 ≤ a) (h2 : a ≤ 9223372036854775807) (h3 : 0 ≤ n) (h4 : n ≤ 9223372036854775807) (w : World) :
    Calls Try.prog 26 #[.int .i64 a, .int .i64 n] w fun e w' => e = .returned (.tuple #[.int .i64 (clip (a ^ n.toNat)), .bool (fitB (a ^ n.toNat))]) ∧ w = w' := by
  obtain ⟨N, rfl⟩ := Int.eq_ofNat_of_zero_le h3
  have HL := Lib.hid (len64_any (N : Int) · h3 (by omega))
  simp only [Int.toNat_natCast] at HL ⊢
  have hlt : Hid (N < 2 ^ Lib.bitLen N) := Lib.hid (bitLen_lt N (by omega))
  have hle : Lib.bitLen N ≤ 63 := Lib.bitLen_le N 63 (by omega) (by omega)
  generalize Lib.bitLen N = L at *
  have HM := Lib.hid (fun (x y : Int) (w : World) (q1 : -9223372036854775808 ≤ x) (q2 : x ≤ 9223372036854775807) (q3 : -9223372036854775808 ≤ y) (q4 : y ≤ 9223372036854775807) => mul_any x y q1 q2 q3 q4 w)
  go_enter Try.func26, Try.ntmps26
  go_wp2_with fail
  refine (HL.out _).mono ?_; rintro e w' ⟨rfl, rfl⟩
  go_wp2_with fail
  go_loop [6, 18] (fun p i => ∃ (k : Nat) (z : Int), k ≤ L ∧ i = .int .i64 k ∧ p = .int .i64 z ∧ -9223372036854775808 ≤ z ∧ z ≤ 9223372036854775807 ∧ Hid (z = a ^ (N / 2 ^ (L - k)))) (fun _ i => L - (intOf i).toNat)
  case atStart => exact ⟨0, 1, Nat.zero_le _, rfl, rfl, by omega, by omega, Lib.hid (by have := hlt.out; rw [Nat.sub_zero, Nat.div_eq_of_lt this]; simp)⟩
  case round =>
    obtain ⟨k, z, hk, rfl, rfl, z1, z2, hz⟩ := hrel
    clear hlt HL
    by_cases hkl : k < L
    · obtain ⟨s, hs⟩ : ∃ s, L = k + s + 1 := ⟨L - k - 1, by omega⟩
      have hz2 : Hid (z = a ^ (N / 2 ^ (s + 1))) := Lib.hid (by have := hz.out; rwa [show L - k = s + 1 from by omega] at this)
      have HQ := Lib.hid (pow_part a z N s hz2.out)
      have HE := Lib.hid (fun h => pow_even hz2.out (s := s) h)
      have HO := Lib.hid (fun h => pow_odd hz2.out (s := s) h)
      have HR := Lib.hid (pow_part2 a N s)
      have hHs := Lib.hid hs
      clear hz hz2 hs
      have hst : L - 1 - k = s := by have := hHs.out; omega
      have hbit := bit_test N s (by omega)
      rw [← hst] at hbit
      have HB := Lib.hid (by rw [hst] : N / 2 ^ (L - 1 - k) % 2 = N / 2 ^ s % 2)
      clear hst
      rcases fit_cases (z * z) with ⟨e1, e2, q1, q2⟩ | ⟨e1, e2⟩
      · have HZ := Lib.hid (fun w => HM.out z z w z1 z2 z1 z2)
        rw [e1, e2] at HZ
        clear e1 e2
        have hb01 : N / 2 ^ (L - 1 - k) % 2 = 0 ∨ N / 2 ^ (L - 1 - k) % 2 = 1 := by omega
        rcases hb01 with hb | hb
        · have ht : (bits BinOp.and IntKind.u64 ((N : Int) / 2 ^ (L - 1 - k)) 1 == 0) = true := by rw [hbit, hb]; rfl
          have HX := Lib.hid (HE.out (by rw [← HB.out, hb]))
          clear hbit hb HE HO HQ HR HB
          generalize z * z = y at *
          go_wp2_with fail
          refine (HZ.out _).mono ?_; rintro e w' ⟨rfl, rfl⟩
          go_wp2_with fail
          go_round
          case rel => exact ⟨k + 1, y, by omega, by go_num, rfl, q1, q2, Lib.hid (by rw [show L - (k + 1) = s from by have := hHs.out; omega]; exact HX.out)⟩
          case measure => simp [intOf]; omega
        · have ht : (bits BinOp.and IntKind.u64 ((N : Int) / 2 ^ (L - 1 - k)) 1 == 0) = false := by rw [hbit, hb]; rfl
          have HX := Lib.hid (HO.out (by rw [← HB.out, hb]))
          clear hbit hb HE HO HQ HB
          generalize z * z = y at *
          have HW := Lib.hid (fun w => HM.out y a w q1 q2 h1 h2)
          rcases fit_cases (y * a) with ⟨e1, e2, r1, r2⟩ | ⟨e1, e2⟩
          · rw [e1, e2] at HW
            clear e1 e2 HR
            generalize y * a = x at *
            go_wp2_with fail
            refine (HZ.out _).mono ?_; rintro e w' ⟨rfl, rfl⟩
            go_wp2_with fail
            refine (HW.out _).mono ?_; rintro e w' ⟨rfl, rfl⟩
            go_wp2_with fail
            go_round
            case rel => exact ⟨k + 1, x, by omega, by go_num, rfl, r1, r2, Lib.hid (by rw [show L - (k + 1) = s from by have := hHs.out; omega]; exact HX.out)⟩
            case measure => simp [intOf]; omega
          · have HN := Lib.hid (HR.out (by rw [← HX.out]; exact e2))
            rw [e1] at HW
            clear e1 e2 HR
            generalize clip (y * a) = x at *
            go_wp2_with fail
            refine (HZ.out _).mono ?_; rintro e w' ⟨rfl, rfl⟩
            go_wp2_with fail
            refine (HW.out _).mono ?_; rintro e w' ⟨rfl, rfl⟩
            go_wp2_with fail
            go_ret2
            exact ⟨ret_nofit HN.out rfl rfl, rfl⟩
      · have HZ := Lib.hid (fun w => HM.out z z w z1 z2 z1 z2)
        rw [e1] at HZ
        have HN := Lib.hid (HQ.out e2)
        clear e1 e2 HE HO HQ HR HB hbit
        generalize clip (z * z) = y at *
        go_wp2_with fail
        refine (HZ.out _).mono ?_; rintro e w' ⟨rfl, rfl⟩
        go_wp2_with fail
        go_ret2
        exact ⟨ret_nofit HN.out rfl rfl, rfl⟩
    · have hE : Hid (z = a ^ N) := Lib.hid (by have := hz.out; rwa [show L - k = 0 from by omega, Nat.pow_zero, Nat.div_one] at this)
      clear hz HM
      go_wp2_with fail
      go_ret2
      exact ⟨by rw [← hE.out]; exact ret_fit z1 z2 rfl rfl, rfl⟩
end Go.Proofs.Ytbpdgbahallgoaa
