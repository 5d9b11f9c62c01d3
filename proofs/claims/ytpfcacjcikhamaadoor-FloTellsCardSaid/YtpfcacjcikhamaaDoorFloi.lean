/- Ranks and keys of floats: what the reference returns. -/
import Derived.Test.YtpfcacjcikhamaaDoorFloh
namespace Go.Proofs.YtpfcacjcikhamaaDoor
set_option maxRecDepth 100000
open Go.RowKit
set_option linter.unusedVariables false
theorem IsSplit.ge {c : Nat} {q m e : Int} (h : IsSplit c q m e) : q ≤ e := by
  obtain ⟨h0, h1, ⟨a, ⟨g1, g2⟩ | ⟨g1, g2⟩⟩, h3⟩ := h
  · omega
  · cases a with
    | zero => omega
    | succ a => rw [Nat.pow_succ, ← Nat.mul_assoc] at g2; omega
theorem rank_bounds {c : Nat} {q z e : Int} (hc : Canon c q) (hq : q ≤ 971) (h0 : c ≠ 0) (hs : SameD z.toNat e c q) : e ≤ 1023 := by
  have h1 := hs.log2 h0
  have h2 := log2_le hc.1
  omega
set_option maxHeartbeats 4000000 in
theorem rrank_any (x : Nat) (w : World) (hx : x ≤ 9218868437227405312) :
    Calls Tryd.prog 77 #[.float .f64 x] w fun e w' => e = .returned (.int .u64 x) ∧ Drawn w w' := by
  have hw : W64 x := by unfold W64; omega
  have hA := Lib.hid (fun w => rkind_any x w hw)
  have hnan : isNaNB x = false := by unfold isNaNB; simp; omega
  have hZ := zero_test x hw
  by_cases hi : x = 9218868437227405312
  · have hk : kindI x = 2 := by unfold kindI; rw [hnan, hi]; rfl
    rw [hk] at hA
    clear hk hZ hnan hx
    subst hi
    go_enter Tryd.func77, Tryd.ntmps77
    go_wp2_with fail
    refine (hA.out _).mono ?_; rintro e w1 ⟨rfl, hd1⟩
    go_wp2_with fail
    go_ret
    exact ⟨rfl, hd1⟩
  · have hinf : isInfB x = false := by unfold isInfB; simp; omega
    by_cases hz : x = 0
    · subst hz
      have hk : kindI 0 = 0 := by decide
      have h2 : isZeroB 0 = true := by decide
      rw [hk] at hA
      rw [h2] at hZ
      clear hk h2 hinf hnan hx hi
      go_enter Tryd.func77, Tryd.ntmps77
      go_wp2_with fail
      refine (hA.out _).mono ?_; rintro e w1 ⟨rfl, hd1⟩
      go_wp2_with fail
      go_ret
      exact ⟨rfl, hd1⟩
    · have h2 : isZeroB x = false := by unfold isZeroB; simp; omega
      have hk : kindI x = 1 := by unfold kindI; rw [hnan, hinf, h2]; rfl
      obtain ⟨c, q, hc, hq, h0, hr⟩ := canon_of_fin (r := x) (by omega) (by omega)
      have HS := Lib.hid (fun w => rsplit_fin x c q w hw hk hc hq h0 (by rw [hr]; omega))
      rw [hk] at hA
      rw [h2] at hZ
      have hC := Lib.hid (And.intro hc (And.intro hq (And.intro h0 hr)))
      clear hk h2 hinf hnan hi hz hc hq h0 hr hw
      go_enter Tryd.func77, Tryd.ntmps77
      go_wp2_with fail
      refine (hA.out _).mono ?_; rintro e w1 ⟨rfl, hd1⟩
      go_wp2_with fail
      refine (HS.out _).mono ?_; rintro e w2 ⟨⟨m, k, hs, rfl⟩, hd2⟩
      have hd := Lib.hid (hd1.trans hd2)
      have hge := hs.ge
      have hmb := hs.2.2.2
      have hm0 := hs.1
      have hs1 := Lib.hid hs.2.2.1
      have hcq := hC.out.1.2.1
      generalize negB x = bb at *
      clear hd1 hd2 hA HS hs hZ
      go_wp2_with fail
      go_loop [4, 5] (fun m i => ∃ z e : Int, m = .int .u64 z ∧ i = .int .i64 e ∧ 0 < z ∧ z < 9007199254740992 ∧ -1074 ≤ e ∧ Hid (SameD z.toNat e c q)) (fun _ i => (intOf i + 1074).toNat)
      case atStart => exact ⟨m, k, rfl, rfl, hm0, hmb, by omega, hs1⟩
      case round =>
        clear hs1 hmb hm0 hge hcq
        obtain ⟨z, e, rfl, rfl, z0, z1, e0, hS⟩ := hrel
        have e1 := rank_bounds hC.out.1 hC.out.2.1 hC.out.2.2.1 hS.out
        by_cases h52 : z < 4503599627370496
        · by_cases he : -1074 < e
          · have hS2 : Hid (SameD (z * 2).toNat (e - 1) c q) := Lib.hid (SameD.trans ⟨1, .inr ⟨by omega, by omega⟩⟩ hS.out)
            clear hS
            go_wp2_with fail
            go_round
            case rel => exact ⟨z * 2, e - 1, rfl, rfl, by omega, by omega, by omega, hS2⟩
            case measure => simp [intOf]; omega
          · have hE := canon_same2 hS.out ⟨by omega, by omega, .inr (by omega)⟩ hC.out.1
            have hE2 : Hid (z = (x : Int)) := Lib.hid (by
              have := hC.out.2.2.2; unfold rungOf at this; omega)
            have he2 : decide (-1074 < e) = false := by simpa using he
            clear hE hS
            go_wp2_with fail
            go_ret
            exact ⟨ret_int hE2.out, hd.out⟩
        · have hE := canon_same2 hS.out ⟨by omega, by omega, .inl (by omega)⟩ hC.out.1
          have hE2 : Hid ((e + 1074) * 4503599627370496 + z = (x : Int)) := Lib.hid (by
            have := hC.out.2.2.2; unfold rungOf at this; omega)
          have he3 : e ≤ 971 := by have := hC.out.2.1; omega
          clear hE hS
          go_wp2_with fail
          go_ret
          exact ⟨ret_int hE2.out, hd.out⟩
set_option maxHeartbeats 1000000 in
theorem rkey_any (x : Nat) (w : World) (hx : W64 x) :
    Calls Tryd.prog 47 #[.float .f64 x] w fun e w' => e = .returned (.int .u64 (keyI x)) ∧ Drawn w w' := by
  have hA := Lib.hid (rkind_any x w hx)
  have hB := Lib.hid (fun w => rbelow_any x w hx)
  have kx := kind_nan x
  have hU := run_neg (P := Tryd.prog) x hx
  rcases key_cases hx with ⟨h1, h2⟩ | ⟨h1, h2, h3, h4, h5, h6, h7⟩ | ⟨h1, h2, h3, h4, h5, h6⟩
  · rw [h1] at kx
    rw [h2]
    generalize kindI x = K at *
    clear h1 h2
    go_enter Tryd.func47, Tryd.ntmps47
    go_wp2_with fail
    refine (hA.out).mono ?_; rintro e w1 ⟨rfl, hd1⟩
    go_wp2_with fail
    go_ret
    exact ⟨rfl, hd1⟩
  · rw [h1] at kx
    rw [h6]
    rw [h3] at hB
    have hf : flipN x = x - 9223372036854775808 := by unfold flipN; rw [if_neg (by omega)]
    rw [hf] at hU
    have hR := Lib.hid (fun w => rrank_any (x - 9223372036854775808) w (by omega))
    have hcst : ((x - 9223372036854775808 : Nat) : Int) = (x : Int) - 9223372036854775808 := by omega
    have hb1 : (0 : Int) ≤ (x : Int) - 9223372036854775808 := by omega
    have hb2 : (x : Int) - 9223372036854775808 ≤ 9218868437227405312 := by omega
    rw [hcst] at hR
    have hE : Hid ((9223372036854775807 : Int) - ((x : Int) - 9223372036854775808) = 18446744073709551615 - x) := Lib.hid (by omega)
    generalize x - 9223372036854775808 = X at *
    generalize (x : Int) - 9223372036854775808 = Y at *
    generalize kindI x = K at *
    clear h1 h2 h3 h4 h5 h6 h7 hf hcst
    go_enter Tryd.func47, Tryd.ntmps47
    go_wp2_with fail
    refine (hA.out).mono ?_; rintro e w1 ⟨rfl, hd1⟩
    go_wp2_with fail
    refine (hB.out _).mono ?_; rintro e w2 ⟨rfl, rfl⟩
    go_wp2_with fail
    refine (hR.out _).mono ?_; rintro e w3 ⟨rfl, hd2⟩
    go_wp2_with fail
    go_ret
    exact ⟨ret_int hE.out, hd1.trans hd2⟩
  · rw [h1] at kx
    rw [h5]
    rw [h3] at hB
    have hR := Lib.hid (fun w => rrank_any x w h4)
    have hb1 : (0 : Int) ≤ (x : Int) := by omega
    have hb2 : (x : Int) ≤ 9218868437227405312 := by omega
    generalize kindI x = K at *
    clear h1 h2 h3 h4 h5 h6 hU
    go_enter Tryd.func47, Tryd.ntmps47
    go_wp2_with fail
    refine (hA.out).mono ?_; rintro e w1 ⟨rfl, hd1⟩
    go_wp2_with fail
    refine (hB.out _).mono ?_; rintro e w2 ⟨rfl, rfl⟩
    go_wp2_with fail
    refine (hR.out _).mono ?_; rintro e w3 ⟨rfl, hd2⟩
    go_wp2_with fail
    go_ret
    exact ⟨ret_int (Int.add_comm _ _), hd1.trans hd2⟩
end Go.Proofs.YtpfcacjcikhamaaDoor
