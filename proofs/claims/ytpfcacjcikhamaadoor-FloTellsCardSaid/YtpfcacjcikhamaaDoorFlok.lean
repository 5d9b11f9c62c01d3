/- A float times a power of two, and a float's sign: what package math returns. -/
import Derived.Test.YtpfcacjcikhamaaDoorFloj
namespace Go.Proofs.YtpfcacjcikhamaaDoor
set_option maxRecDepth 100000
open Go.RowKit
set_option linter.unusedVariables false
theorem copysign_pos (x : Nat) (w : World) (hx : x < 9223372036854775808) :
    Calls Tryd.prog 72 #[.float .f64 x, .float .f64 13830554455654793216] w fun e w' => e = .returned (.float .f64 (x + 9223372036854775808)) ∧ w = w' := by
  have hF := fun x w => fbits x w
  have hG := fun n w => ffrom n w
  have h1 := clr63 (x : Int) (by omega) (by omega)
  rw [show (x : Int) % 9223372036854775808 = x by omega] at h1
  have h2 := sgn63 13830554455654793216 (by omega) (by omega)
  rw [if_neg (by omega)] at h2
  have h3 := or63 (x : Int) (by omega) (by omega)
  go_enter Tryd.func72, Tryd.ntmps72
  go_wp2_with fail
  go_ret
  exact ⟨ret_float (by omega), rfl⟩
theorem ldexp_exp {c d : Nat} {q p k k0 : Int} (hd : 4503599627370496 ≤ d) (hd2 : d < 9007199254740992) (hc0 : c ≠ 0) (hs : SameD d (p + k0) c q) : k + k0 + p + 52 = q + k + c.log2 := by
  have h1 := hs.log2 hc0
  have h2 := log2_le hd2
  have h3 : ¬ d.log2 < 52 := by rw [Nat.log2_lt (by omega)]; omega
  omega
theorem FV.expo {R c : Nat} {q : Int} (h : FV false R c q) (h0 : c ≠ 0) : -1074 ≤ q + c.log2 ∧ q + c.log2 ≤ 1023 := by
  obtain ⟨d, p, h1, h2, h3, -⟩ := h
  have hd : d ≠ 0 := fun e => h0 (h1.zero.2 e)
  have h4 := h1.log2 hd
  have h5 := log2_le h2.1
  have := h2.2.1
  omega
set_option maxHeartbeats 4000000 in
theorem ldexp_fin (c : Nat) (q k : Int) (R : Nat) (w : World) (hc : Canon c q) (hq : q ≤ 971) (h0 : c ≠ 0) (hR : FV false R c (q + k)) (hk0 : -5000 ≤ k) (hk1 : k ≤ 5000) :
    Calls Tryd.prog 100 #[.float .f64 (rungOf c q), .int .i64 k] w fun e w' => e = .returned (.float .f64 R) ∧ w = w' := by
  obtain ⟨t1, t2, t3, t4⟩ := fin_tests hc hq h0
  have hw := (rung_w64 hc hq).1
  have hZ := zero_test _ hw
  have hI := Lib.hid (fun w => isInf_any _ w hw)
  have hN := Lib.hid (fun w => isNaN_any _ w hw)
  rw [t3] at hZ
  rw [t2] at hI
  rw [t1] at hN
  have hM := Lib.hid (fun w => norm_any c q w hc hq h0)
  have hF := fun x w => fbits x w
  have hG := fun n w => ffrom n w
  have hX := hR.expo h0
  clear hw
  generalize rungOf c q = X at *
  clear t1 t2 t3 t4
  go_enter Tryd.func100, Tryd.ntmps100
  go_wp2_with fail
  refine (hI.out _).mono ?_; rintro e w1 ⟨rfl, rfl⟩
  go_wp2_with fail
  refine (hN.out _).mono ?_; rintro e w1 ⟨rfl, rfl⟩
  go_wp2_with fail
  refine (hM.out _).mono ?_; rintro e w1 ⟨⟨d, p, k0, k1, k2, k3, k4, k5, k6, k7, rfl⟩, rfl⟩
  obtain ⟨b1, b2, b3⟩ := frexp_bits k1 k2 k3 k4
  have hb0 : (0 : Int) ≤ (rungOf d p : Int) := by omega
  have hA := low11i (p + 1075) (by omega) (by omega)
  rw [show (p + 1075) % 2048 = p + 1075 by omega] at hA
  have hC := clrExp (rungOf d p : Int) hb0 b3
  rw [b2] at hC
  have hex := ldexp_exp (k := k) (k0 := k0) (p := p) k1 k2 h0 k5
  have hS := Lib.hid (show SameD d (p + k0 + k) c (q + k) from k5.add k)
  rw [← hex] at hX
  obtain ⟨x1, x2⟩ := hX
  clear hex k5
  generalize rungOf d p = Rd at *
  clear hI hN hM hZ b2
  have hRd : FV false R d (k + k0 + p + 52 - 52) := by
    rw [show k + k0 + p + 52 - 52 = p + k0 + k by omega]; exact hR.same hS.out
  have hE : k + k0 + (p + 1075 - 1023) = k + k0 + p + 52 := by omega
  have HE := Lib.hid hE
  clear hE
  go_upto_region 9 with (first | simp only)
  rw [HE.out]
  clear HE hS hR
  generalize k + k0 + p + 52 = E at *
  clear hA b1 b3 hb0 hk0 hk1 hF
  by_cases hden : E < -1022
  · have hcan : Canon d (E + 1) := ⟨k2, by omega, .inl k1⟩
    have h53 : FV false 4368491638549381120 1 (-53) := ⟨4503599627370496, -105, ⟨52, .inl ⟨by decide, by decide⟩⟩, ⟨by decide, by decide, .inl (by decide)⟩, by decide, by decide⟩
    have hop : ∀ t w, (binOp .mul t (.float .f64 4368491638549381120) (.float .f64 (rungOf d (E + 1)))).run Tryd.prog w = .ok (.float .f64 R) w := fun t w => run_float_arith w .mul t .f64 _ _ _ (fv_mul h53 (fvc hcan (by omega)) (by
      rw [Nat.one_mul, show -53 + (E + 1) = E - 52 by omega]; exact hRd))
    have hO := orExp ((d : Int) - 4503599627370496) (E + 53 + 1023).toNat (by omega) (by omega) (by omega)
    rw [Int.toNat_of_nonneg (by omega)] at hO
    rw [show (d : Int) - 4503599627370496 + (E + 53 + 1023) * 4503599627370496 = ((rungOf d (E + 1) : Nat) : Int) by unfold rungOf; omega] at hO
    generalize rungOf d (E + 1) = Y at *
    clear hcan hRd h53
    go_wp2_with (first | simp only [hC] | simp only [hO] | simp only [hop])
    go_ret
    exact ⟨rfl, rfl⟩
  · have hcan : Canon d (E - 52) := ⟨k2, by omega, .inl k1⟩
    have h1 : FV false 4607182418800017408 1 0 := ⟨4503599627370496, -52, ⟨52, .inl ⟨by decide, by decide⟩⟩, ⟨by decide, by decide, .inl (by decide)⟩, by decide, by decide⟩
    have hop : ∀ t w, (binOp .mul t (.float .f64 4607182418800017408) (.float .f64 (rungOf d (E - 52)))).run Tryd.prog w = .ok (.float .f64 R) w := fun t w => run_float_arith w .mul t .f64 _ _ _ (fv_mul h1 (fvc hcan (by omega)) (by
      rw [Nat.one_mul, Int.zero_add]; exact hRd))
    have hO := orExp ((d : Int) - 4503599627370496) (E + 1023).toNat (by omega) (by omega) (by omega)
    rw [Int.toNat_of_nonneg (by omega)] at hO
    rw [show (d : Int) - 4503599627370496 + (E + 1023) * 4503599627370496 = ((rungOf d (E - 52) : Nat) : Int) by unfold rungOf; omega] at hO
    generalize rungOf d (E - 52) = Y at *
    clear hcan hRd h1
    go_wp2_with (first | simp only [hC] | simp only [hO] | simp only [hop])
    go_ret
    exact ⟨rfl, rfl⟩
set_option maxHeartbeats 4000000 in
theorem ldexp_over (c : Nat) (q k : Int) (w : World) (hc : Canon c q) (hq : q ≤ 971) (h0 : c ≠ 0) (hR : 1024 ≤ q + k + c.log2) (hk0 : -5000 ≤ k) (hk1 : k ≤ 5000) :
    Calls Tryd.prog 100 #[.float .f64 (rungOf c q), .int .i64 k] w fun e w' => e = .returned (.float .f64 9218868437227405312) ∧ w = w' := by
  obtain ⟨t1, t2, t3, t4⟩ := fin_tests hc hq h0
  have hw := (rung_w64 hc hq).1
  have hZ := zero_test _ hw
  have hI := Lib.hid (fun w => isInf_any _ w hw)
  have hN := Lib.hid (fun w => isNaN_any _ w hw)
  rw [t3] at hZ
  rw [t2] at hI
  rw [t1] at hN
  have hM := Lib.hid (fun w => norm_any c q w hc hq h0)
  have hF := fun x w => fbits x w
  have HInf := Lib.hid (fun w => finf_any w)
  generalize rungOf c q = X at *
  clear t1 t2 t3 t4 hw
  go_enter Tryd.func100, Tryd.ntmps100
  go_wp2_with fail
  refine (hI.out _).mono ?_; rintro e w1 ⟨rfl, rfl⟩
  go_wp2_with fail
  refine (hN.out _).mono ?_; rintro e w1 ⟨rfl, rfl⟩
  go_wp2_with fail
  refine (hM.out _).mono ?_; rintro e w1 ⟨⟨d, p, k0, k1, k2, k3, k4, k5, k6, k7, rfl⟩, rfl⟩
  obtain ⟨b1, b2, b3⟩ := frexp_bits k1 k2 k3 k4
  have hb0 : (0 : Int) ≤ (rungOf d p : Int) := by omega
  have hA := low11i (p + 1075) (by omega) (by omega)
  rw [show (p + 1075) % 2048 = p + 1075 by omega] at hA
  have hex := ldexp_exp (k := k) (k0 := k0) (p := p) k1 k2 h0 k5
  rw [← hex] at hR
  have hneg := ord_lt (rung_w64 (c := d) (q := p) ⟨k2, k3, .inl k1⟩ k4).2 (y := 0) ⟨by decide, by decide⟩
  rw [skey_pos (by omega), skey_pos (x := 0) (by omega)] at hneg
  have hng : (FloatKind.f64.format.order (rungOf d p) 0 == some .lt) = false := by rw [hneg]; simp
  clear hex k5 hneg
  generalize rungOf d p = Rd at *
  clear hI hN hM hZ b2
  have hE : k + k0 + (p + 1075 - 1023) = k + k0 + p + 52 := by omega
  have HE := Lib.hid hE
  clear hE
  go_upto_region 9 with (first | simp only)
  rw [HE.out]
  clear HE
  generalize k + k0 + p + 52 = E at *
  clear hA b1 b3 hb0 hk0 hk1 hF
  go_wp2_with fail
  refine (HInf.out _).mono ?_; rintro e w1 ⟨rfl, rfl⟩
  go_wp2_with fail
  go_ret
  exact ⟨rfl, rfl⟩
theorem ldexp_zero (k : Int) (w : World) :
    Calls Tryd.prog 100 #[.float .f64 0, .int .i64 k] w fun e w' => e = .returned (.float .f64 0) ∧ w = w' := by
  have h2 : (FloatKind.f64.format.order 0 0 == some .eq) = true := by decide +kernel
  go_enter Tryd.func100, Tryd.ntmps100
  go_wp2_with fail
  go_ret
  exact ⟨rfl, rfl⟩
theorem Ldexp_of (X R : Nat) (k : Int) (w : World) (h : ∀ w, Calls Tryd.prog 100 #[.float .f64 X, .int .i64 k] w fun e w' => e = .returned (.float .f64 R) ∧ w = w') :
    Calls Tryd.prog 90 #[.float .f64 X, .int .i64 k] w fun e w' => e = .returned (.float .f64 R) ∧ w = w' := by
  have H := Lib.hid h
  clear h
  go_enter Tryd.func90, Tryd.ntmps90
  go_wp2_with fail
  refine (H.out _).mono ?_; rintro e w1 ⟨rfl, rfl⟩
  go_wp2_with fail
  go_ret
  exact ⟨rfl, rfl⟩
end Go.Proofs.YtpfcacjcikhamaaDoor
