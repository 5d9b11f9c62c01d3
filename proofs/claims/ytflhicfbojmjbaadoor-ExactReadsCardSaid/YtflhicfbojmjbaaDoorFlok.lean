/- A float times a power of two, and a float's sign: what package math returns. -/
import Derived.Test.YtflhicfbojmjbaaDoorFloi
import Derived.Test.YtflhicfbojmjbaaDoorNatf
namespace Go.Proofs.YtflhicfbojmjbaaDoor
set_option maxRecDepth 100000
open Go.RowKit
set_option linter.unusedVariables false
def Tab64 (w : World) : Prop := TabAt 2 Lib.deBruijn64tab w
theorem Tab64.call {w w' : World} (h : Tab64 w) (hb : Below w.heap.size w w') : Tab64 w' := fun j hj => cell_later hb (h j hj)
set_option maxHeartbeats 1000000 in
theorem tz64_core (x k idx : Nat) (w : World) (hx0 : ((x : Int) == 0) = false)
    (key : IntKind.u64.wrap (bits BinOp.and IntKind.u64 (x : Int) (IntKind.u64.wrap (-(x : Int))) * 285870213051353865) / 288230376151711744 = (idx : Int))
    (hi : idx < 64) (hk : k < 64) (hcell : w.cell? ⟨2, idx, none⟩ = some (.int .u8 k)) :
    Calls Tryd.prog 77 #[.int .u64 x] w fun e w' => e = .returned (.int .i64 k) ∧ w = w' := by
  go_enter Tryd.func77, Tryd.ntmps77
  go_wp2_with (simp only [key])
  go_ret
  exact ⟨rfl, rfl⟩
theorem tz64_any (x : Nat) (hx : x < 18446744073709551616) (hx0 : x ≠ 0) (w : World) (hT : Tab64 w) :
    Calls Tryd.prog 77 #[.int .u64 x] w fun e w' => e = .returned (.int .i64 (Lib.ctz 64 x)) ∧ w = w' := by
  obtain ⟨hlow, hk⟩ := Lib.lowest_bit 64 x hx0 hx
  obtain ⟨hi, htab⟩ := Lib.deBruijn64_at _ hk
  have hcell := hT _ hi
  rw [htab] at hcell
  exact tz64_core x _ _ w (by simp; omega) (tz64_key x _ hx hx0 hlow) hi hk hcell
def NormPost (c : Nat) (q : Int) (w : World) (e : Ending) (w' : World) : Prop := (∃ (d : Nat) (p k : Int), 4503599627370496 ≤ d ∧ d < 9007199254740992 ∧ -1074 ≤ p ∧ p ≤ 971 ∧ SameD d (p + k) c q ∧ -52 ≤ k ∧ k ≤ 0 ∧ e = .returned (.tuple #[.float .f64 (rungOf d p), .int .i64 k])) ∧ w = w'
theorem norm_low {c : Nat} (h0 : c ≠ 0) (h1 : c < 4503599627370496) : ∃ d p, 4503599627370496 ≤ d ∧ d < 9007199254740992 ∧ -1074 ≤ p ∧ p ≤ 971 ∧ SameD d (p + -52) c (-1074) ∧ floatBits .mul .f64 (rungOf c (-1074)) 4841369599423283200 = some (rungOf d p) := by
  obtain ⟨d, p, k1, k2, k3⟩ := canon_ex _ c (-1022) (Nat.le_refl _) (by omega) (by omega)
  have hd : 4503599627370496 ≤ d := by
    obtain ⟨a, b, h | h⟩ := k2
    · exact h
    · subst h
      obtain ⟨k, ⟨g1, g2⟩ | ⟨g1, g2⟩⟩ := k1
      · obtain rfl : k = 52 := by omega
        omega
      · omega
  have hc : Canon c (-1074) := ⟨by omega, by omega, .inr rfl⟩
  have h52 : FV false 4841369599423283200 1 52 := ⟨4503599627370496, 0, ⟨52, .inl ⟨by decide, by decide⟩⟩, ⟨by decide, by decide, .inl (by decide)⟩, by decide, by decide⟩
  refine ⟨d, p, hd, k2.1, k2.2.1, by omega, ?_, fv_mul (fvc hc (by omega)) h52 ?_⟩
  · have := (k1.add (-52)).symm
    exact this
  · rw [Nat.mul_one]
    exact (fvc k2 (by omega)).same k1
set_option maxHeartbeats 1000000 in
theorem norm_any (c : Nat) (q : Int) (w : World) (hc : Canon c q) (hq : q ≤ 971) (h0 : c ≠ 0) :
    Calls Tryd.prog 93 #[.float .f64 (rungOf c q)] w (NormPost c q w) := by
  have hr := rung_lt hc hq
  have hw := (rung_w64 hc hq).1
  have hn := (rung_w64 hc hq).2
  have hA := Lib.hid (fun w => fabs_any (rungOf c q) w hw)
  rw [show rungOf c q % 9223372036854775808 = rungOf c q by omega] at hA
  have hlt := ord_lt hn (y := 4503599627370496) ⟨by decide, by decide⟩
  rw [skey_pos (by omega), skey_pos (x := 4503599627370496) (by omega)] at hlt
  unfold NormPost
  by_cases h : rungOf c q < 4503599627370496
  · have hq2 : q = -1074 := by obtain ⟨a, b, d⟩ := hc; unfold rungOf at h; omega
    subst hq2
    have hc52 : c < 4503599627370496 := by unfold rungOf at h; omega
    obtain ⟨d, p, k1, k2, k3, k4, k5, k6⟩ := norm_low h0 hc52
    have hl : (FloatKind.f64.format.order (rungOf c (-1074)) 4503599627370496 == some .lt) = true := by rw [hlt]; simp; omega
    have hop : ∀ t w, (binOp .mul t (.float .f64 (rungOf c (-1074))) (.float .f64 4841369599423283200)).run Tryd.prog w = .ok (.float .f64 (rungOf d p)) w := fun t w => run_float_arith w .mul t .f64 _ _ _ k6
    have hE := Lib.hid (show ∃ (d' : Nat) (p' k' : Int), 4503599627370496 ≤ d' ∧ d' < 9007199254740992 ∧ -1074 ≤ p' ∧ p' ≤ 971 ∧ SameD d' (p' + k') c (-1074) ∧ -52 ≤ k' ∧ k' ≤ 0 ∧ Ending.returned (.tuple #[.float .f64 (rungOf d p), .int .i64 (-52)]) = .returned (.tuple #[.float .f64 (rungOf d' p'), .int .i64 k']) from ⟨d, p, -52, k1, k2, k3, k4, k5, by omega, by omega, rfl⟩)
    generalize rungOf c (-1074) = X at *
    generalize rungOf d p = R at *
    clear hlt h hc hq h0 hr hw hn hc52 k1 k2 k3 k4 k5 k6
    go_enter Tryd.func93, Tryd.ntmps93
    go_wp2_with fail
    refine (hA.out _).mono ?_; rintro e w1 ⟨rfl, rfl⟩
    go_wp2_with (simp only)
    go_ret2
    exact ⟨hE.out, rfl⟩
  · have hd : 4503599627370496 ≤ c := by obtain ⟨a, b, d⟩ := hc; unfold rungOf at h; omega
    have hl : (FloatKind.f64.format.order (rungOf c q) 4503599627370496 == some .lt) = false := by rw [hlt]; simp; omega
    have hE := Lib.hid (show ∃ (d' : Nat) (p' k' : Int), 4503599627370496 ≤ d' ∧ d' < 9007199254740992 ∧ -1074 ≤ p' ∧ p' ≤ 971 ∧ SameD d' (p' + k') c q ∧ -52 ≤ k' ∧ k' ≤ 0 ∧ Ending.returned (.tuple #[.float .f64 (rungOf c q), .int .i64 0]) = .returned (.tuple #[.float .f64 (rungOf d' p'), .int .i64 k']) from ⟨c, q, 0, hd, hc.1, hc.2.1, hq, by rw [Int.add_zero]; exact SameD.refl _ _, by omega, by omega, rfl⟩)
    generalize rungOf c q = X at *
    clear hlt h hc hq h0 hr hw hn hd
    go_enter Tryd.func93, Tryd.ntmps93
    go_wp2_with fail
    refine (hA.out _).mono ?_; rintro e w1 ⟨rfl, rfl⟩
    go_wp2_with fail
    go_ret2
    exact ⟨hE.out, rfl⟩
/-- What is known of a finite number's bits. -/
theorem fin_tests {c : Nat} {q : Int} (hc : Canon c q) (hq : q ≤ 971) (h0 : c ≠ 0) : isNaNB (rungOf c q) = false ∧ isInfB (rungOf c q) = false ∧ isZeroB (rungOf c q) = false ∧ kindI (rungOf c q) = 1 := by
  have hr := rung_lt hc hq
  have hp : 0 < rungOf c q := by unfold rungOf; omega
  have h1 : isNaNB (rungOf c q) = false := by unfold isNaNB; simp; omega
  have h2 : isInfB (rungOf c q) = false := by unfold isInfB; simp; omega
  have h3 : isZeroB (rungOf c q) = false := by unfold isZeroB; simp; omega
  exact ⟨h1, h2, h3, by unfold kindI; rw [h1, h2, h3]; rfl⟩
theorem ret_fi {a b : Nat} {i j : Int} (h : a = b) (h2 : i = j) : Ending.returned (.tuple #[.float .f64 a, .int .i64 i]) = .returned (.tuple #[.float .f64 b, .int .i64 j]) := by rw [h, h2]
def FrexpPost (c : Nat) (q : Int) (w : World) (e : Ending) (w' : World) : Prop := (∃ (d : Nat) (k : Int), 4503599627370496 ≤ d ∧ d < 9007199254740992 ∧ SameD d (k - 53) c q ∧ -1200 ≤ k ∧ k ≤ 1100 ∧ e = .returned (.tuple #[.float .f64 (rungOf d (-53)), .int .i64 k])) ∧ w = w'
theorem frexp_bits {d : Nat} {p : Int} (h1 : 4503599627370496 ≤ d) (h2 : d < 9007199254740992) (h3 : -1074 ≤ p) (h4 : p ≤ 971) :
    (rungOf d p : Int) / 4503599627370496 = p + 1075 ∧ (rungOf d p : Int) % 4503599627370496 = d - 4503599627370496 ∧ (rungOf d p : Int) < 9223372036854775808 := by
  unfold rungOf; omega
set_option maxHeartbeats 2000000 in
theorem frexp_core (c : Nat) (q : Int) (w : World) (hc : Canon c q) (hq : q ≤ 971) (h0 : c ≠ 0) :
    Calls Tryd.prog 88 #[.float .f64 (rungOf c q)] w (FrexpPost c q w) := by
  obtain ⟨t1, t2, t3, t4⟩ := fin_tests hc hq h0
  have hw := (rung_w64 hc hq).1
  have hZ := zero_test _ hw
  have hI := Lib.hid (fun w => isInf_any _ w hw)
  have hN := Lib.hid (fun w => isNaN_any _ w hw)
  rw [t3] at hZ
  rw [t2] at hI
  rw [t1] at hN
  have hM := Lib.hid (fun w => norm_any c q w hc hq h0)
  have hF := fun x w => fbits x w
  have hG := fun n w => ffrom n w
  unfold FrexpPost
  generalize rungOf c q = X at *
  clear t1 t2 t3 t4 hw
  go_enter Tryd.func88, Tryd.ntmps88
  go_wp2_with fail
  refine (hI.out _).mono ?_; rintro e w1 ⟨rfl, rfl⟩
  go_wp2_with fail
  refine (hN.out _).mono ?_; rintro e w1 ⟨rfl, rfl⟩
  go_wp2_with fail
  refine (hM.out _).mono ?_; rintro e w1 ⟨⟨d, p, k, k1, k2, k3, k4, k5, k6, k7, rfl⟩, rfl⟩
  obtain ⟨b1, b2, b3⟩ := frexp_bits k1 k2 k3 k4
  have hS := Lib.hid (show SameD d (k + (p + 53) - 53) c q by rw [show k + (p + 53) - 53 = p + k by omega]; exact k5)
  have hv := Lib.hid (show d - 4503599627370496 + 4602678819172646912 = rungOf d (-53) by unfold rungOf; omega)
  have hb0 : (0 : Int) ≤ (rungOf d p : Int) := by omega
  have hA := low11 (p + 1075) (by omega) (by omega)
  rw [show (p + 1075) % 2048 = p + 1075 by omega] at hA
  have hC := clrExp (rungOf d p : Int) hb0 b3
  rw [b2] at hC
  have hO := orExp ((d : Int) - 4503599627370496) 1022 (by omega) (by omega) (by omega)
  rw [show ((1022 : Nat) : Int) * 4503599627370496 = 4602678819172646912 by decide] at hO
  generalize rungOf d p = R at *
  clear hI hN hM hZ k5 b2
  go_wp2_with (first | simp only | simp only [hC] | simp only [hO])
  go_ret2
  exact ⟨⟨d, k + (p + 53), k1, k2, hS.out, by omega, by omega, ret_fi hv.out (by omega)⟩, rfl⟩
theorem frexp_any (c : Nat) (q : Int) (w : World) (hc : Canon c q) (hq : q ≤ 971) (h0 : c ≠ 0) :
    Calls Tryd.prog 75 #[.float .f64 (rungOf c q)] w (FrexpPost c q w) := by
  have hM := Lib.hid (fun w => frexp_core c q w hc hq h0)
  unfold FrexpPost at *
  generalize rungOf c q = X at *
  go_enter Tryd.func75, Tryd.ntmps75
  go_wp2_with fail
  refine (hM.out _).mono ?_; rintro e w1 ⟨⟨d, k, k1, k2, k3, k4, k5, rfl⟩, rfl⟩
  have k3 := Lib.hid k3
  generalize hv : rungOf d (-53) = R at *
  have hv := Lib.hid hv
  go_wp2_with fail
  go_ret2
  exact ⟨⟨d, k, k1, k2, k3.out, k4, k5, ret_fi hv.out.symm rfl⟩, rfl⟩
theorem fshr_split {c d : Nat} {q k : Int} (h1 : 4503599627370496 ≤ d) (h2 : d < 9007199254740992) (hs : SameD d (k - 53) c q) : Lib.ctz 64 d < 64 ∧ IsSplit c q ((d : Int) / 2 ^ Lib.ctz 64 d) (k - 53 + Lib.ctz 64 d) := by
  obtain ⟨m, hm, hlt⟩ := Lib.ctzFrom_spec 64 d (by omega) (by omega)
  have hc : Lib.ctz 64 d = Lib.ctzFrom 64 d := by unfold Lib.ctz; rw [if_neg (by omega)]
  rw [hc]
  generalize Lib.ctzFrom 64 d = t at *
  have hp := n_pow_pos t
  have hq : d / 2 ^ t = 2 * m + 1 := by rw [hm]; exact Nat.mul_div_cancel_left _ hp
  have hi : (d : Int) / 2 ^ t = ((2 * m + 1 : Nat) : Int) := by
    have e : ((2 : Int) ^ t) = ((2 ^ t : Nat) : Int) := by simp
    rw [e, ← Int.natCast_ediv, hq]
  have hle : 2 * m + 1 ≤ d := by rw [hm]; exact Nat.le_mul_of_pos_left _ hp
  refine ⟨hlt, ?_⟩
  rw [hi]
  refine ⟨by omega, by omega, SameD.trans ⟨t, .inl ⟨by omega, ?_⟩⟩ hs, by omega⟩
  rw [Int.toNat_natCast, Nat.mul_comm]; exact hm
def PSplitPost (x c : Nat) (q : Int) (w : World) (e : Ending) (w' : World) : Prop := (∃ m k : Int, IsSplit c q m k ∧ e = .returned (.tuple #[.bool (negB x), .int .u64 m, .int .i64 k])) ∧ Drawn w w'
set_option maxHeartbeats 2000000 in
theorem psplit_fin (x c : Nat) (q : Int) (w : World) (hx : W64 x) (hk : kindI x = 1) (hc : Canon c q) (hq : q ≤ 971) (h0 : c ≠ 0) (hr : rungOf c q = x % 9223372036854775808) (hT : Tab64 w) :
    Calls Tryd.prog 59 #[.float .f64 x] w (PSplitPost x c q w) := by
  have hA := Lib.hid (fun w => fkind_any x w hx)
  rw [hk] at hA
  obtain ⟨g1, g2, g3, g4, g5⟩ := kind_one hx hk
  have hL := lt_zero hx g1 g3
  have hB := Lib.hid (fun w => fabs_any x w hx)
  rw [← hr] at hB
  have hF := Lib.hid (fun w => frexp_any c q w hc hq h0)
  have HT := Lib.hid hT
  have h53 : FV false 4845873199050653696 1 53 := ⟨4503599627370496, 1, ⟨52, .inl ⟨by decide, by decide⟩⟩, ⟨by decide, by decide, .inl (by decide)⟩, by decide, by decide⟩
  have hop : ∀ d : Nat, 4503599627370496 ≤ d → d < 9007199254740992 → ∀ t w, (binOp .mul t (.float .f64 (rungOf d (-53))) (.float .f64 4845873199050653696)).run Tryd.prog w = .ok (.float .f64 (rungOf d 0)) w := fun d k1 k2 t w => run_float_arith w .mul t .f64 _ _ _ (fv_mul (fvc ⟨k2, by omega, .inl k1⟩ (by omega)) h53 (by rw [Nat.mul_one]; exact fvc ⟨k2, by omega, .inl k1⟩ (by omega)))
  have hcv : ∀ d : Nat, 4503599627370496 ≤ d → d < 9007199254740992 → ∀ w, (convert 38 67 (.float .f64 (rungOf d 0))).run Tryd.prog w = .ok (.int .u64 (d : Int)) w := fun d k1 k2 w => run_convert_float_int w 38 67 .f64 .u64 _ _ (by rw [Tryd.underlying38]; rfl) Tryd.underlying67 (by
    have h := whole_cut (c := d) (q := 0) ⟨k2, by omega, .inl k1⟩ (by omega)
    have e : wholeN d 0 = d := by unfold wholeN; simp
    rw [e] at h; exact h)
  have Hop := Lib.hid hop
  have Hcv := Lib.hid hcv
  clear hop hcv hT
  unfold PSplitPost
  generalize hb : negB x = b at *
  generalize rungOf c q = X at *
  clear hk hr g1 g2 g3 g4 g5 hc hq h0 hb h53
  go_enter Tryd.func59, Tryd.ntmps59
  go_wp2_with fail
  refine (hA.out _).mono ?_; rintro e w1 ⟨rfl, rfl⟩
  go_wp2_with fail
  refine (hB.out _).mono ?_; rintro e w1 ⟨rfl, rfl⟩
  go_wp2_with fail
  refine (hF.out _).mono ?_; rintro e w1 ⟨⟨d, k, k1, k2, k3, k4, k5, rfl⟩, rfl⟩
  have hop := Hop.out d k1 k2
  have hcv := Hcv.out d k1 k2
  have hTz := Lib.hid (tz64_any d (by omega) (by omega) w HT.out)
  obtain ⟨ht, hs⟩ := fshr_split k1 k2 k3
  have hs := Lib.hid hs
  generalize rungOf d (-53) = R1 at *
  generalize rungOf d 0 = R2 at *
  generalize Lib.ctz 64 d = t at *
  clear hA hB hF k3
  go_wp2_with (first | simp only | simp only [hcv])
  refine (hTz.out).mono ?_; rintro e w1 ⟨rfl, rfl⟩
  clear hTz hop hcv
  go_wp2_with fail
  go_quiet (fail)
  go_wp2_with fail
  go_ret3
  exact ⟨⟨_, _, hs.out, rfl⟩, (Drawn.refl _).next _⟩
theorem psplit_other (x : Nat) (w : World) (hx : W64 x) (hk : kindI x ≠ 1) :
    Calls Tryd.prog 59 #[.float .f64 x] w fun e w' => e = .returned (.tuple #[.bool (belowB x), .int .u64 0, .int .i64 0]) ∧ w = w' := by
  have hA := Lib.hid (fun w => fkind_any x w hx)
  have hS := Lib.hid (fun w => signbit_any x w hx)
  have k3 := kind_nan x
  have k1 : (kindI x != 1) = true := by simpa using hk
  unfold belowB
  generalize isNaNB x = n at *
  generalize negB x = b at *
  generalize kindI x = K at *
  clear hk
  cases n
  · go_enter Tryd.func59, Tryd.ntmps59
    go_wp2_with fail
    refine (hA.out _).mono ?_; rintro e w1 ⟨rfl, rfl⟩
    go_wp2_with fail
    refine (hS.out _).mono ?_; rintro e w1 ⟨rfl, rfl⟩
    go_wp2_with fail
    go_ret3
    exact ⟨rfl, rfl⟩
  · go_enter Tryd.func59, Tryd.ntmps59
    go_wp2_with fail
    refine (hA.out _).mono ?_; rintro e w1 ⟨rfl, rfl⟩
    go_wp2_with fail
    go_ret3
    exact ⟨rfl, rfl⟩
theorem rsplit_other (x : Nat) (w : World) (hx : W64 x) (hk : kindI x ≠ 1) :
    Calls Tryd.prog 33 #[.float .f64 x] w fun e w' => e = .returned (.tuple #[.bool (belowB x), .int .u64 0, .int .i64 0]) ∧ Drawn w w' := by
  have hA := Lib.hid (fun w => rkind_any x w hx)
  have hS := Lib.hid (fun w => rbelow_any x w hx)
  have k1 : (kindI x != 1) = true := by simpa using hk
  generalize belowB x = b at *
  generalize kindI x = K at *
  clear hk
  go_enter Tryd.func33, Tryd.ntmps33
  go_wp2_with fail
  refine (hA.out _).mono ?_; rintro e w1 ⟨rfl, hd⟩
  go_wp2_with fail
  refine (hS.out _).mono ?_; rintro e w2 ⟨rfl, rfl⟩
  go_wp2_with fail
  go_ret3
  exact ⟨rfl, hd⟩
/-- The float behind. -/
def upK (x : Nat) : Int := (keyI x + 1) % 18446744073709551616
def upN (x : Nat) : Nat := if isNaNB (fromN (upK x)) then 9221120237041090561 else fromN (upK x)
set_option maxRecDepth 100000
open Go.RowKit
set_option linter.unusedVariables false
theorem copysign_pos (x : Nat) (w : World) (hx : x < 9223372036854775808) :
    Calls Tryd.prog 43 #[.float .f64 x, .float .f64 13830554455654793216] w fun e w' => e = .returned (.float .f64 (x + 9223372036854775808)) ∧ w = w' := by
  have hF := fun x w => fbits x w
  have hG := fun n w => ffrom n w
  have h1 := clr63 (x : Int) (by omega) (by omega)
  rw [show (x : Int) % 9223372036854775808 = x by omega] at h1
  have h2 := sgn63 13830554455654793216 (by omega) (by omega)
  rw [if_neg (by omega)] at h2
  have h3 := or63 (x : Int) (by omega) (by omega)
  go_enter Tryd.func43, Tryd.ntmps43
  go_wp2_with fail
  go_ret
  exact ⟨ret_float (by omega), rfl⟩
theorem ldexp_exp {c d : Nat} {q p k k0 : Int} (hd : 4503599627370496 ≤ d) (hd2 : d < 9007199254740992) (hc0 : c ≠ 0) (hs : SameD d (p + k0) c q) : k + k0 + p + 52 = q + k + c.log2 := by
  have h1 := hs.log2 hc0
  have h2 := log2_le hd2
  have h3 : ¬ d.log2 < 52 := by rw [Nat.log2_lt (by omega)]; omega
  omega
theorem FV.expo {R c : Nat} {q : Int} (h : FV false R c q) (h0 : c ≠ 0) : -1074 ≤ q + c.log2 ∧ q + c.log2 ≤ 1023 := by
  obtain ⟨d, p, h1, h2, h3, -⟩ := h
  have hd : d ≠ 0 := fun e => h0 (h1.zero.2 e)
  have h4 := h1.log2 hd
  have h5 := log2_le h2.1
  have := h2.2.1
  omega
set_option maxHeartbeats 4000000 in
theorem ldexp_fin (c : Nat) (q k : Int) (R : Nat) (w : World) (hc : Canon c q) (hq : q ≤ 971) (h0 : c ≠ 0) (hR : FV false R c (q + k)) (hk0 : -5000 ≤ k) (hk1 : k ≤ 5000) :
    Calls Tryd.prog 90 #[.float .f64 (rungOf c q), .int .i64 k] w fun e w' => e = .returned (.float .f64 R) ∧ w = w' := by
  obtain ⟨t1, t2, t3, t4⟩ := fin_tests hc hq h0
  have hw := (rung_w64 hc hq).1
  have hZ := zero_test _ hw
  have hI := Lib.hid (fun w => isInf_any _ w hw)
  have hN := Lib.hid (fun w => isNaN_any _ w hw)
  rw [t3] at hZ
  rw [t2] at hI
  rw [t1] at hN
  have hM := Lib.hid (fun w => norm_any c q w hc hq h0)
  have hF := fun x w => fbits x w
  have hG := fun n w => ffrom n w
  have hX := hR.expo h0
  clear hw
  generalize rungOf c q = X at *
  clear t1 t2 t3 t4
  go_enter Tryd.func90, Tryd.ntmps90
  go_wp2_with fail
  refine (hI.out _).mono ?_; rintro e w1 ⟨rfl, rfl⟩
  go_wp2_with fail
  refine (hN.out _).mono ?_; rintro e w1 ⟨rfl, rfl⟩
  go_wp2_with fail
  refine (hM.out _).mono ?_; rintro e w1 ⟨⟨d, p, k0, k1, k2, k3, k4, k5, k6, k7, rfl⟩, rfl⟩
  obtain ⟨b1, b2, b3⟩ := frexp_bits k1 k2 k3 k4
  have hb0 : (0 : Int) ≤ (rungOf d p : Int) := by omega
  have hA := low11i (p + 1075) (by omega) (by omega)
  rw [show (p + 1075) % 2048 = p + 1075 by omega] at hA
  have hC := clrExp (rungOf d p : Int) hb0 b3
  rw [b2] at hC
  have hex := ldexp_exp (k := k) (k0 := k0) (p := p) k1 k2 h0 k5
  have hS := Lib.hid (show SameD d (p + k0 + k) c (q + k) from k5.add k)
  rw [← hex] at hX
  obtain ⟨x1, x2⟩ := hX
  clear hex k5
  generalize rungOf d p = Rd at *
  clear hI hN hM hZ b2
  have hRd : FV false R d (k + k0 + p + 52 - 52) := by
    rw [show k + k0 + p + 52 - 52 = p + k0 + k by omega]; exact hR.same hS.out
  have hE : k + k0 + (p + 1075 - 1023) = k + k0 + p + 52 := by omega
  have HE := Lib.hid hE
  clear hE
  go_upto_region 9 with (first | simp only)
  rw [HE.out]
  clear HE hS hR
  generalize k + k0 + p + 52 = E at *
  clear hA b1 b3 hb0 hk0 hk1 hF
  by_cases hden : E < -1022
  · have hcan : Canon d (E + 1) := ⟨k2, by omega, .inl k1⟩
    have h53 : FV false 4368491638549381120 1 (-53) := ⟨4503599627370496, -105, ⟨52, .inl ⟨by decide, by decide⟩⟩, ⟨by decide, by decide, .inl (by decide)⟩, by decide, by decide⟩
    have hop : ∀ t w, (binOp .mul t (.float .f64 4368491638549381120) (.float .f64 (rungOf d (E + 1)))).run Tryd.prog w = .ok (.float .f64 R) w := fun t w => run_float_arith w .mul t .f64 _ _ _ (fv_mul h53 (fvc hcan (by omega)) (by
      rw [Nat.one_mul, show -53 + (E + 1) = E - 52 by omega]; exact hRd))
    have hO := orExp ((d : Int) - 4503599627370496) (E + 53 + 1023).toNat (by omega) (by omega) (by omega)
    rw [Int.toNat_of_nonneg (by omega)] at hO
    rw [show (d : Int) - 4503599627370496 + (E + 53 + 1023) * 4503599627370496 = ((rungOf d (E + 1) : Nat) : Int) by unfold rungOf; omega] at hO
    generalize rungOf d (E + 1) = Y at *
    clear hcan hRd h53
    go_wp2_with (first | simp only [hC] | simp only [hO] | simp only [hop])
    go_ret
    exact ⟨rfl, rfl⟩
  · have hcan : Canon d (E - 52) := ⟨k2, by omega, .inl k1⟩
    have h1 : FV false 4607182418800017408 1 0 := ⟨4503599627370496, -52, ⟨52, .inl ⟨by decide, by decide⟩⟩, ⟨by decide, by decide, .inl (by decide)⟩, by decide, by decide⟩
    have hop : ∀ t w, (binOp .mul t (.float .f64 4607182418800017408) (.float .f64 (rungOf d (E - 52)))).run Tryd.prog w = .ok (.float .f64 R) w := fun t w => run_float_arith w .mul t .f64 _ _ _ (fv_mul h1 (fvc hcan (by omega)) (by
      rw [Nat.one_mul, Int.zero_add]; exact hRd))
    have hO := orExp ((d : Int) - 4503599627370496) (E + 1023).toNat (by omega) (by omega) (by omega)
    rw [Int.toNat_of_nonneg (by omega)] at hO
    rw [show (d : Int) - 4503599627370496 + (E + 1023) * 4503599627370496 = ((rungOf d (E - 52) : Nat) : Int) by unfold rungOf; omega] at hO
    generalize rungOf d (E - 52) = Y at *
    clear hcan hRd h1
    go_wp2_with (first | simp only [hC] | simp only [hO] | simp only [hop])
    go_ret
    exact ⟨rfl, rfl⟩
set_option maxHeartbeats 4000000 in
theorem ldexp_over (c : Nat) (q k : Int) (w : World) (hc : Canon c q) (hq : q ≤ 971) (h0 : c ≠ 0) (hR : 1024 ≤ q + k + c.log2) (hk0 : -5000 ≤ k) (hk1 : k ≤ 5000) :
    Calls Tryd.prog 90 #[.float .f64 (rungOf c q), .int .i64 k] w fun e w' => e = .returned (.float .f64 9218868437227405312) ∧ w = w' := by
  obtain ⟨t1, t2, t3, t4⟩ := fin_tests hc hq h0
  have hw := (rung_w64 hc hq).1
  have hZ := zero_test _ hw
  have hI := Lib.hid (fun w => isInf_any _ w hw)
  have hN := Lib.hid (fun w => isNaN_any _ w hw)
  rw [t3] at hZ
  rw [t2] at hI
  rw [t1] at hN
  have hM := Lib.hid (fun w => norm_any c q w hc hq h0)
  have hF := fun x w => fbits x w
  have HInf := Lib.hid (fun w => finf_any w)
  generalize rungOf c q = X at *
  clear t1 t2 t3 t4 hw
  go_enter Tryd.func90, Tryd.ntmps90
  go_wp2_with fail
  refine (hI.out _).mono ?_; rintro e w1 ⟨rfl, rfl⟩
  go_wp2_with fail
  refine (hN.out _).mono ?_; rintro e w1 ⟨rfl, rfl⟩
  go_wp2_with fail
  refine (hM.out _).mono ?_; rintro e w1 ⟨⟨d, p, k0, k1, k2, k3, k4, k5, k6, k7, rfl⟩, rfl⟩
  obtain ⟨b1, b2, b3⟩ := frexp_bits k1 k2 k3 k4
  have hb0 : (0 : Int) ≤ (rungOf d p : Int) := by omega
  have hA := low11i (p + 1075) (by omega) (by omega)
  rw [show (p + 1075) % 2048 = p + 1075 by omega] at hA
  have hex := ldexp_exp (k := k) (k0 := k0) (p := p) k1 k2 h0 k5
  rw [← hex] at hR
  have hneg := ord_lt (rung_w64 (c := d) (q := p) ⟨k2, k3, .inl k1⟩ k4).2 (y := 0) ⟨by decide, by decide⟩
  rw [skey_pos (by omega), skey_pos (x := 0) (by omega)] at hneg
  have hng : (FloatKind.f64.format.order (rungOf d p) 0 == some .lt) = false := by rw [hneg]; simp
  clear hex k5 hneg
  generalize rungOf d p = Rd at *
  clear hI hN hM hZ b2
  have hE : k + k0 + (p + 1075 - 1023) = k + k0 + p + 52 := by omega
  have HE := Lib.hid hE
  clear hE
  go_upto_region 9 with (first | simp only)
  rw [HE.out]
  clear HE
  generalize k + k0 + p + 52 = E at *
  clear hA b1 b3 hb0 hk0 hk1 hF
  go_wp2_with fail
  refine (HInf.out _).mono ?_; rintro e w1 ⟨rfl, rfl⟩
  go_wp2_with fail
  go_ret
  exact ⟨rfl, rfl⟩
theorem ldexp_zero (k : Int) (w : World) :
    Calls Tryd.prog 90 #[.float .f64 0, .int .i64 k] w fun e w' => e = .returned (.float .f64 0) ∧ w = w' := by
  have h2 : (FloatKind.f64.format.order 0 0 == some .eq) = true := by decide +kernel
  go_enter Tryd.func90, Tryd.ntmps90
  go_wp2_with fail
  go_ret
  exact ⟨rfl, rfl⟩
theorem Ldexp_of (X R : Nat) (k : Int) (w : World) (h : ∀ w, Calls Tryd.prog 90 #[.float .f64 X, .int .i64 k] w fun e w' => e = .returned (.float .f64 R) ∧ w = w') :
    Calls Tryd.prog 79 #[.float .f64 X, .int .i64 k] w fun e w' => e = .returned (.float .f64 R) ∧ w = w' := by
  have H := Lib.hid h
  clear h
  go_enter Tryd.func79, Tryd.ntmps79
  go_wp2_with fail
  refine (H.out _).mono ?_; rintro e w1 ⟨rfl, rfl⟩
  go_wp2_with fail
  go_ret
  exact ⟨rfl, rfl⟩
end Go.Proofs.YtflhicfbojmjbaaDoor
