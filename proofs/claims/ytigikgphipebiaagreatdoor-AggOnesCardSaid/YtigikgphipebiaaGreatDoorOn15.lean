/- Contracts that the law leans on, pruned and merged: Flok Flom Flor Floq Roob. -/
import Derived.Deep.RegionHeld3
import Derived.Test.YtigikgphipebiaaGreatDoorOn07
import Derived.Test.YtigikgphipebiaaGreatDoorOn10
import Derived.Test.YtigikgphipebiaaGreatDoorOn11
import Derived.Test.YtigikgphipebiaaGreatDoorOn12
import Derived.Test.YtigikgphipebiaaGreatDoorOn13
import Derived.Test.YtigikgphipebiaaGreatDoorOn14
/- A float times a power of two, and a float's sign: what package math returns. -/
namespace Go.Proofs.YtigikgphipebiaaGreatDoor
set_option maxRecDepth 100000
open Go.RowKit
set_option linter.unusedVariables false
def Tab64 (w : World) : Prop := TabAt 2 Lib.deBruijn64tab w
theorem Tab64.call {w w' : World} (h : Tab64 w) (hb : Below w.heap.size w w') : Tab64 w' := fun j hj => cell_later hb (h j hj)
set_option maxHeartbeats 1000000 in
theorem tz64_core (x k idx : Nat) (w : World) (hx0 : ((x : Int) == 0) = false)
    (key : IntKind.u64.wrap (bits BinOp.and IntKind.u64 (x : Int) (IntKind.u64.wrap (-(x : Int))) * 285870213051353865) / 288230376151711744 = (idx : Int))
    (hi : idx < 64) (hk : k < 64) (hcell : w.cell? ⟨2, idx, none⟩ = some (.int .u8 k)) :
    Calls Tryz.prog 232 #[.int .u64 x] w fun e w' => e = .returned (.int .i64 k) ∧ w = w' := by
  go_enter Tryz.func232, Tryz.ntmps232
  go_wp2_with (simp only [key])
  go_ret
  exact ⟨rfl, rfl⟩
theorem tz64_any (x : Nat) (hx : x < 18446744073709551616) (hx0 : x ≠ 0) (w : World) (hT : Tab64 w) :
    Calls Tryz.prog 232 #[.int .u64 x] w fun e w' => e = .returned (.int .i64 (Lib.ctz 64 x)) ∧ w = w' := by
  obtain ⟨hlow, hk⟩ := Lib.lowest_bit 64 x hx0 hx
  obtain ⟨hi, htab⟩ := Lib.deBruijn64_at _ hk
  have hcell := hT _ hi
  rw [htab] at hcell
  exact tz64_core x _ _ w (by simp; omega) (tz64_key x _ hx hx0 hlow) hi hk hcell
def NormPost (c : Nat) (q : Int) (w : World) (e : Ending) (w' : World) : Prop := (∃ (d : Nat) (p k : Int), 4503599627370496 ≤ d ∧ d < 9007199254740992 ∧ -1074 ≤ p ∧ p ≤ 971 ∧ SameD d (p + k) c q ∧ -52 ≤ k ∧ k ≤ 0 ∧ e = .returned (.tuple #[.float .f64 (rungOf d p), .int .i64 k])) ∧ w = w'
theorem norm_low {c : Nat} (h0 : c ≠ 0) (h1 : c < 4503599627370496) : ∃ d p, 4503599627370496 ≤ d ∧ d < 9007199254740992 ∧ -1074 ≤ p ∧ p ≤ 971 ∧ SameD d (p + -52) c (-1074) ∧ floatBits .mul .f64 (rungOf c (-1074)) 4841369599423283200 = some (rungOf d p) := by
  obtain ⟨d, p, k1, k2, k3⟩ := canon_ex _ c (-1022) (Nat.le_refl _) (by omega) (by omega)
  have hd : 4503599627370496 ≤ d := by
    obtain ⟨a, b, h | h⟩ := k2
    · exact h
    · subst h
      obtain ⟨k, ⟨g1, g2⟩ | ⟨g1, g2⟩⟩ := k1
      · obtain rfl : k = 52 := by omega
        omega
      · omega
  have hc : Canon c (-1074) := ⟨by omega, by omega, .inr rfl⟩
  have h52 : FV false 4841369599423283200 1 52 := ⟨4503599627370496, 0, ⟨52, .inl ⟨by decide, by decide⟩⟩, ⟨by decide, by decide, .inl (by decide)⟩, by decide, by decide⟩
  refine ⟨d, p, hd, k2.1, k2.2.1, by omega, ?_, fv_mul (fvc hc (by omega)) h52 ?_⟩
  · have := (k1.add (-52)).symm
    exact this
  · rw [Nat.mul_one]
    exact (fvc k2 (by omega)).same k1
set_option maxHeartbeats 1000000 in
theorem norm_any (c : Nat) (q : Int) (w : World) (hc : Canon c q) (hq : q ≤ 971) (h0 : c ≠ 0) :
    Calls Tryz.prog 248 #[.float .f64 (rungOf c q)] w (NormPost c q w) := by
  have hr := rung_lt hc hq
  have hw := (rung_w64 hc hq).1
  have hn := (rung_w64 hc hq).2
  have hA := Lib.hid (fun w => fabs_any (rungOf c q) w hw)
  rw [show rungOf c q % 9223372036854775808 = rungOf c q by omega] at hA
  have hlt := ord_lt hn (y := 4503599627370496) ⟨by decide, by decide⟩
  rw [skey_pos (by omega), skey_pos (x := 4503599627370496) (by omega)] at hlt
  unfold NormPost
  by_cases h : rungOf c q < 4503599627370496
  · have hq2 : q = -1074 := by obtain ⟨a, b, d⟩ := hc; unfold rungOf at h; omega
    subst hq2
    have hc52 : c < 4503599627370496 := by unfold rungOf at h; omega
    obtain ⟨d, p, k1, k2, k3, k4, k5, k6⟩ := norm_low h0 hc52
    have hl : (FloatKind.f64.format.order (rungOf c (-1074)) 4503599627370496 == some .lt) = true := by rw [hlt]; simp; omega
    have hop : ∀ t w, (binOp .mul t (.float .f64 (rungOf c (-1074))) (.float .f64 4841369599423283200)).run Tryz.prog w = .ok (.float .f64 (rungOf d p)) w := fun t w => run_float_arith w .mul t .f64 _ _ _ k6
    have hE := Lib.hid (show ∃ (d' : Nat) (p' k' : Int), 4503599627370496 ≤ d' ∧ d' < 9007199254740992 ∧ -1074 ≤ p' ∧ p' ≤ 971 ∧ SameD d' (p' + k') c (-1074) ∧ -52 ≤ k' ∧ k' ≤ 0 ∧ Ending.returned (.tuple #[.float .f64 (rungOf d p), .int .i64 (-52)]) = .returned (.tuple #[.float .f64 (rungOf d' p'), .int .i64 k']) from ⟨d, p, -52, k1, k2, k3, k4, k5, by omega, by omega, rfl⟩)
    generalize rungOf c (-1074) = X at *
    generalize rungOf d p = R at *
    clear hlt h hc hq h0 hr hw hn hc52 k1 k2 k3 k4 k5 k6
    go_enter Tryz.func248, Tryz.ntmps248
    go_wp2_with fail
    refine (hA.out _).mono ?_; rintro e w1 ⟨rfl, rfl⟩
    go_wp2_with (simp only)
    go_ret2
    exact ⟨hE.out, rfl⟩
  · have hd : 4503599627370496 ≤ c := by obtain ⟨a, b, d⟩ := hc; unfold rungOf at h; omega
    have hl : (FloatKind.f64.format.order (rungOf c q) 4503599627370496 == some .lt) = false := by rw [hlt]; simp; omega
    have hE := Lib.hid (show ∃ (d' : Nat) (p' k' : Int), 4503599627370496 ≤ d' ∧ d' < 9007199254740992 ∧ -1074 ≤ p' ∧ p' ≤ 971 ∧ SameD d' (p' + k') c q ∧ -52 ≤ k' ∧ k' ≤ 0 ∧ Ending.returned (.tuple #[.float .f64 (rungOf c q), .int .i64 0]) = .returned (.tuple #[.float .f64 (rungOf d' p'), .int .i64 k']) from ⟨c, q, 0, hd, hc.1, hc.2.1, hq, by rw [Int.add_zero]; exact SameD.refl _ _, by omega, by omega, rfl⟩)
    generalize rungOf c q = X at *
    clear hlt h hc hq h0 hr hw hn hd
    go_enter Tryz.func248, Tryz.ntmps248
    go_wp2_with fail
    refine (hA.out _).mono ?_; rintro e w1 ⟨rfl, rfl⟩
    go_wp2_with fail
    go_ret2
    exact ⟨hE.out, rfl⟩
/-- What is known of a finite number's bits. -/
theorem fin_tests {c : Nat} {q : Int} (hc : Canon c q) (hq : q ≤ 971) (h0 : c ≠ 0) : isNaNB (rungOf c q) = false ∧ isInfB (rungOf c q) = false ∧ isZeroB (rungOf c q) = false ∧ kindI (rungOf c q) = 1 := by
  have hr := rung_lt hc hq
  have hp : 0 < rungOf c q := by unfold rungOf; omega
  have h1 : isNaNB (rungOf c q) = false := by unfold isNaNB; simp; omega
  have h2 : isInfB (rungOf c q) = false := by unfold isInfB; simp; omega
  have h3 : isZeroB (rungOf c q) = false := by unfold isZeroB; simp; omega
  exact ⟨h1, h2, h3, by unfold kindI; rw [h1, h2, h3]; rfl⟩
theorem ret_fi {a b : Nat} {i j : Int} (h : a = b) (h2 : i = j) : Ending.returned (.tuple #[.float .f64 a, .int .i64 i]) = .returned (.tuple #[.float .f64 b, .int .i64 j]) := by rw [h, h2]
def FrexpPost (c : Nat) (q : Int) (w : World) (e : Ending) (w' : World) : Prop := (∃ (d : Nat) (k : Int), 4503599627370496 ≤ d ∧ d < 9007199254740992 ∧ SameD d (k - 53) c q ∧ -1200 ≤ k ∧ k ≤ 1100 ∧ e = .returned (.tuple #[.float .f64 (rungOf d (-53)), .int .i64 k])) ∧ w = w'
theorem frexp_bits {d : Nat} {p : Int} (h1 : 4503599627370496 ≤ d) (h2 : d < 9007199254740992) (h3 : -1074 ≤ p) (h4 : p ≤ 971) :
    (rungOf d p : Int) / 4503599627370496 = p + 1075 ∧ (rungOf d p : Int) % 4503599627370496 = d - 4503599627370496 ∧ (rungOf d p : Int) < 9223372036854775808 := by
  unfold rungOf; omega
set_option maxHeartbeats 2000000 in
theorem frexp_core (c : Nat) (q : Int) (w : World) (hc : Canon c q) (hq : q ≤ 971) (h0 : c ≠ 0) :
    Calls Tryz.prog 246 #[.float .f64 (rungOf c q)] w (FrexpPost c q w) := by
  obtain ⟨t1, t2, t3, t4⟩ := fin_tests hc hq h0
  have hw := (rung_w64 hc hq).1
  have hZ := zero_test _ hw
  have hI := Lib.hid (fun w => isInf_any _ w hw)
  have hN := Lib.hid (fun w => isNaN_any _ w hw)
  rw [t3] at hZ
  rw [t2] at hI
  rw [t1] at hN
  have hM := Lib.hid (fun w => norm_any c q w hc hq h0)
  have hF := fun x w => fbits x w
  have hG := fun n w => ffrom n w
  unfold FrexpPost
  generalize rungOf c q = X at *
  clear t1 t2 t3 t4 hw
  go_enter Tryz.func246, Tryz.ntmps246
  go_wp2_with fail
  refine (hI.out _).mono ?_; rintro e w1 ⟨rfl, rfl⟩
  go_wp2_with fail
  refine (hN.out _).mono ?_; rintro e w1 ⟨rfl, rfl⟩
  go_wp2_with fail
  refine (hM.out _).mono ?_; rintro e w1 ⟨⟨d, p, k, k1, k2, k3, k4, k5, k6, k7, rfl⟩, rfl⟩
  obtain ⟨b1, b2, b3⟩ := frexp_bits k1 k2 k3 k4
  have hS := Lib.hid (show SameD d (k + (p + 53) - 53) c q by rw [show k + (p + 53) - 53 = p + k by omega]; exact k5)
  have hv := Lib.hid (show d - 4503599627370496 + 4602678819172646912 = rungOf d (-53) by unfold rungOf; omega)
  have hb0 : (0 : Int) ≤ (rungOf d p : Int) := by omega
  have hA := low11 (p + 1075) (by omega) (by omega)
  rw [show (p + 1075) % 2048 = p + 1075 by omega] at hA
  have hC := clrExp (rungOf d p : Int) hb0 b3
  rw [b2] at hC
  have hO := orExp ((d : Int) - 4503599627370496) 1022 (by omega) (by omega) (by omega)
  rw [show ((1022 : Nat) : Int) * 4503599627370496 = 4602678819172646912 by decide] at hO
  generalize rungOf d p = R at *
  clear hI hN hM hZ k5 b2
  go_wp2_with (first | simp only | simp only [hC] | simp only [hO])
  go_ret2
  exact ⟨⟨d, k + (p + 53), k1, k2, hS.out, by omega, by omega, ret_fi hv.out (by omega)⟩, rfl⟩
theorem frexp_any (c : Nat) (q : Int) (w : World) (hc : Canon c q) (hq : q ≤ 971) (h0 : c ≠ 0) :
    Calls Tryz.prog 230 #[.float .f64 (rungOf c q)] w (FrexpPost c q w) := by
  have hM := Lib.hid (fun w => frexp_core c q w hc hq h0)
  unfold FrexpPost at *
  generalize rungOf c q = X at *
  go_enter Tryz.func230, Tryz.ntmps230
  go_wp2_with fail
  refine (hM.out _).mono ?_; rintro e w1 ⟨⟨d, k, k1, k2, k3, k4, k5, rfl⟩, rfl⟩
  have k3 := Lib.hid k3
  generalize hv : rungOf d (-53) = R at *
  have hv := Lib.hid hv
  go_wp2_with fail
  go_ret2
  exact ⟨⟨d, k, k1, k2, k3.out, k4, k5, ret_fi hv.out.symm rfl⟩, rfl⟩
theorem fshr_split {c d : Nat} {q k : Int} (h1 : 4503599627370496 ≤ d) (h2 : d < 9007199254740992) (hs : SameD d (k - 53) c q) : Lib.ctz 64 d < 64 ∧ IsSplit c q ((d : Int) / 2 ^ Lib.ctz 64 d) (k - 53 + Lib.ctz 64 d) := by
  obtain ⟨m, hm, hlt⟩ := Lib.ctzFrom_spec 64 d (by omega) (by omega)
  have hc : Lib.ctz 64 d = Lib.ctzFrom 64 d := by unfold Lib.ctz; rw [if_neg (by omega)]
  rw [hc]
  generalize Lib.ctzFrom 64 d = t at *
  have hp := n_pow_pos t
  have hq : d / 2 ^ t = 2 * m + 1 := by rw [hm]; exact Nat.mul_div_cancel_left _ hp
  have hi : (d : Int) / 2 ^ t = ((2 * m + 1 : Nat) : Int) := by
    have e : ((2 : Int) ^ t) = ((2 ^ t : Nat) : Int) := by simp
    rw [e, ← Int.natCast_ediv, hq]
  have hle : 2 * m + 1 ≤ d := by rw [hm]; exact Nat.le_mul_of_pos_left _ hp
  refine ⟨hlt, ?_⟩
  rw [hi]
  refine ⟨by omega, by omega, SameD.trans ⟨t, .inl ⟨by omega, ?_⟩⟩ hs, by omega⟩
  rw [Int.toNat_natCast, Nat.mul_comm]; exact hm
def PSplitPost (x c : Nat) (q : Int) (w : World) (e : Ending) (w' : World) : Prop := (∃ m k : Int, IsSplit c q m k ∧ e = .returned (.tuple #[.bool (negB x), .int .u64 m, .int .i64 k])) ∧ Drawn w w'
set_option maxHeartbeats 2000000 in
theorem psplit_fin (x c : Nat) (q : Int) (w : World) (hx : W64 x) (hk : kindI x = 1) (hc : Canon c q) (hq : q ≤ 971) (h0 : c ≠ 0) (hr : rungOf c q = x % 9223372036854775808) (hT : Tab64 w) :
    Calls Tryz.prog 203 #[.float .f64 x] w (PSplitPost x c q w) := by
  have hA := Lib.hid (fun w => fkind_any x w hx)
  rw [hk] at hA
  obtain ⟨g1, g2, g3, g4, g5⟩ := kind_one hx hk
  have hL := lt_zero hx g1 g3
  have hB := Lib.hid (fun w => fabs_any x w hx)
  rw [← hr] at hB
  have hF := Lib.hid (fun w => frexp_any c q w hc hq h0)
  have HT := Lib.hid hT
  have h53 : FV false 4845873199050653696 1 53 := ⟨4503599627370496, 1, ⟨52, .inl ⟨by decide, by decide⟩⟩, ⟨by decide, by decide, .inl (by decide)⟩, by decide, by decide⟩
  have hop : ∀ d : Nat, 4503599627370496 ≤ d → d < 9007199254740992 → ∀ t w, (binOp .mul t (.float .f64 (rungOf d (-53))) (.float .f64 4845873199050653696)).run Tryz.prog w = .ok (.float .f64 (rungOf d 0)) w := fun d k1 k2 t w => run_float_arith w .mul t .f64 _ _ _ (fv_mul (fvc ⟨k2, by omega, .inl k1⟩ (by omega)) h53 (by rw [Nat.mul_one]; exact fvc ⟨k2, by omega, .inl k1⟩ (by omega)))
  have hcv : ∀ d : Nat, 4503599627370496 ≤ d → d < 9007199254740992 → ∀ w, (convert 59 37 (.float .f64 (rungOf d 0))).run Tryz.prog w = .ok (.int .u64 (d : Int)) w := fun d k1 k2 w => run_convert_float_int w 59 37 .f64 .u64 _ _ (by rw [Tryz.underlying59]; rfl) Tryz.underlying37 (by
    have h := whole_cut (c := d) (q := 0) ⟨k2, by omega, .inl k1⟩ (by omega)
    have e : wholeN d 0 = d := by unfold wholeN; simp
    rw [e] at h; exact h)
  have Hop := Lib.hid hop
  have Hcv := Lib.hid hcv
  clear hop hcv hT
  unfold PSplitPost
  generalize hb : negB x = b at *
  generalize rungOf c q = X at *
  clear hk hr g1 g2 g3 g4 g5 hc hq h0 hb h53
  go_enter Tryz.func203, Tryz.ntmps203
  go_wp2_with fail
  refine (hA.out _).mono ?_; rintro e w1 ⟨rfl, rfl⟩
  go_wp2_with fail
  refine (hB.out _).mono ?_; rintro e w1 ⟨rfl, rfl⟩
  go_wp2_with fail
  refine (hF.out _).mono ?_; rintro e w1 ⟨⟨d, k, k1, k2, k3, k4, k5, rfl⟩, rfl⟩
  have hop := Hop.out d k1 k2
  have hcv := Hcv.out d k1 k2
  have hTz := Lib.hid (tz64_any d (by omega) (by omega) w HT.out)
  obtain ⟨ht, hs⟩ := fshr_split k1 k2 k3
  have hs := Lib.hid hs
  generalize rungOf d (-53) = R1 at *
  generalize rungOf d 0 = R2 at *
  generalize Lib.ctz 64 d = t at *
  clear hA hB hF k3
  go_wp2_with (first | simp only | simp only [hcv])
  refine (hTz.out).mono ?_; rintro e w1 ⟨rfl, rfl⟩
  clear hTz hop hcv
  go_wp2_with fail
  go_quiet (fail)
  go_wp2_with fail
  go_ret3
  exact ⟨⟨_, _, hs.out, rfl⟩, (Drawn.refl _).next _⟩
theorem psplit_other (x : Nat) (w : World) (hx : W64 x) (hk : kindI x ≠ 1) :
    Calls Tryz.prog 203 #[.float .f64 x] w fun e w' => e = .returned (.tuple #[.bool (belowB x), .int .u64 0, .int .i64 0]) ∧ w = w' := by
  have hA := Lib.hid (fun w => fkind_any x w hx)
  have hS := Lib.hid (fun w => signbit_any x w hx)
  have k3 := kind_nan x
  have k1 : (kindI x != 1) = true := by simpa using hk
  unfold belowB
  generalize isNaNB x = n at *
  generalize negB x = b at *
  generalize kindI x = K at *
  clear hk
  cases n
  · go_enter Tryz.func203, Tryz.ntmps203
    go_wp2_with fail
    refine (hA.out _).mono ?_; rintro e w1 ⟨rfl, rfl⟩
    go_wp2_with fail
    refine (hS.out _).mono ?_; rintro e w1 ⟨rfl, rfl⟩
    go_wp2_with fail
    go_ret3
    exact ⟨rfl, rfl⟩
  · go_enter Tryz.func203, Tryz.ntmps203
    go_wp2_with fail
    refine (hA.out _).mono ?_; rintro e w1 ⟨rfl, rfl⟩
    go_wp2_with fail
    go_ret3
    exact ⟨rfl, rfl⟩
theorem rsplit_other (x : Nat) (w : World) (hx : W64 x) (hk : kindI x ≠ 1) :
    Calls Tryz.prog 169 #[.float .f64 x] w fun e w' => e = .returned (.tuple #[.bool (belowB x), .int .u64 0, .int .i64 0]) ∧ Drawn w w' := by
  have hA := Lib.hid (fun w => rkind_any x w hx)
  have hS := Lib.hid (fun w => rbelow_any x w hx)
  have k1 : (kindI x != 1) = true := by simpa using hk
  generalize belowB x = b at *
  generalize kindI x = K at *
  clear hk
  go_enter Tryz.func169, Tryz.ntmps169
  go_wp2_with fail
  refine (hA.out _).mono ?_; rintro e w1 ⟨rfl, hd⟩
  go_wp2_with fail
  refine (hS.out _).mono ?_; rintro e w2 ⟨rfl, rfl⟩
  go_wp2_with fail
  go_ret3
  exact ⟨rfl, hd⟩
set_option maxRecDepth 100000
open Go.RowKit
set_option linter.unusedVariables false
end Go.Proofs.YtigikgphipebiaaGreatDoor
/- The nearest float to a whole number times a power of two: what the program returns. -/
namespace Go.Proofs.YtigikgphipebiaaGreatDoor
set_option maxRecDepth 100000
open Go.RowKit
set_option linter.unusedVariables false
/-- z / 2^n to the nearest whole number, and between two the even one. -/
def rndN (z n : Nat) : Nat := if 2 ^ n < 2 * (z % 2 ^ n) ∨ (2 ^ n = 2 * (z % 2 ^ n) ∧ z / 2 ^ n % 2 = 1) then z / 2 ^ n + 1 else z / 2 ^ n
set_option maxRecDepth 100000
open Go.RowKit
set_option linter.unusedVariables false
def rU (L : Nat) (e : Int) : Int := max ((L : Int) + e - 53) (-1074)
def rN (z L : Nat) (e : Int) : Nat := if rU L e ≤ e then z * 2 ^ (e - rU L e).toNat else rndN z (rU L e - e).toNat
/-- The nearest float to z 2^e. -/
def nearW (z : Nat) (e : Int) : Nat := if z = 0 ∨ e + bitsZ z < -1074 then 0 else if 1024 < e + bitsZ z then 9218868437227405312 else Ieee.double.nearest false (rN z (bitsZ z) e) (rU (bitsZ z) e)
theorem bits_lt_nat {z : Nat} (h0 : z ≠ 0) : z < 2 ^ bitsZ z := by
  have := bits_lt (z := (z : Int)) (by omega)
  have e : ((2 ^ bitsZ z : Nat) : Int) = (2 : Int) ^ bitsZ z := by simp
  omega
end Go.Proofs.YtigikgphipebiaaGreatDoor
/- The nearest float to a number times a power of two: what Join of the reference returns. -/
namespace Go.Proofs.YtigikgphipebiaaGreatDoor
set_option maxRecDepth 100000
open Go.RowKit
set_option linter.unusedVariables false
set_option maxRecDepth 100000
open Go.RowKit
set_option linter.unusedVariables false
theorem sized_two {N : Nat} (h : N ≤ 15000) : Sized 20000 ((2 : Int) ^ N) := by
  have h1 : (2 : Nat) ^ N ≤ 1000 ^ N := Nat.pow_le_pow_left (by decide) N
  have e1 : ((2 ^ N : Nat) : Int) = (2 : Int) ^ N := by simp
  have e2 : ((1000 ^ N : Nat) : Int) = (1000 : Int) ^ N := by simp
  have h2 := p_succ N
  have h3 := p_mono (m := N + 1) (n := 20000) (by omega)
  have h4 := p_pos N
  have h5 := p_pos 20000
  have h6 : (0 : Int) < 2 ^ N := Int.pow_pos (by decide)
  unfold Sized
  omega
theorem sized_less {z : Int} {N : Nat} (h0 : 0 ≤ z) (h1 : z ≤ 2 ^ N) (h : N ≤ 15000) : Sized 20000 z := by
  obtain ⟨a, b⟩ := sized_two h
  exact ⟨by omega, by omega⟩
theorem pow2_less' {m n : Nat} (h : (2 : Int) ^ m < 2 ^ n) : m < n := by
  by_cases g : m < n
  · exact g
  · have := pow2_mono (m := n) (n := m) (by omega); omega
theorem two_lt_iff {z : Nat} {N : Nat} (h0 : z ≠ 0) : (z : Int) < 2 ^ N ↔ bitsZ z ≤ N := by
  have h1 := bits_lt (z := (z : Int)) (by omega)
  have h2 := bits_le (z := (z : Int)) (by omega)
  have h3 := bitsZ_pos (z := (z : Int)) (by omega)
  constructor
  · intro h
    have := pow2_less' (Int.lt_of_le_of_lt h2 h)
    omega
  · intro h
    have := pow2_mono h
    omega
set_option maxRecDepth 100000
open Go.RowKit
set_option linter.unusedVariables false
/-- What the two variables p and q hold. -/
def PQ (w : World) (X : Nat) (a b c d : Value) (x y : Int) (wr : World) : Prop :=
  Four' X a b c d wr ∧ Kept w X 89 wr ∧ Kept w (X + 1) 89 wr ∧ IsNum wr (.agg #[a, b]) x ∧ IsNum wr (.agg #[c, d]) y
theorem PQ.call {w w1 w2 : World} {X : Nat} {a b c d : Value} {x y : Int} (h : PQ w X a b c d x y w1) (hb : Below w1.heap.size w1 w2) : PQ w X a b c d x y w2 := by
  obtain ⟨h1, h2, h3, h4, h5⟩ := h
  exact ⟨h1.call hb, h2.call hb, h3.call hb, h4.below hb, h5.below hb⟩
theorem PQ.start (w : World) {a b c d : Value} {x y : Int} (hx : IsNum w (.agg #[a, b]) x) (hy : IsNum w (.agg #[c, d]) y) :
    PQ w w.heap.size a b c d x y ((w.alloc (.cells #[a, b] 89)).alloc (.cells #[c, d] 89)) := by
  have hB := below_two w (.cells #[a, b] 89) (.cells #[c, d] 89)
  refine ⟨⟨cell_later (below_one _ _) (by simp [go_sem]), cell_later (below_one _ _) (by simp [go_sem]), by simp [go_sem], by simp [go_sem]⟩, (Kept.start w a b _).call (below_one _ _), ?_, hx.below hB, hy.below hB⟩
  have := Kept.start (w.alloc (.cells #[a, b] 89)) c d 89
  simp only [World.size_alloc] at this
  exact this.down (below_one w _)
theorem near_low {z L : Nat} {e : Int} (hL : z < 2 ^ L) (h : e + L < -1074) : rN z L e = 0 := by
  have h1 : rU L e = -1074 := by unfold rU; omega
  unfold rN
  rw [h1, if_neg (by omega)]
  obtain ⟨n, hn⟩ : ∃ n, (-1074 - e).toNat = L + 1 + n := ⟨(-1074 - e).toNat - (L + 1), by omega⟩
  rw [hn]
  have h2 : 2 ^ (L + 1) ≤ 2 ^ (L + 1 + n) := Nat.pow_le_pow_right (by decide) (by omega)
  have h3 : 2 ^ (L + 1) = 2 ^ L * 2 := Nat.pow_succ ..
  unfold rndN
  rw [Nat.div_eq_of_lt (by omega), Nat.mod_eq_of_lt (by omega), if_neg (by omega)]
set_option maxRecDepth 100000
open Go.RowKit
set_option linter.unusedVariables false
end Go.Proofs.YtigikgphipebiaaGreatDoor
/- The nearest float to a quotient times a power of two: what Nearest of the reference returns. -/
namespace Go.Proofs.YtigikgphipebiaaGreatDoor
set_option maxRecDepth 100000
open Go.RowKit
set_option linter.unusedVariables false
/-- A number of at most 3300 bits. -/
def Mid (z : Nat) : Prop := (z : Int) ≤ 2 ^ 3300
theorem Mid.times {z N : Nat} (h : Mid z) (hN : N ≤ 11000) : Sized 20000 ((z : Int) * 2 ^ N) := by
  have h2 : (0 : Int) ≤ 2 ^ N := Int.le_of_lt (Int.pow_pos (by decide))
  have h3 := Int.mul_le_mul_of_nonneg_right h h2
  rw [← Int.pow_add] at h3
  exact sized_less (Int.mul_nonneg (by omega) h2) h3 (by omega)
end Go.Proofs.YtigikgphipebiaaGreatDoor
/- The nearest float to a root of a quotient: by one bit for what is left over. Plain facts. -/
namespace Go.Proofs.YtigikgphipebiaaGreatDoor
set_option maxRecDepth 100000
open Go.RowKit
set_option linter.unusedVariables false
/-- The nearest float, in one formula. -/
theorem nearW_one {z : Nat} (e : Int) (h0 : z ≠ 0) : nearW z e = if 971 < (bitsZ z : Int) + e - 53 then 9218868437227405312 else Ieee.double.nearest false (rN z (bitsZ z) e) (rU (bitsZ z) e) := by
  have hlt := bits_lt_nat h0
  unfold nearW
  by_cases h1 : e + bitsZ z < -1074
  · rw [if_pos (.inr h1), if_neg (by omega), near_low hlt h1, nearest_zero]; rfl
  · rw [if_neg (by omega)]
    by_cases h2 : 1024 < e + bitsZ z
    · rw [if_pos h2, if_pos (by omega)]
    · rw [if_neg h2, if_neg (by omega)]
theorem lt_two_iff {N : Nat} (h0 : N ≠ 0) (k : Nat) : N < 2 ^ k ↔ bitsZ (N : Int) ≤ k := by
  have := two_lt_iff (z := N) (N := k) h0
  have e : ((2 ^ k : Nat) : Int) = (2 : Int) ^ k := by simp
  constructor
  · intro h; exact this.1 (by omega)
  · intro h; have := this.2 h; omega
set_option maxRecDepth 100000
open Go.RowKit
set_option linter.unusedVariables false
/-- Is m 2^u at most the root of p by q? -/
def fitsB (m : Nat) (u : Int) (p q : Nat) : Bool := if 0 ≤ u then decide (m * m * q * 2 ^ (2 * u).toNat ≤ p) else decide (m * m * q ≤ p * 2 ^ (-2 * u).toNat)
theorem fitsB_less {m n : Nat} {u : Int} {p q : Nat} (h : fitsB n u p q = true) (hm : m ≤ n) : fitsB m u p q = true := by
  unfold fitsB at *
  have h1 : m * m ≤ n * n := Nat.mul_le_mul hm hm
  by_cases hu : 0 ≤ u
  · rw [if_pos hu] at h ⊢
    simp only [decide_eq_true_eq] at h ⊢
    exact Nat.le_trans (Nat.mul_le_mul_right _ (Nat.mul_le_mul_right _ h1)) h
  · rw [if_neg hu] at h ⊢
    simp only [decide_eq_true_eq] at h ⊢
    exact Nat.le_trans (Nat.mul_le_mul_right _ h1) h
def leastFit (p q : Nat) : Nat → Int → Int
  | 0, k => k
  | n + 1, k => if fitsB (2 ^ 53) k p q then leastFit p q n (k + 1) else k
/-- The unit of a root. -/
def uF (p q : Nat) : Int := leastFit p q 2674 (-1074)
/-- The units that fit: all of them and no more. -/
def IsFit (p q m : Nat) : Prop := fitsB m (uF p q) p q = true ∧ fitsB (m + 1) (uF p q) p q = false
theorem IsFit.unique {p q m n : Nat} (h : IsFit p q m) (k : IsFit p q n) : m = n := by
  rcases Nat.lt_trichotomy m n with g | g | g
  · have := fitsB_less k.1 (show m + 1 ≤ n by omega); rw [h.2] at this; cases this
  · exact g
  · have := fitsB_less h.1 (show n + 1 ≤ m by omega); rw [k.2] at this; cases this
set_option maxRecDepth 100000
open Go.RowKit
set_option linter.unusedVariables false
/-- r is the root of p 4^h by q, rounded down; x tells whether anything is left over. -/
def IsRoo (p q h r x : Nat) : Prop := r * r * q ≤ p * 2 ^ (2 * h) ∧ p * 2 ^ (2 * h) < (r + 1) * (r + 1) * q ∧ ((x = 0 ∧ r * r * q = p * 2 ^ (2 * h)) ∨ (x = 1 ∧ r * r * q < p * 2 ^ (2 * h)))
theorem IsRoo.sq {p q h r x : Nat} (g : IsRoo p q h r x) (a : Nat) : a * a * q ≤ p * 2 ^ (2 * h) ↔ a ≤ r := by
  constructor
  · intro h1
    apply Classical.byContradiction
    intro h2
    have h3 : r + 1 ≤ a := by omega
    have h4 := Nat.mul_le_mul_right q (Nat.mul_le_mul h3 h3)
    have := g.2.1
    omega
  · intro h1
    exact Nat.le_trans (Nat.mul_le_mul_right q (Nat.mul_le_mul h1 h1)) g.1
theorem bits_upto {M N : Nat} (h0 : M ≠ 0) (h : M < 2 ^ N) : bitsZ (M : Int) ≤ N := (lt_two_iff h0 N).1 h
end Go.Proofs.YtigikgphipebiaaGreatDoor
