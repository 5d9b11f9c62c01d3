/- Layer 12: the reference's Get. -/
import Derived.Test.YtdnbjaeeebodkaaGreatFlor
import Derived.Test.YtdnbjaeeebodkaaGreatCodei
import Derived.Test.YtdnbjaeeebodkaaGreatFacs
import Derived.Test.YtdnbjaeeebodkaaGreatFace
import Derived.Test.YtdnbjaeeebodkaaGreatSchx
import Derived.Deep.RegionLaw
namespace Go.Proofs.YtdnbjaeeebodkaaGreat
set_option maxRecDepth 100000
open Go.RowKit
set_option linter.unusedVariables false
theorem near_canon {z : Nat} {e : Int} (hc : Canon z e) (he : e ≤ 971) (h0 : z ≠ 0) : nearW z e = rungOf z e := by
  have hlz := log2_le hc.1
  have hL : bitsZ (z : Int) = z.log2 + 1 := by unfold bitsZ; rw [if_neg (by omega), Int.toNat_natCast]
  have hq0 := hc.2.1
  have hb := bits_lt_nat h0
  unfold nearW
  rw [if_neg (by omega), if_neg (by omega)]
  obtain ⟨f1, f2, f3, f4, f5⟩ := near_facts (e := e) hb (by omega) (by omega)
  have hu : rU (bitsZ (z : Int)) e ≤ e := by unfold rU; omega
  refine (fvc hc he).nearest ?_
  exact ⟨(e - rU (bitsZ (z : Int)) e).toNat, .inr ⟨by omega, (f4 hu).1⟩⟩
theorem near_sub {m : Nat} (h : m < 4503599627370496) : nearW m (-1074) = m := by
  by_cases h0 : m = 0
  · subst h0; unfold nearW; rw [if_pos (.inl rfl)]
  · rw [near_canon ⟨by omega, by omega, .inr rfl⟩ (by omega) h0]
    unfold rungOf
    simp
theorem near_nrm {m E : Nat} (h : m < 4503599627370496) (h1 : 1 ≤ E) (h2 : E ≤ 2046) : nearW (m + 4503599627370496) ((E : Int) - 1075) = E * 4503599627370496 + m := by
  rw [near_canon ⟨by omega, by omega, .inl (by omega)⟩ (by omega) (by omega)]
  unfold rungOf
  have e : ((E : Int) - 1075 + 1074).toNat = E - 1 := by omega
  rw [e]
  omega
theorem bits_small {z : Nat} (h : z < 9007199254740992) : bitsZ (z : Int) ≤ 400 := by
  by_cases h0 : z = 0
  · subst h0; decide
  · have hlz := log2_le h
    unfold bitsZ
    rw [if_neg (by omega), Int.toNat_natCast]
    omega
/-- What a key's number leaves. -/
def FloatP (w : World) (K : Int) (r : Ending) (w' : World) : Prop := (∃ x : Nat, r = .returned (.float .f64 x) ∧ W64 x ∧ keyI x = K) ∧ Below w.heap.size w w'
theorem key_of_nan {x : Nat} (h : isNaNB x = true) : keyI x = 18446744073709551615 := by unfold keyI; rw [if_pos h]
theorem divnan {P : Program} (t : TypeId) (w : World) : (binOp .quo t (.float .f64 0) (.float .f64 0)).run P w = .ok (.float .f64 (nanOf w 0)) w.drew := by
  have h2 : FloatKind.f64.format.div 0 0 = none := by decide +kernel
  simp [binOp, Op.floatArith, h2, nanOf, Question.forced]
theorem from_flip {K : Int} {R : Nat} (h0 : 4503599627370495 ≤ K) (h1 : K < 9223372036854775808) (hR : (R : Int) = 9223372036854775807 - K) : W64 (flipN R) ∧ keyI (flipN R) = K := by
  have hk : Keyed K := .inr ⟨h0, by omega⟩
  have e : flipN R = fromN K := by
    have e1 : fromN K = (18446744073709551615 - K).toNat := by unfold fromN; rw [if_neg (by omega), if_neg (by omega)]
    rw [e1]
    unfold flipN
    split <;> omega
  rw [e]
  exact ⟨(keyed_from hk).1, (keyed_from hk).2.1⟩
theorem from_stay {K : Int} {R : Nat} (h0 : 9223372036854775808 ≤ K) (h1 : K ≤ 18442240474082181120) (hR : (R : Int) = K - 9223372036854775808) : W64 R ∧ keyI R = K := by
  have hk : Keyed K := .inr ⟨by omega, h1⟩
  have e : R = fromN K := by
    unfold fromN
    rw [if_neg (by omega), if_pos (by omega)]
    omega
  rw [e]
  exact ⟨(keyed_from hk).1, (keyed_from hk).2.1⟩
set_option maxHeartbeats 2000000 in
theorem float_nan (w : World) : Calls Tryz.prog 21 #[.int .u64 18446744073709551615] w (FloatP w 18446744073709551615) := by
  have hop := fun t w => divnan (P := Tryz.prog) t w
  go_enter Tryz.func21, Tryz.ntmps21
  go_wp2_with (simp only [hop])
  go_ret
  exact ⟨⟨_, rfl, (nanOf_nan _ _).2, key_of_nan (nanOf_nan _ _).1⟩, (Below.refl _ _).drew⟩
set_option maxHeartbeats 4000000 in
theorem float_neg_inf (w : World) (K : Int) (R E m : Nat) (h0 : 4503599627370495 ≤ K) (h1 : K < 9223372036854775808) (hR : (R : Int) = 9223372036854775807 - K) (hRm : R ≤ 9218868437227405312) (hE : R = E * 4503599627370496 + m) (hm : m < 4503599627370496) (hc : E = 2047) :
    Calls Tryz.prog 21 #[.int .u64 K] w (FloatP w K) := by
  have hv := from_flip h0 h1 hR
  have k0 : (K == 18446744073709551615) = false := by rw [beq_eq_false_iff_ne]; omega
  have k1 : decide (K < 9223372036854775808) = true := decide_eq_true h1
  have kR : IntKind.u64.wrap (9223372036854775807 - K) = (R : Int) := by rw [IntKind.wrap_u64]; omega
  obtain ⟨Q, hQ⟩ : ∃ Q, IntKind.u64.wrap (K - 9223372036854775808) = Q := ⟨_, rfl⟩
  have d1 : (R : Int) / 4503599627370496 = (E : Int) := by omega
  have d2 : (R : Int) % 4503599627370496 = (m : Int) := by omega
  have d3 : (R : Int).tdiv 4503599627370496 = (E : Int) := by rw [Int.tdiv_eq_ediv_of_nonneg (by omega)]; exact d1
  have d4 : (R : Int).tmod 4503599627370496 = (m : Int) := by rw [Int.tmod_eq_emod_of_nonneg (by omega)]; exact d2
  have i1 : IntKind.i64.wrap (E : Int) = (E : Int) := IntWalk.i64_in _ (by omega)
  have hW : W64 R := by unfold W64; omega
  have hU : ∀ w, (Op.unary .neg (.float .f64 R)).run Tryz.prog w = .ok (.float .f64 (flipN R)) w := fun w => run_neg R hW w
  have hRi : R = 9218868437227405312 := by omega
  have hf : floatBits .quo .f64 4607182418800017408 0 = some 9218868437227405312 := by decide +kernel
  have hop : ∀ t w, (binOp .quo t (.float .f64 4607182418800017408) (.float .f64 0)).run Tryz.prog w = .ok (.float .f64 9218868437227405312) w := fun t w => run_float_arith w .quo t .f64 _ _ _ hf
  have e1 : ((E : Int) == 2047) = true := by rw [hc]; rfl
  rw [hRi] at hU

  have HV := Lib.hid hv
  clear hR hE hv hf hc
  go_enter Tryz.func21, Tryz.ntmps21
  go_wp2_with (simp only [hop, hU])
  go_ret
  exact ⟨⟨_, rfl, by have := HV.out; rwa [hRi] at this⟩, Below.refl _ _⟩
set_option maxHeartbeats 4000000 in
theorem float_neg_low (w : World) (K : Int) (R E m : Nat) (h0 : 4503599627370495 ≤ K) (h1 : K < 9223372036854775808) (hR : (R : Int) = 9223372036854775807 - K) (hRm : R ≤ 9218868437227405312) (hE : R = E * 4503599627370496 + m) (hm : m < 4503599627370496) (hc : E = 0) :
    Calls Tryz.prog 21 #[.int .u64 K] w (FloatP w K) := by
  have hv := from_flip h0 h1 hR
  have k0 : (K == 18446744073709551615) = false := by rw [beq_eq_false_iff_ne]; omega
  have k1 : decide (K < 9223372036854775808) = true := decide_eq_true h1
  have kR : IntKind.u64.wrap (9223372036854775807 - K) = (R : Int) := by rw [IntKind.wrap_u64]; omega
  obtain ⟨Q, hQ⟩ : ∃ Q, IntKind.u64.wrap (K - 9223372036854775808) = Q := ⟨_, rfl⟩
  have d1 : (R : Int) / 4503599627370496 = (E : Int) := by omega
  have d2 : (R : Int) % 4503599627370496 = (m : Int) := by omega
  have d3 : (R : Int).tdiv 4503599627370496 = (E : Int) := by rw [Int.tdiv_eq_ediv_of_nonneg (by omega)]; exact d1
  have d4 : (R : Int).tmod 4503599627370496 = (m : Int) := by rw [Int.tmod_eq_emod_of_nonneg (by omega)]; exact d2
  have i1 : IntKind.i64.wrap (E : Int) = (E : Int) := IntWalk.i64_in _ (by omega)
  have hW : W64 R := by unfold W64; omega
  have hU : ∀ w, (Op.unary .neg (.float .f64 R)).run Tryz.prog w = .ok (.float .f64 (flipN R)) w := fun w => run_neg R hW w
  have e1 : ((E : Int) == 2047) = false := by rw [hc]; rfl
  have e2 : ((E : Int) == 0) = true := by rw [hc]; rfl
  have hRe : nearW m (-1074) = R := by rw [near_sub hm]; omega
  have HNt := Lib.hid (nat_any (m : Int) w (by omega) (by omega))
  have HJ := Lib.hid (fun w1 v (h : IsNum w1 v (m : Int)) => rjoin_any false v m (-1074) w1 h (bits_small (by omega)) (by omega) (by omega))
  rw [hRe] at HJ

  have HV := Lib.hid hv
  clear hR hE hv hRe hc
  go_enter Tryz.func21, Tryz.ntmps21
  go_wp2_with fail
  refine (HNt.out).mono ?_; rintro r w1 hr
  obtain ⟨v, rfl, hn, hb1⟩ := hr
  have HNu := Lib.hid (And.intro hn hb1)
  obtain ⟨nb, np, nl, nc, rfl⟩ := hn.shape
  clear hn hb1
  go_wp2_with fail
  refine (HJ.out _ _ HNu.out.1).mono ?_; rintro r w2 ⟨rfl, hb2⟩
  have HB2 := Lib.hid (below_then HNu.out.2 hb2)
  clear hb2
  go_wp2_with (simp only [signN, Bool.false_eq_true, if_false])
  go_ret
  exact ⟨⟨_, rfl, HV.out⟩, HB2.out⟩
set_option maxHeartbeats 4000000 in
theorem float_neg_high (w : World) (K : Int) (R E m : Nat) (h0 : 4503599627370495 ≤ K) (h1 : K < 9223372036854775808) (hR : (R : Int) = 9223372036854775807 - K) (hRm : R ≤ 9218868437227405312) (hE : R = E * 4503599627370496 + m) (hm : m < 4503599627370496) (hc : 1 ≤ E ∧ E ≤ 2046) :
    Calls Tryz.prog 21 #[.int .u64 K] w (FloatP w K) := by
  have hv := from_flip h0 h1 hR
  have k0 : (K == 18446744073709551615) = false := by rw [beq_eq_false_iff_ne]; omega
  have k1 : decide (K < 9223372036854775808) = true := decide_eq_true h1
  have kR : IntKind.u64.wrap (9223372036854775807 - K) = (R : Int) := by rw [IntKind.wrap_u64]; omega
  obtain ⟨Q, hQ⟩ : ∃ Q, IntKind.u64.wrap (K - 9223372036854775808) = Q := ⟨_, rfl⟩
  have d1 : (R : Int) / 4503599627370496 = (E : Int) := by omega
  have d2 : (R : Int) % 4503599627370496 = (m : Int) := by omega
  have d3 : (R : Int).tdiv 4503599627370496 = (E : Int) := by rw [Int.tdiv_eq_ediv_of_nonneg (by omega)]; exact d1
  have d4 : (R : Int).tmod 4503599627370496 = (m : Int) := by rw [Int.tmod_eq_emod_of_nonneg (by omega)]; exact d2
  have i1 : IntKind.i64.wrap (E : Int) = (E : Int) := IntWalk.i64_in _ (by omega)
  have hW : W64 R := by unfold W64; omega
  have hU : ∀ w, (Op.unary .neg (.float .f64 R)).run Tryz.prog w = .ok (.float .f64 (flipN R)) w := fun w => run_neg R hW w
  have e1 : ((E : Int) == 2047) = false := by rw [beq_eq_false_iff_ne]; omega
  have e2 : ((E : Int) == 0) = false := by rw [beq_eq_false_iff_ne]; omega
  have e3 : wrap64 ((E : Int) - 1075) = (E : Int) - 1075 := wrap64_in (by omega) (by omega)
  have e4 : IntKind.i64.wrap ((E : Int) - 1075) = (E : Int) - 1075 := IntWalk.i64_in _ (by omega)
  have e5 : IntKind.u64.wrap ((m : Int) + 4503599627370496) = (m : Int) + 4503599627370496 := by rw [IntKind.wrap_u64]; omega
  have hRe : nearW (m + 4503599627370496) ((E : Int) - 1075) = R := by rw [near_nrm hm hc.1 hc.2]; omega
  have HNt := Lib.hid (nat_any ((m : Int) + 4503599627370496) w (by omega) (by omega))
  have HJ := Lib.hid (fun w1 v (h : IsNum w1 v ((m : Int) + 4503599627370496)) => rjoin_any false v (m + 4503599627370496) ((E : Int) - 1075) w1 (by rw [Int.natCast_add]; exact h) (bits_small (by omega)) (by omega) (by omega))
  rw [hRe] at HJ

  have HV := Lib.hid hv
  clear hR hE hv hRe hc
  go_enter Tryz.func21, Tryz.ntmps21
  go_wp2_with fail
  refine (HNt.out).mono ?_; rintro r w1 hr
  obtain ⟨v, rfl, hn, hb1⟩ := hr
  have HNu := Lib.hid (And.intro hn hb1)
  obtain ⟨nb, np, nl, nc, rfl⟩ := hn.shape
  clear hn hb1
  go_wp2_with fail
  refine (HJ.out _ _ HNu.out.1).mono ?_; rintro r w2 ⟨rfl, hb2⟩
  have HB2 := Lib.hid (below_then HNu.out.2 hb2)
  clear hb2
  go_wp2_with (simp only [signN, Bool.false_eq_true, if_false])
  go_ret
  exact ⟨⟨_, rfl, HV.out⟩, HB2.out⟩
set_option maxHeartbeats 4000000 in
theorem float_pos_inf (w : World) (K : Int) (R E m : Nat) (h0 : 9223372036854775808 ≤ K) (h1 : K ≤ 18442240474082181120) (hR : (R : Int) = K - 9223372036854775808) (hRm : R ≤ 9218868437227405312) (hE : R = E * 4503599627370496 + m) (hm : m < 4503599627370496) (hc : E = 2047) :
    Calls Tryz.prog 21 #[.int .u64 K] w (FloatP w K) := by
  have hv := from_stay h0 h1 hR
  have k0 : (K == 18446744073709551615) = false := by rw [beq_eq_false_iff_ne]; omega
  have k1 : decide (K < 9223372036854775808) = false := decide_eq_false (by omega)
  have kR : IntKind.u64.wrap (K - 9223372036854775808) = (R : Int) := by rw [IntKind.wrap_u64]; omega
  skip
  have d1 : (R : Int) / 4503599627370496 = (E : Int) := by omega
  have d2 : (R : Int) % 4503599627370496 = (m : Int) := by omega
  have d3 : (R : Int).tdiv 4503599627370496 = (E : Int) := by rw [Int.tdiv_eq_ediv_of_nonneg (by omega)]; exact d1
  have d4 : (R : Int).tmod 4503599627370496 = (m : Int) := by rw [Int.tmod_eq_emod_of_nonneg (by omega)]; exact d2
  have i1 : IntKind.i64.wrap (E : Int) = (E : Int) := IntWalk.i64_in _ (by omega)
  have hRi : R = 9218868437227405312 := by omega
  have hf : floatBits .quo .f64 4607182418800017408 0 = some 9218868437227405312 := by decide +kernel
  have hop : ∀ t w, (binOp .quo t (.float .f64 4607182418800017408) (.float .f64 0)).run Tryz.prog w = .ok (.float .f64 9218868437227405312) w := fun t w => run_float_arith w .quo t .f64 _ _ _ hf
  have e1 : ((E : Int) == 2047) = true := by rw [hc]; rfl

  have HV := Lib.hid hv
  clear hR hE hv hf hc
  go_enter Tryz.func21, Tryz.ntmps21
  go_wp2_with (simp only [hop])
  go_ret
  exact ⟨⟨_, rfl, by have := HV.out; rwa [hRi] at this⟩, Below.refl _ _⟩
set_option maxHeartbeats 4000000 in
theorem float_pos_low (w : World) (K : Int) (R E m : Nat) (h0 : 9223372036854775808 ≤ K) (h1 : K ≤ 18442240474082181120) (hR : (R : Int) = K - 9223372036854775808) (hRm : R ≤ 9218868437227405312) (hE : R = E * 4503599627370496 + m) (hm : m < 4503599627370496) (hc : E = 0) :
    Calls Tryz.prog 21 #[.int .u64 K] w (FloatP w K) := by
  have hv := from_stay h0 h1 hR
  have k0 : (K == 18446744073709551615) = false := by rw [beq_eq_false_iff_ne]; omega
  have k1 : decide (K < 9223372036854775808) = false := decide_eq_false (by omega)
  have kR : IntKind.u64.wrap (K - 9223372036854775808) = (R : Int) := by rw [IntKind.wrap_u64]; omega
  skip
  have d1 : (R : Int) / 4503599627370496 = (E : Int) := by omega
  have d2 : (R : Int) % 4503599627370496 = (m : Int) := by omega
  have d3 : (R : Int).tdiv 4503599627370496 = (E : Int) := by rw [Int.tdiv_eq_ediv_of_nonneg (by omega)]; exact d1
  have d4 : (R : Int).tmod 4503599627370496 = (m : Int) := by rw [Int.tmod_eq_emod_of_nonneg (by omega)]; exact d2
  have i1 : IntKind.i64.wrap (E : Int) = (E : Int) := IntWalk.i64_in _ (by omega)
  have e1 : ((E : Int) == 2047) = false := by rw [hc]; rfl
  have e2 : ((E : Int) == 0) = true := by rw [hc]; rfl
  have hRe : nearW m (-1074) = R := by rw [near_sub hm]; omega
  have HNt := Lib.hid (nat_any (m : Int) w (by omega) (by omega))
  have HJ := Lib.hid (fun w1 v (h : IsNum w1 v (m : Int)) => rjoin_any false v m (-1074) w1 h (bits_small (by omega)) (by omega) (by omega))
  rw [hRe] at HJ

  have HV := Lib.hid hv
  clear hR hE hv hRe hc
  go_enter Tryz.func21, Tryz.ntmps21
  go_wp2_with fail
  refine (HNt.out).mono ?_; rintro r w1 hr
  obtain ⟨v, rfl, hn, hb1⟩ := hr
  have HNu := Lib.hid (And.intro hn hb1)
  obtain ⟨nb, np, nl, nc, rfl⟩ := hn.shape
  clear hn hb1
  go_wp2_with fail
  refine (HJ.out _ _ HNu.out.1).mono ?_; rintro r w2 ⟨rfl, hb2⟩
  have HB2 := Lib.hid (below_then HNu.out.2 hb2)
  clear hb2
  go_wp2_with (simp only [signN, Bool.false_eq_true, if_false])
  go_ret
  exact ⟨⟨_, rfl, HV.out⟩, HB2.out⟩
set_option maxHeartbeats 4000000 in
theorem float_pos_high (w : World) (K : Int) (R E m : Nat) (h0 : 9223372036854775808 ≤ K) (h1 : K ≤ 18442240474082181120) (hR : (R : Int) = K - 9223372036854775808) (hRm : R ≤ 9218868437227405312) (hE : R = E * 4503599627370496 + m) (hm : m < 4503599627370496) (hc : 1 ≤ E ∧ E ≤ 2046) :
    Calls Tryz.prog 21 #[.int .u64 K] w (FloatP w K) := by
  have hv := from_stay h0 h1 hR
  have k0 : (K == 18446744073709551615) = false := by rw [beq_eq_false_iff_ne]; omega
  have k1 : decide (K < 9223372036854775808) = false := decide_eq_false (by omega)
  have kR : IntKind.u64.wrap (K - 9223372036854775808) = (R : Int) := by rw [IntKind.wrap_u64]; omega
  skip
  have d1 : (R : Int) / 4503599627370496 = (E : Int) := by omega
  have d2 : (R : Int) % 4503599627370496 = (m : Int) := by omega
  have d3 : (R : Int).tdiv 4503599627370496 = (E : Int) := by rw [Int.tdiv_eq_ediv_of_nonneg (by omega)]; exact d1
  have d4 : (R : Int).tmod 4503599627370496 = (m : Int) := by rw [Int.tmod_eq_emod_of_nonneg (by omega)]; exact d2
  have i1 : IntKind.i64.wrap (E : Int) = (E : Int) := IntWalk.i64_in _ (by omega)
  have e1 : ((E : Int) == 2047) = false := by rw [beq_eq_false_iff_ne]; omega
  have e2 : ((E : Int) == 0) = false := by rw [beq_eq_false_iff_ne]; omega
  have e3 : wrap64 ((E : Int) - 1075) = (E : Int) - 1075 := wrap64_in (by omega) (by omega)
  have e4 : IntKind.i64.wrap ((E : Int) - 1075) = (E : Int) - 1075 := IntWalk.i64_in _ (by omega)
  have e5 : IntKind.u64.wrap ((m : Int) + 4503599627370496) = (m : Int) + 4503599627370496 := by rw [IntKind.wrap_u64]; omega
  have hRe : nearW (m + 4503599627370496) ((E : Int) - 1075) = R := by rw [near_nrm hm hc.1 hc.2]; omega
  have HNt := Lib.hid (nat_any ((m : Int) + 4503599627370496) w (by omega) (by omega))
  have HJ := Lib.hid (fun w1 v (h : IsNum w1 v ((m : Int) + 4503599627370496)) => rjoin_any false v (m + 4503599627370496) ((E : Int) - 1075) w1 (by rw [Int.natCast_add]; exact h) (bits_small (by omega)) (by omega) (by omega))
  rw [hRe] at HJ

  have HV := Lib.hid hv
  clear hR hE hv hRe hc
  go_enter Tryz.func21, Tryz.ntmps21
  go_wp2_with fail
  refine (HNt.out).mono ?_; rintro r w1 hr
  obtain ⟨v, rfl, hn, hb1⟩ := hr
  have HNu := Lib.hid (And.intro hn hb1)
  obtain ⟨nb, np, nl, nc, rfl⟩ := hn.shape
  clear hn hb1
  go_wp2_with fail
  refine (HJ.out _ _ HNu.out.1).mono ?_; rintro r w2 ⟨rfl, hb2⟩
  have HB2 := Lib.hid (below_then HNu.out.2 hb2)
  clear hb2
  go_wp2_with (simp only [signN, Bool.false_eq_true, if_false])
  go_ret
  exact ⟨⟨_, rfl, HV.out⟩, HB2.out⟩
theorem float_any (w : World) (K : Int) (hk : Keyed K) : Calls Tryz.prog 21 #[.int .u64 K] w (FloatP w K) := by
  rcases hk with rfl | ⟨h0, h1⟩
  · exact float_nan w
  · by_cases hb : K < 9223372036854775808
    · obtain ⟨R, hR⟩ : ∃ R : Nat, (R : Int) = 9223372036854775807 - K := ⟨(9223372036854775807 - K).toNat, by omega⟩
      have hE : R = R / 4503599627370496 * 4503599627370496 + R % 4503599627370496 := by omega
      have hm : R % 4503599627370496 < 4503599627370496 := Nat.mod_lt _ (by decide)
      by_cases c1 : R / 4503599627370496 = 2047
      · exact float_neg_inf w K R _ _ h0 hb hR (by omega) hE hm c1
      · by_cases c2 : R / 4503599627370496 = 0
        · exact float_neg_low w K R _ _ h0 hb hR (by omega) hE hm c2
        · exact float_neg_high w K R _ _ h0 hb hR (by omega) hE hm (by omega)
    · obtain ⟨R, hR⟩ : ∃ R : Nat, (R : Int) = K - 9223372036854775808 := ⟨(K - 9223372036854775808).toNat, by omega⟩
      have hE : R = R / 4503599627370496 * 4503599627370496 + R % 4503599627370496 := by omega
      have hm : R % 4503599627370496 < 4503599627370496 := Nat.mod_lt _ (by decide)
      by_cases c1 : R / 4503599627370496 = 2047
      · exact float_pos_inf w K R _ _ (by omega) h1 hR (by omega) hE hm c1
      · by_cases c2 : R / 4503599627370496 = 0
        · exact float_pos_low w K R _ _ (by omega) h1 hR (by omega) hE hm c2
        · exact float_pos_high w K R _ _ (by omega) h1 hR (by omega) hE hm (by omega)
set_option maxRecDepth 100000
open Go.RowKit
set_option linter.unusedVariables false
theorem stF_w64 {b : List Int} (s : Nat × Nat) : W64 (stF b s).1 := by
  unfold stF
  split
  · simp only
    split
    · rename_i h
      have hk : Keyed (getF (b.drop s.1)).1 := by
        unfold getF at h ⊢
        by_cases h8 : 8 ≤ (b.drop s.1).length
        · rw [if_pos h8] at h ⊢
          by_cases hk : Keyed (fillN (b.drop s.1) 0 8)
          · rw [if_pos hk]; exact hk
          · rw [if_neg hk] at h; simp at h
        · rw [if_neg h8] at h
          split at h <;> simp at h
      exact (keyed_from hk).1
    · show W64 0; unfold W64; decide
  · show W64 0; unfold W64; decide
theorem rdFa_small {b : List Int} (hb : Bt b) {S : Sc} (hc : checkL S = 0) (s : Nat × Nat) : Small (rdFa b (mostsS S) S.is.length S.ns.length s).1 := by
  have hcn := cnt_iff.1 (check_cnt' hc).1
  have l1 : (rdC b (mostsS S) s).1.length = S.ds.length := by
    have := (listK_st (P := fun _ => True) (fun _ _ _ => True.intro) (rd := fun k s => stU b ((mostsS S).getD k 0) s) (s := s) True.intro (mostsS S).length).2
    rw [mosts_len] at this
    unfold rdC; rw [mosts_len]; exact this
  have l2 : (rdI2 b S.is.length (rdC b (mostsS S) s).2).1.length = S.is.length := (listK_st (P := fun _ => True) (fun _ _ _ => True.intro) (rd := fun _ s => stI b s) True.intro _).2
  have l3 : (rdN2 b S.ns.length (rdI2 b S.is.length (rdC b (mostsS S) s).2).2).1.length = S.ns.length := (listK_st (P := fun _ => True) (fun _ _ _ => True.intro) (rd := fun _ s => stF b s) True.intro _).2
  have hC : ∀ x ∈ (rdC b (mostsS S) s).1, 0 ≤ x ∧ x ≤ 4096 := fun x hx => by
    obtain ⟨j, hj⟩ := List.getElem?_of_mem hx
    refine listK_all (rd := fun k s => stU b ((mostsS S).getD k 0) s) (Q := fun _ x => 0 ≤ x ∧ x ≤ 4096) (fun k s => ?_) s (mostsS S).length j x hj
    by_cases hk : k < S.ds.length
    · have hz := check_siz hc hk
      have := stU_val hb (most := (mostsS S).getD k 0) (by rw [mosts_get hk]; omega) s
      rw [mosts_get hk] at this ⊢
      omega
    · have e0 : (mostsS S).getD k 0 = 0 := by
        have hl := mosts_len S
        simp [List.getD, List.getElem?_eq_none (show (mostsS S).length ≤ k by omega)]
      have := stU_val hb (most := (mostsS S).getD k 0) (by rw [e0]; omega) s
      rw [e0] at this ⊢
      omega
  refine ⟨⟨fun x hx => ?_, fun x hx => ?_, fun x hx => ?_, ?_⟩, hC, ?_⟩
  · have := hC x hx; omega
  · obtain ⟨j, hj⟩ := List.getElem?_of_mem hx
    exact listK_all (rd := fun _ s => stI b s) (Q := fun _ x => -9223372036854775808 ≤ x ∧ x ≤ 9223372036854775807) (fun k s => stI_val hb s) _ _ j x hj
  · obtain ⟨j, hj⟩ := List.getElem?_of_mem hx
    exact listK_all (rd := fun _ s => stF b s) (Q := fun _ x => W64 x) (fun k s => stF_w64 s) _ _ j x hj
  · show (rdC b (mostsS S) s).1.length ≤ _ ∧ (rdI2 b S.is.length (rdC b (mostsS S) s).2).1.length ≤ _ ∧ (rdN2 b S.ns.length (rdI2 b S.is.length (rdC b (mostsS S) s).2).2).1.length ≤ _
    omega
  · show (rdC b (mostsS S) s).1.length ≤ _ ∧ (rdI2 b S.is.length (rdC b (mostsS S) s).2).1.length ≤ _ ∧ (rdN2 b S.ns.length (rdI2 b S.is.length (rdC b (mostsS S) s).2).2).1.length ≤ _
    omega
theorem rdB_small {b : List Int} (hb : Bt b) {S : Sc} (hc : checkL S = 0) : ∀ f ∈ (rdB b (mostsS S) S.is.length S.ns.length).1, Small f := fun f hf => by
  obtain ⟨j, hj⟩ := List.getElem?_of_mem hf
  exact listK_all (rd := fun _ s => rdFa b (mostsS S) S.is.length S.ns.length s) (Q := fun _ f => Small f) (fun k s => rdFa_small hb hc s) _ _ j f hj
theorem small_key {f g : Fa} (h : keyF f = keyF g) (hg : Small g) (hn : ∀ x ∈ f.ns, W64 x) : Small f := by
  unfold keyF at h
  simp only [Prod.mk.injEq] at h
  obtain ⟨h1, h2, h3⟩ := h
  have hl : f.ns.length = g.ns.length := by have := congrArg List.length h3; simpa using this
  refine ⟨⟨by rw [h1]; exact hg.wf.c, by rw [h2]; exact hg.wf.i, hn, ?_⟩, by rw [h1]; exact hg.c, ?_⟩
  · rw [h1, h2, hl]; exact hg.wf.l
  · rw [h1, h2, hl]; exact hg.l
theorem smalls_key : ∀ {l m : List Fa}, l.map keyF = m.map keyF → (∀ f ∈ m, Small f) → (∀ f ∈ l, ∀ x ∈ f.ns, W64 x) → ∀ f ∈ l, Small f
  | [], _, _, _, _, f, hf => by simp at hf
  | f :: l, [], h, _, _, _, _ => by simp at h
  | f :: l, g :: m, h, hm, hl, k, hk => by
    simp only [List.map_cons, List.cons.injEq] at h
    rcases List.mem_cons.1 hk with rfl | hk
    · exact small_key h.1 (hm g (List.mem_cons_self ..)) (hl k (List.mem_cons_self ..))
    · exact smalls_key h.2 (fun f hf => hm f (List.mem_cons_of_mem _ hf)) (fun f hf => hl f (List.mem_cons_of_mem _ hf)) k hk
theorem encs_key : ∀ {l m : List Fa}, l.map keyF = m.map keyF → l.flatMap encFa = m.flatMap encFa
  | [], [], _ => rfl
  | [], _ :: _, h => by simp at h
  | _ :: _, [], h => by simp at h
  | f :: l, g :: m, h => by
    simp only [List.map_cons, List.cons.injEq] at h
    rw [List.flatMap_cons, List.flatMap_cons, enc_key h.1, encs_key h.2]
theorem encFs_key {l m : List Fa} (h : l.map keyF = m.map keyF) : encFs l = encFs m := by
  have hl : l.length = m.length := by have := congrArg List.length h; simpa using this
  unfold encFs
  rw [encs_key h, hl]
/-- A reader with an error stays where it is. -/
theorem listK_stay {α : Type} {rd : Nat → Nat × Nat → α × Nat × Nat} (h : ∀ k s, s.2 ≠ 0 → (rd k s).2 = s) {s : Nat × Nat} {k : Nat} (hk : (listK rd s k).2.2 ≠ 0) : ∀ j, (listK rd s (k + j)).2 = (listK rd s k).2
  | 0 => rfl
  | j + 1 => by
    have ih := listK_stay h hk j
    show (rd (k + j) (listK rd s (k + j)).2).2 = _
    rw [ih]
    exact h _ _ hk
theorem listK_err {α : Type} {rd : Nat → Nat × Nat → α × Nat × Nat} (h : ∀ k s, s.2 ≠ 0 → (rd k s).2 = s) {s : Nat × Nat} (hs : s.2 ≠ 0) (j : Nat) : (listK rd s j).2 = s := by
  have := listK_stay h (s := s) (k := 0) hs j
  rwa [Nat.zero_add] at this
theorem rdFa_err {b ms : List Int} {ni nn : Nat} (s : Nat × Nat) (hs : s.2 ≠ 0) : (rdFa b ms ni nn s).2 = s := by
  have e1 : (rdC b ms s).2 = s := listK_err (fun k s h => by unfold stU; rw [if_neg h]) hs _
  have e2 : (rdI2 b ni s).2 = s := listK_err (fun k s h => by unfold stI; rw [if_neg h]) hs _
  have e3 : (rdN2 b nn s).2 = s := listK_err (fun k s h => by unfold stF; rw [if_neg h]) hs _
  show (rdN2 b nn (rdI2 b ni (rdC b ms s).2).2).2 = s
  rw [e1, e2, e3]
theorem r3_own {w w' : World} {K B E sz n p e : Nat} {v u : Value} {xs : List Value} (h : R3 w K v p e) (ho : w.ownsRow B E sz u n xs) (hK : K < B) (hg : w.grownBy w' u.ownBlock) : R3 w' K v p e := by
  rcases ho.2 with ⟨rfl, -⟩ | ⟨g, cap, cur, rfl, h2, h3, -⟩
  · exact h.below ((Below.refl _ _).grown hg (Nat.le_refl _) (fun k hk => by simp [Value.ownBlock] at hk))
  · exact h.grown (K := g) hg (by omega)
theorem fbox_own {w w' : World} {K B E sz n : Nat} {C J X u : Value} {xs : List Value} (h : FBox w K C J X) (ho : w.ownsRow B E sz u n xs) (hK : K < B) (hg : w.grownBy w' u.ownBlock) : FBox w' K C J X := by
  rcases ho.2 with ⟨rfl, -⟩ | ⟨g, cap, cur, rfl, h2, h3, -⟩
  · exact h.below ((Below.refl _ _).grown hg (Nat.le_refl _) (fun k hk => by simp [Value.ownBlock] at hk))
  · exact h.grown (M := g) hg (by omega)
theorem below_own {w wr w1 : World} {B E sz n : Nat} {u : Value} {xs : List Value} (h : Below w.heap.size w wr) (ho : wr.ownsRow B E sz u n xs) (hB : w.heap.size ≤ B) (hg : wr.grownBy w1 u.ownBlock) : Below w.heap.size w w1 :=
  h.grown hg h.size (fun k hk => by have := (ho.lt k hk).1; omega)
/-- What stands in memory while the reference reads a fact: the reader, the schema's cells, the fact's cells. -/
structure Rf (w r wr : World) (N : Nat) (v : Value) (s : Nat × Nat) (D I M V C J X : Value) : Prop where
  i : R3 wr N v s.1 s.2
  x : Box wr w.heap.size D I M V
  k : FBox wr r.heap.size C J X
  g : r.grownBy wr (some N)
  b : Below w.heap.size w wr
  sz : r.heap.size + 1 ≤ wr.heap.size
  lt : N < r.heap.size
  nl : w.heap.size < N
theorem Rf.call {w r wr w1 : World} {N : Nat} {v : Value} {s t : Nat × Nat} {D I M V C J X : Value} (h : Rf w r wr N v s D I M V C J X) (hi : R3 w1 N v t.1 t.2) (hg : wr.grownBy w1 (some N)) : Rf w r w1 N v t D I M V C J X := by
  have h1 := h.lt
  have h2 := h.nl
  exact ⟨hi, h.x.grown hg (by omega), h.k.grown hg (by omega), grown_then h.g hg, below_grown h.b hg (by omega), Nat.le_trans h.sz hg.size, h1, h2⟩
theorem Rf.stay {w r wr w1 : World} {N : Nat} {v : Value} {s : Nat × Nat} {D I M V C J X C' J' X' : Value} (h : Rf w r wr N v s D I M V C J X) (hk : FBox w1 r.heap.size C' J' X') (hg : wr.grownBy w1 (some r.heap.size)) : Rf w r w1 N v s D I M V C' J' X' := by
  have h1 := h.lt
  have h2 := h.nl
  exact ⟨h.i.grown hg (by omega), h.x.grown hg (by omega), hk, grown_own h.g hg (Nat.le_refl _), below_grown h.b hg (by omega), Nat.le_trans h.sz hg.size, h1, h2⟩
theorem Rf.below {w r wr w1 : World} {N : Nat} {v : Value} {s : Nat × Nat} {D I M V C J X : Value} (h : Rf w r wr N v s D I M V C J X) (hb : Below wr.heap.size wr w1) : Rf w r w1 N v s D I M V C J X :=
  ⟨h.i.below hb, h.x.below hb, h.k.below hb, grown_then h.g (grown_below hb _), below_then h.b hb, Nat.le_trans h.sz hb.size, h.lt, h.nl⟩
theorem Rf.own {w r wr w1 : World} {N : Nat} {v : Value} {s : Nat × Nat} {D I M V C J X u : Value} {E sz n : Nat} {xs : List Value} (h : Rf w r wr N v s D I M V C J X) (ho : wr.ownsRow (r.heap.size + 1) E sz u n xs) (hg : wr.grownBy w1 u.ownBlock) : Rf w r w1 N v s D I M V C J X := by
  have h1 := h.lt
  have h2 := h.nl
  exact ⟨r3_own h.i ho (by omega) hg, box_own h.x ho (by omega) hg, fbox_own h.k ho (by omega) hg, grown_row h.g hg (fun g hg => by have := (ho.lt g hg).1; omega), below_own h.b ho (by omega) hg, Nat.le_trans h.sz hg.size, h1, h2⟩
theorem rf_start {w r : World} {N : Nat} {v : Value} {s : Nat × Nat} {D I M V : Value} (hi : R3 r N v s.1 s.2) (hx : Box r w.heap.size D I M V) (hb : Below w.heap.size w r) (hN : w.heap.size < N) : Rf w r (r.alloc (FaO (.slice none 0 0) (.slice none 0 0) (.slice none 0 0))) N v s D I M V (.slice none 0 0) (.slice none 0 0) (.slice none 0 0) :=
  ⟨hi.below (below_one _ _), hx.below (below_one _ _), fbox_new _ _ _ _, grown_below (below_one _ _) _, below_then hb (below_one _ _), by simp, hi.lt, hN⟩
/-- What the reference's reading of facts stands at. -/
def GR (w wr : World) (N : Nat) (v : Value) (q : List Fa × Nat × Nat) (D I M V lv : Value) (k : Nat) : Prop :=
  (∃ l, FsOwn wr (N + 1) lv l ∧ l.length = k ∧ (q.2.2 = 0 → l.map keyF = q.1.map keyF ∧ ∀ f ∈ l, ∀ x ∈ f.ns, W64 x)) ∧ R3 wr N v q.2.1 q.2.2 ∧ Box wr w.heap.size D I M V ∧ Below w.heap.size w wr
/-- What the reference's getting leaves. -/
def GotR (w w' : World) (S : Sc) (b : List Int) (r : Ending) : Prop := (∃ u l, r = .returned (.tuple #[u, .int .i64 (getGE S b : Nat)]) ∧ Facts w' u l ∧ l.map keyF = (getGF S b).map keyF ∧ ∀ f ∈ l, ∀ x ∈ f.ns, W64 x) ∧ Below w.heap.size w w'
set_option maxRecDepth 100000
open Go.RowKit
set_option linter.unusedVariables false
theorem got_at {w : World} {u i : Int} {t : ByteArray} {n e : Nat} : (w.alloc (gotO u i t n e)).cell? ⟨w.heap.size, 0, none⟩ = some (.int .u64 u) := (got_new w u i t n e).reads.1
theorem got_i (u i : Int) (t : ByteArray) (n e : Int) (w : World) : (Instr.field 63 (gotV u i t n e) 1).run Tryz.prog w = .ok (.int .i64 i) w := by kernel_rfl
theorem stF_pre {b : List Int} {s : Nat × Nat} (h : (stF b s).2.2 = 0) : s.2 = 0 := by
  by_cases q : s.2 = 0
  · exact q
  · unfold stF at h
    rw [if_neg q] at h
    exact h
/-- The number behind a question for a real one. -/
theorem stF_kx {b : List Int} {s : Nat × Nat} (h : (stF b s).2.2 = 0) : Keyed (keyK b s) ∧ keyI (stF b s).1 = keyK b s := by
  rcases stF_key h with ⟨h1, h2⟩ | h1
  · rw [h1]; exact ⟨h2, (keyed_from h2).2.1⟩
  · exfalso
    unfold stF at h
    rw [if_neg h1] at h
    exact h1 h
set_option maxHeartbeats 64000000 in
theorem rfget_yes (w : World) (D I M V v : Value) (S : Sc) (b : List Int) (h : Sch4 w D I M V S) (hw : SWf S) (hv : Ints .u8 w v b) (hb : Bt b) (hl : b.length ≤ 20000) (hc : checkL S = 0) :
    Calls Tryz.prog 7 #[SchV D I M V, v] w fun r w' => GotR w w' S b r := by
  obtain ⟨i0, hi, hz0, hz1, hz2⟩ := info_parts Tryz.infoIntf
  obtain ⟨l0, hli, hlz0, hlz1, hlz2⟩ := info_parts Tryz.infoI64f
  obtain ⟨f0', hfi, hfz0, hfz1, hfz2⟩ := info_parts Tryz.infoF64f
  obtain ⟨j0, hj, hy0, hy1, hy2⟩ := info_parts Tryz.infoFact
  have hcn := cnt_iff.1 (check_cnt' hc).1
  have hn0 := numB_val hb
  have hst : OkSt b (numB b).2 := stU_st hb _ ⟨Nat.zero_le _, by decide⟩
  have HB0 := Lib.hid (below_one w (SchO D I M V))
  have HX := Lib.hid (box_new w D I M V)
  have HC := Lib.hid (rcheck_any (w.alloc (SchO D I M V)) D I M V S (h.below HB0.out) hw)
  rw [hc] at HC
  have HD := Lib.hid h.d
  have HU := Lib.hid (fun wr N s most (hg : Below w.heap.size w wr) (h : R3 wr N v s.1 s.2) (hs : OkSt b s) => readerU_any wr N v b s most h (hv.below hg) hb hl hs)
  have HAI := Lib.hid (fun wr N s (hg : Below w.heap.size w wr) (h : R3 wr N v s.1 s.2) (hs : OkSt b s) => askI_any wr N v b s 0 0 0 0 ⟨#[]⟩ h (hv.below hg) hb hl hs)
  have HAF := Lib.hid (fun wr N s (hg : Below w.heap.size w wr) (h : R3 wr N v s.1 s.2) (hs : OkSt b s) => askF_any wr N v b s 0 0 0 0 ⟨#[]⟩ h (hv.below hg) hb hl hs)
  have HEn := Lib.hid (fun wr N s (hg : Below w.heap.size w wr) (h : R3 wr N v s.1 s.2) (hs : OkSt b s) => rend_any wr N v b s h (hv.below hg) hs)
  have HFl := Lib.hid (fun wr K (hk : Keyed K) => float_any wr K hk)
  have HU0 := Lib.hid (fun wr N (hg : Below w.heap.size w wr) (h : R3 wr N v 0 0) => show Calls Tryz.prog 19 #[.pointer (some ⟨N, 0, none⟩), .int .u64 200] wr fun r w' => r = .returned (.int .u64 (numB b).1) ∧ R3 w' N v (numB b).2.1 (numB b).2.2 ∧ wr.grownBy w' (some N) from HU.out wr N (0, 0) 200 hg h ⟨Nat.zero_le _, by decide⟩)
  have HS := Lib.hid (fun k (hk : k < S.ds.length) => check_siz hc hk)
  have HBt := Lib.hid hb
  have HML := Lib.hid (mosts_len S)
  have HMG := Lib.hid (fun k (hk : k < S.ds.length) => mosts_get hk)
  obtain ⟨n, hn⟩ : ∃ n : Nat, (numB b).1 = n := ⟨(numB b).1.toNat, by omega⟩
  have HEB := Lib.hid (show (numB b).2.2 ≠ 0 → getGE S b = (numB b).2.2 ∧ getGF S b = [] from fun h => by
    have e : getGE S b = (numB b).2.2 := by unfold getGE getBE; rw [if_neg (by omega), if_pos h]
    exact ⟨e, by unfold getGF; rw [if_neg (by omega)]⟩)
  have HEM := Lib.hid (show (numB b).2.2 = 0 → n = 0 → getGE S b = 3 ∧ getGF S b = [] from fun h h2 => by
    have e : getGE S b = 3 := by unfold getGE; rw [if_neg (by omega)]; exact getBE_many _ _ _ h (by omega)
    exact ⟨e, by unfold getGF; rw [if_neg (by omega)]⟩)
  have HEE := Lib.hid (show (numB b).2.2 = 0 → n ≠ 0 → getGE S b = endE b (rdB b (mostsS S) S.is.length S.ns.length).2 ∧ getGF S b = if getGE S b = 0 then (rdB b (mostsS S) S.is.length S.ns.length).1 else [] from fun h h2 => by
    have e : getGE S b = endE b (rdB b (mostsS S) S.is.length S.ns.length).2 := by unfold getGE; rw [if_neg (by omega)]; exact getBE_end hb _ _ _ (by omega)
    exact ⟨e, rfl⟩)
  have HRB := Lib.hid (show listK (fun _ s => rdFa b (mostsS S) S.is.length S.ns.length s) (numB b).2 n = rdB b (mostsS S) S.is.length S.ns.length by unfold rdB; rw [hn]; rfl)
  have HKs := Lib.hid (fun k => listK_st (rd := fun _ s => rdFa b (mostsS S) S.is.length S.ns.length s) (P := OkSt b) (fun _ _ h => rdFa_st hb (mostsS S) S.is.length S.ns.length h) hst k)
  have HSy := Lib.hid (fun k (hk : k ≤ n) (he : (listK (fun _ s => rdFa b (mostsS S) S.is.length S.ns.length s) (numB b).2 k).2.2 ≠ 0) => show (listK (fun _ s => rdFa b (mostsS S) S.is.length S.ns.length s) (numB b).2 n).2 = (listK (fun _ s => rdFa b (mostsS S) S.is.length S.ns.length s) (numB b).2 k).2 by
    have := listK_stay (rd := fun _ s => rdFa b (mostsS S) S.is.length S.ns.length s) (fun _ s h => rdFa_err s h) he (n - k)
    rwa [show k + (n - k) = n by omega] at this)
  have HN := Lib.hid (fun k => show listK (fun _ s => rdFa b (mostsS S) S.is.length S.ns.length s) (numB b).2 (k + 1) = ((listK (fun _ s => rdFa b (mostsS S) S.is.length S.ns.length s) (numB b).2 k).1 ++ [(rdFa b (mostsS S) S.is.length S.ns.length (listK (fun _ s => rdFa b (mostsS S) S.is.length S.ns.length s) (numB b).2 k).2).1], (rdFa b (mostsS S) S.is.length S.ns.length (listK (fun _ s => rdFa b (mostsS S) S.is.length S.ns.length s) (numB b).2 k).2).2) from rfl)
  have hn200 : n ≤ 200 := by omega
  rw [hn] at HU0
  unfold GotR
  obtain ⟨⟨a, c, rfl⟩, ⟨a2, c2, rfl⟩, ⟨a3, c3, rfl⟩, a4, c4, rfl⟩ := h.slices
  obtain ⟨va, vc, rfl, -, -⟩ := hv
  have in1 : IntKind.i64.wrap (n : Int) = (n : Int) := IntWalk.i64_in _ (by omega)
  generalize (numB b).2 = s0 at *
  generalize getGE S b = GE at *
  generalize getGF S b = GF at *
  clear h hw hb hl hc hn0 hn
  go_enter Tryz.func7, Tryz.ntmps7
  go_wp2_with fail
  refine (HC.out).mono ?_; rintro r w1 ⟨rfl, hb1⟩
  have HB1 := Lib.hid (below_then HB0.out hb1)
  have HX1 := Lib.hid (HX.out.below hb1)
  have hN := HX1.out.lt
  have HR1 := Lib.hid (show R3 (w1.alloc (.cells #[.slice va b.length vc, .int .i64 0, .int .i64 0] 61)) w1.heap.size (.slice va b.length vc) 0 0 from heap_alloc_new w1 _)
  have HB2 := Lib.hid (below_then HB1.out (below_one w1 (.cells #[.slice va b.length vc, .int .i64 0, .int .i64 0] 61)))
  have HX2 := Lib.hid (HX1.out.below (below_one w1 (.cells #[.slice va b.length vc, .int .i64 0, .int .i64 0] 61)))
  clear hb1
  go_wp2_with fail
  generalize hW2 : w1.alloc (.cells #[.slice va b.length vc, .int .i64 0, .int .i64 0] 61) = W2 at *
  obtain ⟨N, hNe⟩ : ∃ N, w1.heap.size = N := ⟨_, rfl⟩
  rw [hNe] at HR1 hN ⊢
  clear hNe hW2
  refine (HU0.out _ _ HB2.out HR1.out).mono ?_; rintro r w3 ⟨rfl, hr, hg⟩
  have HB3 := Lib.hid (below_grown HB2.out hg (by omega))
  have HX3 := Lib.hid (HX2.out.grown hg (by omega))
  have HR3 := Lib.hid hr
  clear hr hg
  obtain ⟨r0, r1, r2⟩ := HR3.out.reads
  by_cases he0 : s0.2 = 0
  · have q1 : ((s0.2 : Int) != 0) = false := by rw [he0]; rfl
    by_cases hn1 : n = 0
    · obtain ⟨e1, e2⟩ := HEM.out he0 hn1
      subst e1
      subst e2
      have q2 : ((n : Int) == 0) = true := by rw [hn1]; rfl
      clear hn1
      go_wp2_with fail
      go_ret2
      exact ⟨⟨_, _, rfl, facts0 _, rfl, fun f hf => by simp at hf⟩, HB3.out⟩
    · have HEx := Lib.hid (HEE.out he0 hn1)
      have q2 : ((n : Int) == 0) = false := by rw [beq_eq_false_iff_ne]; omega
      go_wp2_with fail
      clear r0 r1 r2
      have HG0 := Lib.hid (show GR w w3 N (.slice va b.length vc) (listK (fun _ s => rdFa b (mostsS S) S.is.length S.ns.length s) s0 0) (.slice a S.ds.length c) (.slice a2 S.is.length c2) (.slice a3 S.ns.length c3) (.slice a4 S.vs.length c4) (.slice none 0 0) 0 from ⟨⟨[], fsown0 _ _, rfl, fun _ => ⟨rfl, fun f hf => by simp at hf⟩⟩, HR3.out, HX3.out, HB3.out⟩)
      go_loopw [8, 9] (fun lv i wr => ∃ k : Nat, k ≤ n ∧ i = .int .i64 k ∧ Hid (GR w wr N (.slice va b.length vc) (listK (fun _ s => rdFa b (mostsS S) S.is.length S.ns.length s) s0 k) (.slice a S.ds.length c) (.slice a2 S.is.length c2) (.slice a3 S.ns.length c3) (.slice a4 S.vs.length c4) lv k)) (fun _ i _ => n - (intOf i).toNat)
      case atStart => exact ⟨0, Nat.zero_le _, rfl, HG0⟩
      case round =>
        obtain ⟨k, hk, rfl, HG⟩ := hrel
        generalize wr = R0 at *
        obtain ⟨⟨l, hF, hlk0, hlw⟩, hI, hX, hBl⟩ := HG.out
        have HNk := Lib.hid (HN.out k)
        have HLk := Lib.hid (HKs.out k)
        have HSk := Lib.hid (HSy.out k hk)
        obtain ⟨q, hq⟩ : ∃ q, (listK (fun _ s => rdFa b (mostsS S) S.is.length S.ns.length s) s0 k).1 = q := ⟨_, rfl⟩
        obtain ⟨t, ht⟩ : ∃ t, (listK (fun _ s => rdFa b (mostsS S) S.is.length S.ns.length s) s0 k).2 = t := ⟨_, rfl⟩
        rw [hq] at HNk HLk hlw
        rw [ht] at HNk HLk HSk hI hlw
        have hkt : k = n → (rdB b (mostsS S) S.is.length S.ns.length) = (q, t) := fun e => by rw [← HRB.out, ← e, ← hq, ← ht]
        obtain ⟨pa, pl, pc, rfl⟩ := hF.any
        have HLw := Lib.hid (And.intro hlk0 hlw)
        clear HG hq ht hlk0 hlw
        by_cases hlk : k < n
        · have hlk' : (k : Int) < (n : Int) := by omega
          have hlkd : decide ((k : Int) < (n : Int)) = true := decide_eq_true hlk'
          by_cases het : t.2 = 0
          · have HIx := Lib.hid (And.intro hI hX)
            have e1 : ((t.2 : Int) == 0) = true := by rw [het]; rfl
            obtain ⟨z0, z1, z2⟩ := hI.reads
            obtain ⟨Cs, hC1, hC2, hC3⟩ := hF
            have HC1 := Lib.hid (And.intro hC1 (And.intro hC2 hC3))
            have HGs := Lib.hid (rf_start hI hX hBl (by omega))
            have HLt := Lib.hid (HLw.out.2 het)
            have hOk := HLk.out.1
            clear hC1 hC2 hC3 hI hX hBl
            go_wp2_with fail
            clear z0 z1 z2
            have HCk := Lib.hid (fun j => listK_st (rd := fun k s => stU b ((mostsS S).getD k 0) s) (P := OkSt b) (fun _ _ h => stU_st HBt.out _ h) hOk j)
            have HCn := Lib.hid (fun j => show listK (fun k s => stU b ((mostsS S).getD k 0) s) t (j + 1) = ((listK (fun k s => stU b ((mostsS S).getD k 0) s) t j).1 ++ [(stU b ((mostsS S).getD j 0) (listK (fun k s => stU b ((mostsS S).getD k 0) s) t j).2).1], (stU b ((mostsS S).getD j 0) (listK (fun k s => stU b ((mostsS S).getD k 0) s) t j).2).2) from rfl)
            have HCv := Lib.hid (fun j (hj : j < S.ds.length) => stU_val (most := (mostsS S).getD j 0) HBt.out (by rw [HMG.out j hj]; have := HS.out j hj; omega) (listK (fun k s => stU b ((mostsS S).getD k 0) s) t j).2)
            have HRC := Lib.hid (show listK (fun k s => stU b ((mostsS S).getD k 0) s) t S.ds.length = rdC b (mostsS S) t by unfold rdC; rw [HML.out])
            have hR1 := HGs.out.lt
            have hR2 := HGs.out.nl
            go_loopw [11] (fun i wx => ∃ (j : Nat) (C : Value), j ≤ S.ds.length ∧ i = .int .i64 j ∧ Hid (LOwn 3 wx (R0.heap.size + 1) C (listK (fun k s => stU b ((mostsS S).getD k 0) s) t j).1 ∧ Rf w R0 wx N (.slice va b.length vc) (listK (fun k s => stU b ((mostsS S).getD k 0) s) t j).2 (.slice a S.ds.length c) (.slice a2 S.is.length c2) (.slice a3 S.ns.length c3) (.slice a4 S.vs.length c4) C (.slice none 0 0) (.slice none 0 0))) (fun i _ => S.ds.length - (intOf i).toNat)
            case atStart => exact ⟨0, _, Nat.zero_le _, rfl, Lib.hid ⟨lown0 _ _ _, HGs.out⟩⟩
            case round =>
              obtain ⟨j, C, hjj, rfl, HQ⟩ := hrel
              obtain ⟨ca, cl, cc, rfl⟩ := own_any HQ.out.1
              by_cases hlj : j < S.ds.length
              · have hlj' : (j : Int) < (S.ds.length : Int) := by omega
                obtain ⟨db, doff, rfl, hdlt, d0, d1⟩ := dim_at HD.out hlj
                have d1 := cell_hold HQ.out.2.b d1
                have hsz := HS.out j hlj
                have hvz := HCv.out j hlj
                have HCnj := Lib.hid (HCn.out j)
                have HCkj := Lib.hid (HCk.out j)
                rw [HMG.out j hlj] at hvz HCnj
                have HUj := Lib.hid (fun wy (hg : Below w.heap.size w wy) (h : R3 wy N (.slice va b.length vc) (listK (fun k s => stU b ((mostsS S).getD k 0) s) t j).2.1 (listK (fun k s => stU b ((mostsS S).getD k 0) s) t j).2.2) => HU.out wy N _ (dz S.ds j - 1) hg h (HCk.out j).1)
                generalize dz S.ds j = Z at *
                generalize (stU b (Z - 1) (listK (fun k s => stU b ((mostsS S).getD k 0) s) t j).2).1 = z at *
                generalize (stU b (Z - 1) (listK (fun k s => stU b ((mostsS S).getD k 0) s) t j).2).2 = t2 at *
                obtain ⟨cq, hcq⟩ : ∃ q, (listK (fun k s => stU b ((mostsS S).getD k 0) s) t j).1 = q := ⟨_, rfl⟩
                obtain ⟨t1, ht1⟩ : ∃ t1, (listK (fun k s => stU b ((mostsS S).getD k 0) s) t j).2 = t1 := ⟨_, rfl⟩
                rw [hcq] at HCnj HCkj HQ
                rw [ht1] at HUj HQ
                clear hcq ht1
                have iz1 : IntKind.i64.wrap (Z - 1) = Z - 1 := IntWalk.i64_in _ (by omega)
                have iz1' : wrap64 (Z - 1) = Z - 1 := wrap64_in (by omega) (by omega)
                have iz2 : IntKind.u64.wrap (Z - 1) = Z - 1 := by rw [IntKind.wrap_u64]; omega
                have iz3 : IntKind.i64.wrap z = z := IntWalk.i64_in _ (by omega)
                have iz3' : wrap64 z = z := wrap64_in (by omega) (by omega)
                clear hvz hsz d0
                obtain ⟨y0, y1, y2, y3⟩ := HQ.out.2.x.reads
                go_upto_region 17 with fail
                clear y0 y1 y2 y3
                have HQd := Lib.hid (HQ.out.2.below (Below.refl _ _).drew)
                have HOd := Lib.hid (show LOwn 3 wr.drew (R0.heap.size + 1) (.slice ca cl cc) cq from own_far HQ.out.1 (grown_below (Below.refl _ _).drew (some R0.heap.size)) (by omega))
                have HUd := Lib.hid (HUj.out _ HQd.out.b HQd.out.i)
                have k0 := HQd.out.k.reads.1
                have y0 := HQd.out.x.reads.1
                have d1 := cell_hold (Below.refl wr.heap.size wr).drew d1
                go_region_law (first
                  | (refine append_own_step _ (by rfl) _ _ _ (by rfl) (R0.heap.size + 1) 3 i0 (.int .i64 0) 1 8 Tryz.underlying44 hi hz0 hz1 hz2 zcells_int (by decide) _ _ (cq.map (Value.int .i64)) (by rfl) (HO3.out.alloc _) ⟨w3.heap.size, 0, none⟩ 1 1 [.int .i64 z] (by rfl) rfl (one_cells w3 (.int .i64 z) 3) (by intro u hu; simp at hu; rcases hu with rfl; rfl) (by have := HCkj.out.2; unfold maxLen; omega) (by have := HCkj.out.2; omega) (by have := HS3.out.sz; simp; omega) ?_; intro v' w4 hown hgrow; have hown := lown_snoc hown; have HZ := Lib.hid (And.intro hown ((HS3.out.below (below_one _ _)).own (HO3.out.alloc _) hgrow)); obtain ⟨m0, m1, m2⟩ := HZ.out.2.k.reads; obtain ⟨f0, f1, f2⟩ := HZ.out.2.k.free; obtain ⟨pv', lv', cv', rfl⟩ := own_any hown; clear hown hgrow)
                  | (go_simp; go_at_call 19; refine (HUd.out).mono ?_; rintro rr w3 ⟨rfl, hr, hg⟩; have HS3 := Lib.hid (HQd.out.call hr hg); have HO3 := Lib.hid (own_far HOd.out hg (by omega)); have k0 := HS3.out.k.reads.1; have k4 := cell_hold (below_one w3 (.cells #[.int .i64 z] 3)) k0; clear hr hg))
                all_goals
                  have HO5 := Lib.hid (own_far HZ.out.1 (grown_set w4 R0.heap.size 0 (.slice pv' lv' cv')) (by omega))
                  have HS5 := Lib.hid (HZ.out.2.stay (HZ.out.2.k.set0 (u := .slice pv' lv' cv')) (grown_set w4 R0.heap.size 0 (.slice pv' lv' cv')))
                  clear m0 m1 m2 f0 f1 f2 HZ
                  go_wp2_with fail
                  go_roundw
                  case rel => exact ⟨j + 1, _, by omega, by go_num, Lib.hid ⟨by rw [HCnj.out]; exact HO5.out, by rw [HCnj.out]; exact HS5.out⟩⟩
                  case measure => simp [intOf]; omega
              · have hje : j = S.ds.length := by omega
                subst hje
                have hQ := HQ.out
                rw [HRC.out] at hQ
                have HQ1 := Lib.hid hQ
                clear hQ HQ HCk HCn HCv HRC
                have hst1 := (rdC_st HBt.out (mostsS S) hOk).1
                have HJk := Lib.hid (fun j => listK_st (rd := fun _ s => stI b s) (P := OkSt b) (fun _ _ h => stI_st h) hst1 j)
                have HJn := Lib.hid (fun j => show listK (fun _ s => stI b s) (rdC b (mostsS S) t).2 (j + 1) = ((listK (fun _ s => stI b s) (rdC b (mostsS S) t).2 j).1 ++ [(stI b (listK (fun _ s => stI b s) (rdC b (mostsS S) t).2 j).2).1], (stI b (listK (fun _ s => stI b s) (rdC b (mostsS S) t).2 j).2).2) from rfl)
                have hst2 := (rdI2_st S.is.length hst1).1
                have HFa := Lib.hid (show rdFa b (mostsS S) S.is.length S.ns.length t = (⟨(rdC b (mostsS S) t).1, (listK (fun _ s => stI b s) (rdC b (mostsS S) t).2 S.is.length).1, (listK (fun _ s => stF b s) (listK (fun _ s => stI b s) (rdC b (mostsS S) t).2 S.is.length).2 S.ns.length).1⟩, (listK (fun _ s => stF b s) (listK (fun _ s => stI b s) (rdC b (mostsS S) t).2 S.is.length).2 S.ns.length).2) from rfl)
                have hst2 : OkSt b (listK (fun _ s => stI b s) (rdC b (mostsS S) t).2 S.is.length).2 := hst2
                generalize (rdC b (mostsS S) t).2 = t1 at *
                generalize (rdC b (mostsS S) t).1 = r1 at *
                clear hst1
                obtain ⟨y0, y1, y2, y3⟩ := HQ1.out.2.x.reads
                go_wp2_with fail
                clear y0 y1 y2 y3
                go_loopw [12] (fun i wx => ∃ (j : Nat) (J : Value), j ≤ S.is.length ∧ i = .int .i64 j ∧ Hid (LOwn 3 wx (R0.heap.size + 1) (.slice ca cl cc) r1 ∧ LOwn 2 wx (R0.heap.size + 1) J (listK (fun _ s => stI b s) t1 j).1 ∧ Rf w R0 wx N (.slice va b.length vc) (listK (fun _ s => stI b s) t1 j).2 (.slice a S.ds.length c) (.slice a2 S.is.length c2) (.slice a3 S.ns.length c3) (.slice a4 S.vs.length c4) (.slice ca cl cc) J (.slice none 0 0))) (fun i _ => S.is.length - (intOf i).toNat)
                case atStart => exact ⟨0, _, Nat.zero_le _, rfl, Lib.hid ⟨HQ1.out.1, lown0 _ _ _, HQ1.out.2⟩⟩
                case round =>
                  obtain ⟨j, J, hjj, rfl, HQ⟩ := hrel
                  obtain ⟨ia, il, ic, rfl⟩ := own_any HQ.out.2.1
                  by_cases hlj : j < S.is.length
                  · have hlj' : (j : Int) < (S.is.length : Int) := by omega
                    have HJnj := Lib.hid (HJn.out j)
                    have HJkj := Lib.hid (HJk.out j)
                    have HUj := Lib.hid (fun wy (hg : Below w.heap.size w wy) (h : R3 wy N (.slice va b.length vc) (listK (fun _ s => stI b s) t1 j).2.1 (listK (fun _ s => stI b s) t1 j).2.2) => HAI.out wy N _ hg h (HJk.out j).1)
                    generalize (stI b (listK (fun _ s => stI b s) t1 j).2).1 = z at *
                    generalize (stI b (listK (fun _ s => stI b s) t1 j).2).2 = t2 at *
                    obtain ⟨cq, hcq⟩ : ∃ q, (listK (fun _ s => stI b s) t1 j).1 = q := ⟨_, rfl⟩
                    obtain ⟨t3, ht3⟩ : ∃ t3, (listK (fun _ s => stI b s) t1 j).2 = t3 := ⟨_, rfl⟩
                    rw [hcq] at HJnj HJkj HQ
                    rw [ht3] at HUj HQ
                    clear hcq ht3
                    obtain ⟨y0, y1, y2, y3⟩ := HQ.out.2.2.x.reads
                    go_upto_region 21 with fail
                    clear y0 y1 y2 y3
                    have HQd := Lib.hid (HQ.out.2.2.below (Below.refl _ _).drew)
                    have HOc := Lib.hid (show LOwn 3 wr.drew (R0.heap.size + 1) (.slice ca cl cc) r1 from own_far HQ.out.1 (grown_below (Below.refl _ _).drew (some R0.heap.size)) (by omega))
                    have HOd := Lib.hid (show LOwn 2 wr.drew (R0.heap.size + 1) (.slice ia il ic) cq from own_far HQ.out.2.1 (grown_below (Below.refl _ _).drew (some R0.heap.size)) (by omega))
                    have HUd := Lib.hid (HUj.out _ HQd.out.b HQd.out.i)
                    have k0 := HQd.out.k.reads.2.1
                    have hfd := got_i
                    go_region_law (first
                      | (refine append_own_step _ (by rfl) _ _ _ (by rfl) (R0.heap.size + 1) 2 l0 (.int .i64 0) 1 8 Tryz.underlying45 hli hlz0 hlz1 hlz2 zcells_int (by decide) _ _ (cq.map (Value.int .i64)) (by rfl) (HO3.out.alloc _) ⟨w3.heap.size, 0, none⟩ 1 1 [.int .i64 z] (by rfl) rfl (one_cells w3 (.int .i64 z) 2) (by intro u hu; simp at hu; rcases hu with rfl; rfl) (by have := HJkj.out.2; unfold maxLen; omega) (by have := HJkj.out.2; omega) (by have := HS3.out.sz; simp; omega) ?_; intro v' w4 hown hgrow; have hown := lown_snoc hown; have HZ := Lib.hid (And.intro (own_apart (HC3.out.alloc (.cells #[.int .i64 z] 2)) (HO3.out.alloc _) (by decide) hgrow) (And.intro hown ((HS3.out.below (below_one _ _)).own (HO3.out.alloc _) hgrow))); obtain ⟨m0, m1, m2⟩ := HZ.out.2.2.k.reads; obtain ⟨f0, f1, f2⟩ := HZ.out.2.2.k.free; obtain ⟨pv', lv', cv', rfl⟩ := own_any hown; clear hown hgrow)
                      | (go_simp; go_at_call 20; refine (HUd.out).mono ?_; rintro rr w3 ⟨⟨n1, e1, rfl⟩, hr, hg⟩; have HS3 := Lib.hid (HQd.out.call hr hg); have HO3 := Lib.hid (own_far HOd.out hg (by omega)); have HC3 := Lib.hid (own_far HOc.out hg (by omega)); have k0 := HS3.out.k.reads.2.1; have k4 := cell_hold (below_one w3 (.cells #[.int .i64 z] 2)) k0; clear hr hg))
                    all_goals
                      have HC5 := Lib.hid (own_far HZ.out.1 (grown_set w4 R0.heap.size 1 (.slice pv' lv' cv')) (by omega))
                      have HO5 := Lib.hid (own_far HZ.out.2.1 (grown_set w4 R0.heap.size 1 (.slice pv' lv' cv')) (by omega))
                      have HS5 := Lib.hid (HZ.out.2.2.stay (HZ.out.2.2.k.set1 (u := .slice pv' lv' cv')) (grown_set w4 R0.heap.size 1 (.slice pv' lv' cv')))
                      clear m0 m1 m2 f0 f1 f2 HZ
                      go_wp2_with fail
                      go_roundw
                      case rel => exact ⟨j + 1, _, by omega, by go_num, Lib.hid ⟨HC5.out, by rw [HJnj.out]; exact HO5.out, by rw [HJnj.out]; exact HS5.out⟩⟩
                      case measure => simp [intOf]; omega
                  · have hje : j = S.is.length := by omega
                    subst hje
                    have HQ2 := HQ
                    clear HQ HJk HJn
                    have HXk := Lib.hid (fun j => listK_st (rd := fun _ s => stF b s) (P := OkSt b) (fun _ _ h => stF_st h) hst2 j)
                    have HXn := Lib.hid (fun j => show listK (fun _ s => stF b s) (listK (fun _ s => stI b s) t1 S.is.length).2 (j + 1) = ((listK (fun _ s => stF b s) (listK (fun _ s => stI b s) t1 S.is.length).2 j).1 ++ [(stF b (listK (fun _ s => stF b s) (listK (fun _ s => stI b s) t1 S.is.length).2 j).2).1], (stF b (listK (fun _ s => stF b s) (listK (fun _ s => stI b s) t1 S.is.length).2 j).2).2) from rfl)
                    have HXe := Lib.hid (fun j (h : (stF b (listK (fun _ s => stF b s) (listK (fun _ s => stI b s) t1 S.is.length).2 j).2).2.2 = 0) => show (listK (fun _ s => stF b s) (listK (fun _ s => stI b s) t1 S.is.length).2 j).2.2 = 0 by
                      exact stF_pre h)
                    generalize (listK (fun _ s => stI b s) t1 S.is.length).2 = t2 at *
                    generalize (listK (fun _ s => stI b s) t1 S.is.length).1 = r2 at *
                    clear hst2
                    obtain ⟨y0, y1, y2, y3⟩ := HQ2.out.2.2.x.reads
                    go_wp2_with fail
                    clear y0 y1 y2 y3
                    go_loopw [13] (fun i wx => ∃ (j : Nat) (X : Value), j ≤ S.ns.length ∧ i = .int .i64 j ∧ Hid (LOwn 3 wx (R0.heap.size + 1) (.slice ca cl cc) r1 ∧ LOwn 2 wx (R0.heap.size + 1) (.slice ia il ic) r2 ∧ (∃ ns, NOwn wx (R0.heap.size + 1) X ns ∧ ns.length ≤ j ∧ ((listK (fun _ s => stF b s) t2 j).2.2 = 0 → ns.map keyI = (listK (fun _ s => stF b s) t2 j).1.map keyI ∧ ∀ x ∈ ns, W64 x)) ∧ Rf w R0 wx N (.slice va b.length vc) (listK (fun _ s => stF b s) t2 j).2 (.slice a S.ds.length c) (.slice a2 S.is.length c2) (.slice a3 S.ns.length c3) (.slice a4 S.vs.length c4) (.slice ca cl cc) (.slice ia il ic) X)) (fun i _ => S.ns.length - (intOf i).toNat)
                    case atStart => exact ⟨0, _, Nat.zero_le _, rfl, Lib.hid ⟨HQ2.out.1, HQ2.out.2.1, ⟨[], nown0 _ _, Nat.le_refl _, fun _ => ⟨rfl, fun x hx => by simp at hx⟩⟩, HQ2.out.2.2⟩⟩
                    case round =>
                      obtain ⟨j, X, hjj, rfl, HQ⟩ := hrel
                      obtain ⟨hc3, hi3, ⟨ns, hx3, hnl, hnk⟩, hrf⟩ := HQ.out
                      have HX3 := Lib.hid hx3
                      have HRf := Lib.hid hrf
                      have HCI := Lib.hid (And.intro hc3 hi3)
                      have HNK := Lib.hid hnk
                      obtain ⟨xa, xl, xc, rfl⟩ := own_any hx3
                      clear HQ hc3 hi3 hx3 hrf hnk
                      obtain ⟨y0, y1, y2, y3⟩ := HRf.out.x.reads
                      by_cases hlj : j < S.ns.length
                      · have hlj' : (j : Int) < (S.ns.length : Int) := by omega
                        have HXnj := Lib.hid (HXn.out j)
                        have HXej := Lib.hid (HXe.out j)
                        have HUj := Lib.hid (HAF.out wr N _ HRf.out.b HRf.out.i (HXk.out j).1)
                        have HKx := Lib.hid (fun h => stF_kx (b := b) (s := (listK (fun _ s => stF b s) t2 j).2) h)
                        generalize (stF b (listK (fun _ s => stF b s) t2 j).2).1 = z at *
                        generalize (stF b (listK (fun _ s => stF b s) t2 j).2).2 = t4 at *
                        generalize keyK b (listK (fun _ s => stF b s) t2 j).2 = K at *
                        obtain ⟨cq, hcq⟩ : ∃ q, (listK (fun _ s => stF b s) t2 j).1 = q := ⟨_, rfl⟩
                        obtain ⟨t3, ht3⟩ : ∃ t3, (listK (fun _ s => stF b s) t2 j).2 = t3 := ⟨_, rfl⟩
                        rw [hcq] at HXnj HNK
                        rw [ht3] at HRf HNK HXej
                        clear hcq ht3
                        go_wp2_with fail
                        clear y0 y1 y2 y3
                        refine (HUj.out).mono ?_; rintro rr w5 ⟨⟨n1, e1, rfl⟩, hr, hg⟩
                        have hrf := (HRf.out.call hr hg).below (below_one w5 (gotO K 0 ⟨#[]⟩ n1 e1))
                        have HR5 := Lib.hid hrf
                        have HO5 := Lib.hid ((own_far HX3.out hg (by omega)).alloc (gotO K 0 ⟨#[]⟩ n1 e1))
                        have HCI5 := Lib.hid (And.intro ((own_far HCI.out.1 hg (by omega)).alloc (gotO K 0 ⟨#[]⟩ n1 e1)) ((own_far HCI.out.2 hg (by omega)).alloc (gotO K 0 ⟨#[]⟩ n1 e1)))
                        have HGt := Lib.hid (got_new w5 K 0 ⟨#[]⟩ n1 e1)
                        clear hr hg
                        by_cases het4 : t4.2 = 0
                        · have hK := HKx.out het4
                          have e2 : ((t4.2 : Int) == 0) = true := by rw [het4]; rfl
                          have HNK4 := Lib.hid (HNK.out (HXej.out het4))
                          have hR3 := hrf.i.reads
                          obtain ⟨z0, z1, z2⟩ := hR3
                          generalize hWg : w5.alloc (gotO K 0 ⟨#[]⟩ n1 e1) = Wg at *
                          go_upto_region 27 with fail
                          generalize w5.heap.size = G at *
                          clear z0 z1 z2 hWg hrf
                          have HQd := Lib.hid (HR5.out.below (Below.refl _ _).drew)
                          have HOd := Lib.hid (show NOwn Wg.drew (R0.heap.size + 1) (.slice xa xl xc) ns from own_far HO5.out (grown_below (Below.refl _ _).drew (some R0.heap.size)) (by omega))
                          have HCd := Lib.hid (And.intro (own_far HCI5.out.1 (grown_below (Below.refl _ _).drew (some R0.heap.size)) (by omega)) (own_far HCI5.out.2 (grown_below (Below.refl _ _).drew (some R0.heap.size)) (by omega)))
                          have k0 := HQd.out.k.reads.2.2
                          have g0 := (HGt.out.below (Below.refl Wg.heap.size Wg).drew).reads.1
                          have HFd := Lib.hid (HFl.out Wg.drew K hK.1)
                          go_region_law (first
                            | (refine append_own_step _ (by rfl) _ _ _ (by rfl) (R0.heap.size + 1) 65 f0' (.float .f64 0) 1 8 Tryz.underlying46 hfi hfz0 hfz1 hfz2 zcells_flo (by decide) _ _ (ns.map (Value.float .f64)) (by rfl) (HO3.out.alloc _) ⟨w3.heap.size, 0, none⟩ 1 1 [.float .f64 x] (by rfl) rfl (one_cells w3 (.float .f64 x) 65) (by intro u hu; simp at hu; rcases hu with rfl; rfl) (by unfold maxLen; omega) (by omega) (by have := HS3.out.sz; simp; omega) ?_; intro v' w4 hown hgrow; have hown := nown_snoc hown; have HZ := Lib.hid (And.intro (And.intro (own_apart (HC3.out.1.alloc (.cells #[.float .f64 x] 65)) (HO3.out.alloc _) (by decide) hgrow) (own_apart (HC3.out.2.alloc (.cells #[.float .f64 x] 65)) (HO3.out.alloc _) (by decide) hgrow)) (And.intro hown ((HS3.out.below (below_one _ _)).own (HO3.out.alloc _) hgrow))); obtain ⟨m0, m1, m2⟩ := HZ.out.2.2.k.reads; obtain ⟨f0, f1, f2⟩ := HZ.out.2.2.k.free; obtain ⟨pv', lv', cv', rfl⟩ := own_any hown; clear hown hgrow)
                            | (go_simp; go_at_call 21; refine (HFd.out).mono ?_; rintro rr w3 ⟨⟨x, rfl, hx1, hx2⟩, hb3⟩; have HS3 := Lib.hid (HQd.out.below hb3); have HO3 := Lib.hid (own_stay HOd.out hb3); have HC3 := Lib.hid (And.intro (own_stay HCd.out.1 hb3) (own_stay HCd.out.2 hb3)); have HXx := Lib.hid (And.intro hx1 hx2); have k0 := HS3.out.k.reads.2.2; have k4 := cell_hold (below_one w3 (.cells #[.float .f64 x] 65)) k0; clear hx1 hx2 hb3))
                          all_goals
                            have HC6 := Lib.hid (And.intro (own_far HZ.out.1.1 (grown_set w4 R0.heap.size 2 (.slice pv' lv' cv')) (by omega)) (own_far HZ.out.1.2 (grown_set w4 R0.heap.size 2 (.slice pv' lv' cv')) (by omega)))
                            have HO6 := Lib.hid (own_far HZ.out.2.1 (grown_set w4 R0.heap.size 2 (.slice pv' lv' cv')) (by omega))
                            have HS6 := Lib.hid (HZ.out.2.2.stay (HZ.out.2.2.k.set2 (u := .slice pv' lv' cv')) (grown_set w4 R0.heap.size 2 (.slice pv' lv' cv')))
                            have HN6 := Lib.hid (show (ns ++ [x]).map keyI = (cq ++ [z]).map keyI ∧ ∀ y ∈ ns ++ [x], W64 y from ⟨by rw [List.map_append, List.map_append, HNK4.out.1]; simp [HXx.out.2, hK.2], fun y hy => by
                              rcases List.mem_append.1 hy with hy | hy
                              · exact HNK4.out.2 y hy
                              · rw [List.mem_singleton.1 hy]; exact HXx.out.1⟩)
                            clear m0 m1 m2 f0 f1 f2 HZ
                            go_wp2_with fail
                            go_roundw
                            case rel => exact ⟨j + 1, _, by omega, by go_num, Lib.hid ⟨HC6.out.1, HC6.out.2, ⟨_, HO6.out, by simp; omega, fun _ => by rw [HXnj.out]; exact HN6.out⟩, by rw [HXnj.out]; exact HS6.out⟩⟩
                            case measure => simp [intOf]; omega
                        · have e2 : ((t4.2 : Int) == 0) = false := by rw [beq_eq_false_iff_ne]; omega
                          have HT4 := Lib.hid het4
                          obtain ⟨z0, z1, z2⟩ := hrf.i.reads
                          generalize hWg : w5.alloc (gotO K 0 ⟨#[]⟩ n1 e1) = Wg at *
                          clear hrf
                          go_wp2_with fail
                          clear hWg
                          go_roundw
                          case rel => exact ⟨j + 1, _, by omega, by go_num, Lib.hid ⟨HCI5.out.1, HCI5.out.2, ⟨_, HO5.out, by omega, fun h => by rw [HXnj.out] at h; exact absurd h HT4.out⟩, by rw [HXnj.out]; exact HR5.out⟩⟩
                          case measure => simp [intOf]; omega
                      · have hje : j = S.ns.length := by omega
                        subst hje
                        clear HXk HXn HXe
                        generalize (listK (fun _ s => stF b s) t2 S.ns.length).2 = t5 at *
                        generalize (listK (fun _ s => stF b s) t2 S.ns.length).1 = r3 at *
                        obtain ⟨x0, x1, x2⟩ := HRf.out.k.reads
                        have HR4 := Lib.hid (own_far HC1.out.1 HRf.out.g (by omega))
                        have HA4 := Lib.hid (fun i h1 h2 => (HC1.out.2.2 i h1 h2).far HRf.out.g (by omega))
                        have HF4 := Lib.hid (show FOwn3 wr (N + 1) (.slice ca cl cc) (.slice ia il ic) (.slice xa xl xc) ⟨r1, r2, ns⟩ from (FOwn3.mk HCI.out.1 HCI.out.2 HX3.out).low (by omega))
                        have HGk := Lib.hid (show t5.2 = 0 → (l ++ [(⟨r1, r2, ns⟩ : Fa)]).map keyF = (q ++ [(⟨r1, r2, r3⟩ : Fa)]).map keyF ∧ ∀ f ∈ l ++ [(⟨r1, r2, ns⟩ : Fa)], ∀ x ∈ f.ns, W64 x from fun h => by
                          obtain ⟨n1, n2⟩ := HNK.out h
                          refine ⟨?_, fun f hf => ?_⟩
                          · rw [List.map_append, List.map_append, HLt.out.1]
                            simp [keyF, n1]
                          · rcases List.mem_append.1 hf with hf | hf
                            · exact HLt.out.2 f hf
                            · rw [List.mem_singleton.1 hf]; exact n2)
                        clear y0 y1 y2 y3
                        obtain ⟨y0, y1, y2, y3⟩ := HRf.out.x.reads
                        go_wp2_with (at_builtin; refine wpList_append_own _ rfl _ _ 30 rfl (N + 1) 48 j0 (.agg #[.slice none 0 0, .slice none 0 0, .slice none 0 0]) 3 72 Tryz.underlying30 hj hy0 hy1 hy2 zcells_fact (by decide) _ _ (cellsF Cs) rfl (HR4.out.alloc _) ⟨wr.heap.size, 0, none⟩ 1 1 [.slice ca cl cc, .slice ia il ic, .slice xa xl xc] rfl rfl (three_cells wr _ _ _ 48) (by intro u hu; simp at hu; rcases hu with rfl | rfl | rfl <;> rfl) (by have := HC1.out.2.1; have := HLw.out.1; unfold maxLen; omega) (by have := HC1.out.2.1; have := HLw.out.1; omega) (by have := HRf.out.sz; simp; omega) ?_; intro v' w9 hown hgrow hiff; clear hiff; have HZ := Lib.hid (And.intro (FsOwn.snoc (HR4.out.alloc _) HC1.out.2.1 (fun i h1 h2 => (HA4.out i h1 h2).alloc _) (HF4.out.alloc _) hown hgrow) (And.intro (r3_own (HRf.out.i.below (below_one _ _)) (HR4.out.alloc _) (by omega) hgrow) (And.intro (box_own (HRf.out.x.below (below_one _ _)) (HR4.out.alloc _) (by omega) hgrow) (below_own (below_then HRf.out.b (below_one _ _)) (HR4.out.alloc _) (by omega) hgrow)))); obtain ⟨pv', lv', cv', rfl⟩ := own_any hown; clear hown hgrow)
                        clear x0 x1 x2 y0 y1 y2 y3
                        go_roundw
                        case rel => exact ⟨k + 1, by omega, by go_num, Lib.hid (by rw [HNk.out, HFa.out]; exact ⟨⟨_, HZ.out.1, by rw [List.length_append, HLw.out.1]; rfl, HGk.out⟩, HZ.out.2⟩)⟩
                        case measure => simp [intOf]; omega
          · have e1 : ((t.2 : Int) == 0) = false := by rw [beq_eq_false_iff_ne]; omega
            have hst : (rdB b (mostsS S) S.is.length S.ns.length).2 = t := by rw [← HRB.out]; exact HSk.out het
            have HFf := Lib.hid (show t.2 = 0 → Facts R0 (.slice pa pl pc) l from fun h => absurd h het)
            have HFk := Lib.hid (show t.2 = 0 → l.map keyF = (rdB b (mostsS S) S.is.length S.ns.length).1.map keyF ∧ ∀ f ∈ l, ∀ x ∈ f.ns, W64 x from fun h => absurd h het)
            have HOk := Lib.hid HLk.out.1
            have HB4 := Lib.hid hBl
            have HI4 := Lib.hid hI
            obtain ⟨z0, z1, z2⟩ := hI.reads
            have HFs := Lib.hid hF
            rw [hst] at HEx
            clear hF hI hX hBl hst het hkt
            go_wp2_with fail
            refine (HEn.out _ _ _ HB4.out HI4.out HOk.out).mono ?_; rintro r w6 ⟨rfl, hr, hg⟩
            have HB6 := Lib.hid (below_grown HB4.out hg (by omega))
            have HF6 := Lib.hid (HFs.out.far hg (by omega)).facts
            have HR6 := Lib.hid hr
            clear hr hg z0 z1 z2
            obtain ⟨z0, z1, z2⟩ := HR6.out.reads
            by_cases hz : endE b t = 0
            · have ht0 : t.2 = 0 := by
                unfold endE at hz
                split at hz
                · simp at hz
                · exact hz
              obtain ⟨g1, g2⟩ := HEx.out
              have g3 : GE = 0 := by rw [g1, hz]
              rw [if_pos g3] at g2
              have HFk2 := Lib.hid (HFk.out ht0)
              rw [← g2] at HFk2
              rw [hz]
              subst g3
              clear hz ht0 g1 g2
              go_wp2_with fail
              go_ret2
              exact ⟨⟨_, _, rfl, HF6.out, HFk2.out.1, HFk2.out.2⟩, HB6.out⟩
            · obtain ⟨g1, g2⟩ := HEx.out
              have g3 : GE ≠ 0 := by rw [g1]; exact hz
              rw [if_neg g3] at g2
              subst g2
              have hz2 : ((endE b t : Int) != 0) = true := by rw [bne_iff_ne]; omega
              clear hz g3
              subst g1
              go_upto_region 30 with fail
              go_quiet (fail)
              have HB7 := Lib.hid (below_drewN HB6.out nq)
              go_wp2
              go_ret2
              exact ⟨⟨_, _, rfl, facts0 _, rfl, fun f hf => by simp at hf⟩, HB7.out⟩
        · have hkn : k = n := by omega
          have hlk' : ¬ (k : Int) < (n : Int) := by omega
          have hlkd : decide ((k : Int) < (n : Int)) = false := decide_eq_false hlk'
          have hrb := hkt hkn
          have hst : (rdB b (mostsS S) S.is.length S.ns.length).2 = t := by rw [hrb]
          have HFk := Lib.hid (show t.2 = 0 → l.map keyF = (rdB b (mostsS S) S.is.length S.ns.length).1.map keyF ∧ ∀ f ∈ l, ∀ x ∈ f.ns, W64 x from fun h => by rw [hrb]; exact HLw.out.2 h)
          have HOk := Lib.hid HLk.out.1
          have HB4 := Lib.hid hBl
          have HI4 := Lib.hid hI
          obtain ⟨z0, z1, z2⟩ := hI.reads
          have HFs := Lib.hid hF
          rw [hst] at HEx
          clear hF hI hX hBl hst hkt hrb hkn
          go_wp2_with fail
          refine (HEn.out _ _ _ HB4.out HI4.out HOk.out).mono ?_; rintro r w6 ⟨rfl, hr, hg⟩
          have HB6 := Lib.hid (below_grown HB4.out hg (by omega))
          have HF6 := Lib.hid (HFs.out.far hg (by omega)).facts
          have HR6 := Lib.hid hr
          clear hr hg z0 z1 z2
          obtain ⟨z0, z1, z2⟩ := HR6.out.reads
          by_cases hz : endE b t = 0
          · have ht0 : t.2 = 0 := by
              unfold endE at hz
              split at hz
              · simp at hz
              · exact hz
            obtain ⟨g1, g2⟩ := HEx.out
            have g3 : GE = 0 := by rw [g1, hz]
            rw [if_pos g3] at g2
            have HFk2 := Lib.hid (HFk.out ht0)
            rw [← g2] at HFk2
            rw [hz]
            subst g3
            clear hz ht0 g1 g2
            go_wp2_with fail
            go_ret2
            exact ⟨⟨_, _, rfl, HF6.out, HFk2.out.1, HFk2.out.2⟩, HB6.out⟩
          · obtain ⟨g1, g2⟩ := HEx.out
            have g3 : GE ≠ 0 := by rw [g1]; exact hz
            rw [if_neg g3] at g2
            subst g2
            have hz2 : ((endE b t : Int) != 0) = true := by rw [bne_iff_ne]; omega
            clear hz g3
            subst g1
            go_upto_region 30 with fail
            go_quiet (fail)
            have HB7 := Lib.hid (below_drewN HB6.out nq)
            go_wp2
            go_ret2
            exact ⟨⟨_, _, rfl, facts0 _, rfl, fun f hf => by simp at hf⟩, HB7.out⟩
  · have q1 : ((s0.2 : Int) != 0) = true := by rw [bne_iff_ne]; omega
    obtain ⟨e1, e2⟩ := HEB.out he0
    subst e1
    subst e2
    clear he0
    go_upto_region 6 with fail
    go_quiet (fail)
    have HB4 := Lib.hid (below_drewN HB3.out nq)
    go_wp2
    go_ret2
    exact ⟨⟨_, _, rfl, facts0 _, rfl, fun f hf => by simp at hf⟩, HB4.out⟩
set_option maxHeartbeats 4000000 in
theorem rfget_no (w : World) (D I M V v : Value) (S : Sc) (b : List Int) (h : Sch4 w D I M V S) (hw : SWf S) (hv : Ints .u8 w v b) (hc : checkL S ≠ 0) :
    Calls Tryz.prog 7 #[SchV D I M V, v] w fun r w' => GotR w w' S b r := by
  have e1 : getGE S b = 1 := by unfold getGE; rw [if_pos hc]
  have e2 : getGF S b = [] := by unfold getGF; rw [if_neg (by omega)]
  unfold GotR
  rw [e1, e2]
  have HB0 := Lib.hid (below_one w (SchO D I M V))
  have HC := Lib.hid (rcheck_any (w.alloc (SchO D I M V)) D I M V S (h.below HB0.out) hw)
  have hc2 : ((checkL S : Int) != 0) = true := by rw [bne_iff_ne]; omega
  obtain ⟨⟨a, c, rfl⟩, ⟨a2, c2, rfl⟩, ⟨a3, c3, rfl⟩, a4, c4, rfl⟩ := h.slices
  obtain ⟨va, vc, rfl, -, -⟩ := hv
  generalize (checkL S : Int) = ck at *
  clear h hw hc e1 e2
  go_enter Tryz.func7, Tryz.ntmps7
  go_wp2_with fail
  refine (HC.out).mono ?_; rintro r w1 ⟨rfl, hb1⟩
  have HB1 := Lib.hid (below_then HB0.out hb1)
  clear hb1
  go_wp2_with fail
  go_ret2
  exact ⟨⟨_, _, rfl, facts0 _, rfl, fun f hf => by simp at hf⟩, HB1.out⟩
theorem rfget_any (w : World) (D I M V v : Value) (S : Sc) (b : List Int) (h : Sch4 w D I M V S) (hw : SWf S) (hv : Ints .u8 w v b) (hb : Bt b) (hl : b.length ≤ 20000) :
    Calls Tryz.prog 7 #[SchV D I M V, v] w fun r w' => GotR w w' S b r := by
  by_cases hc : checkL S = 0
  · exact rfget_yes w D I M V v S b h hw hv hb hl hc
  · exact rfget_no w D I M V v S b h hw hv hc
end Go.Proofs.YtdnbjaeeebodkaaGreat
