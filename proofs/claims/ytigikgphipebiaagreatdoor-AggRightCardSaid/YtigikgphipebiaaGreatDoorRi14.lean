/- Contracts that the law leans on, pruned and merged: Flom Flon Flor. -/
import Derived.Deep.RegionHeld3
import Derived.Test.YtigikgphipebiaaGreatDoorRi09
import Derived.Test.YtigikgphipebiaaGreatDoorRi13
/- The nearest float to a whole number times a power of two: what the program returns. -/
namespace Go.Proofs.YtigikgphipebiaaGreatDoor
set_option maxRecDepth 100000
open Go.RowKit
set_option linter.unusedVariables false
/-- z / 2^n to the nearest whole number, and between two the even one. -/
def rndN (z n : Nat) : Nat := if 2 ^ n < 2 * (z % 2 ^ n) ∨ (2 ^ n = 2 * (z % 2 ^ n) ∧ z / 2 ^ n % 2 = 1) then z / 2 ^ n + 1 else z / 2 ^ n
theorem rnd_parts (z N T : Nat) (hT : T = z / 2 ^ N) : z / 2 ^ (N + 1) = T / 2 ∧ z % 2 ^ (N + 1) = T % 2 * 2 ^ N + z % 2 ^ N := by
  subst hT
  have e : 2 ^ (N + 1) = 2 ^ N * 2 := Nat.pow_succ ..
  rw [e, ← Nat.div_div_eq_div_mul, Nat.mod_mul]
  refine ⟨rfl, ?_⟩
  rw [Nat.mul_comm, Nat.add_comm]
theorem halved_mod {z t N : Nat} (hz : z ≠ 0) (h : Halved (z : Int) t) : t < N ↔ z % 2 ^ N ≠ 0 := by
  obtain ⟨m, hm⟩ := h.resolve_left (by omega)
  have hm' : z = 2 ^ t * (2 * m + 1) := by
    have e : ((2 : Int) ^ t) = ((2 ^ t : Nat) : Int) := by simp
    rw [e] at hm
    have : ((z : Nat) : Int) = ((2 ^ t * (2 * m + 1) : Nat) : Int) := by rw [hm]; simp
    omega
  constructor
  · intro h1 h2
    obtain ⟨k, rfl⟩ := Nat.exists_eq_add_of_le (Nat.succ_le_of_lt h1)
    have h3 : 2 ^ (t + 1 + k) ∣ z := Nat.dvd_of_mod_eq_zero h2
    obtain ⟨x, hx⟩ := h3
    rw [hm', Nat.pow_add, Nat.pow_add, Nat.mul_assoc, Nat.mul_assoc] at hx
    have h4 := Nat.eq_of_mul_eq_mul_left (n_pow_pos t) hx
    rw [Nat.pow_one] at h4; omega
  · intro h1
    by_cases h2 : t < N
    · exact h2
    · exfalso
      obtain ⟨k, rfl⟩ := Nat.exists_eq_add_of_le (show N ≤ t by omega)
      refine h1 (Nat.mod_eq_zero_of_dvd ⟨2 ^ k * (2 * m + 1), ?_⟩)
      rw [hm', Nat.pow_add, Nat.mul_assoc]
theorem rnd_val {z N T t : Nat} (hT : T = z / 2 ^ N) (hz : z ≠ 0) (h : Halved (z : Int) t) : rndN z (N + 1) = if T % 2 = 1 ∧ (t < N ∨ T / 2 % 2 = 1) then T / 2 + 1 else T / 2 := by
  obtain ⟨h1, h2⟩ := rnd_parts z N T hT
  have h3 := halved_mod (N := N) hz h
  have h4 := Nat.mod_lt z (n_pow_pos N)
  have e : 2 ^ (N + 1) = 2 ^ N * 2 := Nat.pow_succ ..
  unfold rndN
  rw [h1, h2, e]
  have hp := n_pow_pos N
  generalize 2 ^ N = P at *
  generalize z % P = s at *
  have hT2 : T % 2 = 0 ∨ T % 2 = 1 := by omega
  rcases hT2 with k | k
  · have e2 : (if (0 = 1 ∧ (t < N ∨ T / 2 % 2 = 1)) then T / 2 + 1 else T / 2) = T / 2 := if_neg (by omega)
    rw [k, e2, if_neg (by omega)]
  · rw [k]
    by_cases c : t < N ∨ T / 2 % 2 = 1
    · have e2 : (if (1 = 1 ∧ (t < N ∨ T / 2 % 2 = 1)) then T / 2 + 1 else T / 2) = T / 2 + 1 := if_pos ⟨rfl, c⟩
      rw [e2, if_pos]
      rcases c with c | c
      · have := h3.1 c; omega
      · by_cases s0 : s = 0
        · subst s0; omega
        · omega
    · have e2 : (if (1 = 1 ∧ (t < N ∨ T / 2 % 2 = 1)) then T / 2 + 1 else T / 2) = T / 2 := if_neg (by omega)
      rw [e2, if_neg]
      have : ¬ s ≠ 0 := fun q => c (.inl (h3.2 q))
      omega
theorem rnd_le (z n B : Nat) (h : z / 2 ^ n < B) : rndN z n ≤ B := by unfold rndN; split <;> omega
set_option maxHeartbeats 4000000 in
theorem rshift_any (v : Value) (a : List Int) (z : Nat) (k : Int) (N : Nat) (w : World) (hv : WList w v a) (la : a.length ≤ 1000) (hz : wv a = (z : Int)) (h0 : z ≠ 0) (hk : k - 1 = (N : Int)) (hN : N ≤ 100000) (hs : z / 2 ^ N < 18446744073709551616) (hT : Tab w) :
    Calls Tryz.prog 209 #[v, .int .i64 k] w fun e w' => e = .returned (.int .u64 (rndN z (N + 1))) ∧ Below w.heap.size w w' := by
  obtain ⟨p, c, rfl⟩ := hv.shape
  have hTT : (wv a / 2 ^ N : Int) = ((z / 2 ^ N : Nat) : Int) := by
    rw [hz, Int.natCast_ediv]; simp
  have hSh := shr_any _ a w hv (by omega) (k - 1) N (by omega) (by omega)
  rw [hTT] at hSh
  have HSh := Lib.hid hSh
  have HV := Lib.hid hv
  have HT := Lib.hid hT
  have HN := Lib.hid (fun w1 (h : Below w.heap.size w w1) => noughts_any _ a w1 (hv.below h) (hT.call h))
  rw [hz] at HN
  have HR := Lib.hid (fun t (h : Halved (z : Int) t) => rnd_val (N := N) (T := z / 2 ^ N) rfl h0 h)
  generalize z / 2 ^ N = T at *
  have b1 : -9223372036854775808 ≤ k - 1 := by omega
  have b2 : k - 1 ≤ 9223372036854775807 := by omega
  have b0 : 0 ≤ k - 1 := by omega
  have hsm : smallB (T : Int) = true := by unfold smallB; simp; omega
  have hl1 := lowb1 (T : Int) (by omega) (by omega)
  have hl2 := lowb1 ((T : Int) / 2) (by omega) (by omega)
  have hkh := Lib.hid hk
  generalize hrr : rndN z (N + 1) = r at *
  clear hSh hv hT hz hTT hk hrr
  go_enter Tryz.func209, Tryz.ntmps209
  go_wp2_with fail
  refine (HSh.out).mono ?_; rintro e w1 ⟨v1, a1, rfl, h1, h2, h3, h4, h5, hb1⟩
  have HU := Lib.hid (uint_any v1 a1 w1 (own_wlist h1 h2 (by omega)))
  rw [h4, hsm] at HU
  clear h1 h2 h3 h4 h5 hsm HSh
  go_wp2_with fail
  refine (HU.out).mono ?_; rintro e w2 ⟨rfl, rfl⟩
  have HN1 := Lib.hid (HN.out w1 hb1)
  have hb1 := Lib.hid hb1
  clear HN HU
  go_wp2_with (first | simp only | simp only [hl2])
  refine (HN1.out).mono ?_; rintro e w2 ⟨t, rfl, ht, rfl⟩
  have hr := HR.out t ht
  clear HN1 ht
  have hc1 : (T % 2 = 1 ∧ (((T : Int) % 2 == 1) = true)) ∨ (T % 2 = 0 ∧ (((T : Int) % 2 == 1) = false)) := by
    by_cases h : T % 2 = 1
    · exact .inl ⟨h, by simp; omega⟩
    · exact .inr ⟨by omega, by simp; omega⟩
  have hc2 : (t < N ∧ (t : Int) < k - 1) ∨ (¬ t < N ∧ ¬ (t : Int) < k - 1) := by have := hkh.out; omega
  have hc3 : (T / 2 % 2 = 1 ∧ (((T : Int) / 2 % 2 == 1) = true)) ∨ (T / 2 % 2 = 0 ∧ (((T : Int) / 2 % 2 == 1) = false)) := by
    by_cases h : T / 2 % 2 = 1
    · exact .inl ⟨h, by simp; omega⟩
    · exact .inr ⟨by omega, by simp; omega⟩
  have hHr := Lib.hid hr
  clear hr HR
  rcases hc1 with ⟨c1, d1⟩ | ⟨c1, d1⟩
  · rcases hc2 with ⟨c2, d2⟩ | ⟨c2, d2⟩
    · have hE : Hid ((T : Int) / 2 + 1 = (r : Int)) := Lib.hid (by have := hHr.out; rw [if_pos ⟨c1, .inl c2⟩] at this; omega)
      clear hc3 c1 c2 hHr
      go_wp2_with (first | simp only | simp only [hl2])
      go_ret
      exact ⟨ret_int hE.out, hb1.out⟩
    · rcases hc3 with ⟨c3, d3⟩ | ⟨c3, d3⟩
      · have hE : Hid ((T : Int) / 2 + 1 = (r : Int)) := Lib.hid (by have := hHr.out; rw [if_pos ⟨c1, .inr c3⟩] at this; omega)
        clear c1 c2 c3 hHr
        go_wp2_with (first | simp only | simp only [hl2])
        go_ret
        exact ⟨ret_int hE.out, hb1.out⟩
      · have hE : Hid ((T : Int) / 2 = (r : Int)) := Lib.hid (by have := hHr.out; rw [if_neg (by omega)] at this; omega)
        clear c1 c2 c3 hHr
        go_wp2_with (first | simp only | simp only [hl2])
        go_ret
        exact ⟨ret_int hE.out, hb1.out⟩
  · have hE : Hid ((T : Int) / 2 = (r : Int)) := Lib.hid (by have := hHr.out; rw [if_neg (by omega)] at this; omega)
    clear c1 hc2 hc3 hHr
    go_wp2_with (first | simp only | simp only [hl2])
    go_ret
    exact ⟨ret_int hE.out, hb1.out⟩
set_option maxRecDepth 100000
open Go.RowKit
set_option linter.unusedVariables false
def rU (L : Nat) (e : Int) : Int := max ((L : Int) + e - 53) (-1074)
def rN (z L : Nat) (e : Int) : Nat := if rU L e ≤ e then z * 2 ^ (e - rU L e).toNat else rndN z (rU L e - e).toNat
/-- The nearest float to z 2^e. -/
def nearW (z : Nat) (e : Int) : Nat := if z = 0 ∨ e + bitsZ z < -1074 then 0 else if 1024 < e + bitsZ z then 9218868437227405312 else Ieee.double.nearest false (rN z (bitsZ z) e) (rU (bitsZ z) e)
theorem bits_lt_nat {z : Nat} (h0 : z ≠ 0) : z < 2 ^ bitsZ z := by
  have := bits_lt (z := (z : Int)) (by omega)
  have e : ((2 ^ bitsZ z : Nat) : Int) = (2 : Int) ^ bitsZ z := by simp
  omega
theorem near_facts {z L : Nat} {e : Int} (hL : z < 2 ^ L) (h1 : -1074 ≤ e + L) (h2 : e + L ≤ 1024) :
    rN z L e ≤ 9007199254740992 ∧ -1074 ≤ rU L e ∧ rU L e ≤ 971 ∧ (rU L e ≤ e → rN z L e = z * 2 ^ (e - rU L e).toNat ∧ z < 9007199254740992) ∧ (e < rU L e → rN z L e = rndN z (rU L e - e).toNat) := by
  have hu : rU L e = max ((L : Int) + e - 53) (-1074) := rfl
  unfold rN
  generalize rU L e = u at *
  have h53 : (2 : Nat) ^ 53 = 9007199254740992 := by decide
  by_cases h : u ≤ e
  · rw [if_pos h]
    have hz : z * 2 ^ (e - u).toNat < 2 ^ 53 := by
      have h3 : z * 2 ^ (e - u).toNat < 2 ^ L * 2 ^ (e - u).toNat := Nat.mul_lt_mul_of_pos_right hL (n_pow_pos _)
      rw [← Nat.pow_add] at h3
      exact Nat.lt_of_lt_of_le h3 (Nat.pow_le_pow_right (by decide) (by omega))
    have hz2 : z < 2 ^ 53 := Nat.lt_of_lt_of_le hL (Nat.pow_le_pow_right (by decide) (by omega))
    exact ⟨by omega, by omega, by omega, fun _ => ⟨rfl, by omega⟩, fun q => by omega⟩
  · rw [if_neg h]
    have hz : z / 2 ^ (u - e).toNat < 2 ^ 53 := by
      rw [Nat.div_lt_iff_lt_mul (n_pow_pos _), ← Nat.pow_add]
      exact Nat.lt_of_lt_of_le hL (Nat.pow_le_pow_right (by decide) (by omega))
    have := rnd_le z _ _ hz
    exact ⟨by omega, by omega, by omega, fun q => absurd q h, fun _ => rfl⟩
/-- What a whole number up to 2^53 times a power of two is, as a float. -/
def IsFl (r : Nat) (k : Int) (R : Nat) : Prop := (r = 0 ∧ R = 0) ∨ (r ≠ 0 ∧ FV false R r k) ∨ (r = 9007199254740992 ∧ k = 971 ∧ R = 9218868437227405312)
theorem isFl_near {r : Nat} {u : Int} (hr : r ≤ 9007199254740992) (h1 : -1074 ≤ u) (h2 : u ≤ 971) : IsFl r u (Ieee.double.nearest false r u) := by
  by_cases h0 : r = 0
  · subst h0; exact .inl ⟨rfl, nearest_zero false u⟩
  · by_cases h53 : r = 9007199254740992
    · subst h53
      have hs : SameD 9007199254740992 u 4503599627370496 (u + 1) := ⟨1, .inr ⟨rfl, rfl⟩⟩
      have hc : Canon 4503599627370496 (u + 1) := ⟨by decide, by omega, .inl (by decide)⟩
      by_cases hu : u = 971
      · subst hu
        refine .inr (.inr ⟨rfl, rfl, ?_⟩)
        rw [nearest_canon false hs hc (by decide)]; decide
      · have hf := (fvc hc (by omega)).same hs
        refine .inr (.inl ⟨by decide, ?_⟩)
        rw [hf.nearest (SameD.refl _ _)]; exact hf
    · obtain ⟨R, hR⟩ := FV.make false (c := r) (q := u) (by omega) h1 h2
      refine .inr (.inl ⟨h0, ?_⟩)
      rw [hR.nearest (SameD.refl _ _)]; exact hR
theorem float_upto {r : Nat} (h0 : r ≠ 0) (hr : r ≤ 9007199254740992) : ∃ c q, Canon c q ∧ q ≤ 1 ∧ c ≠ 0 ∧ SameD r 0 c q ∧ floatOfInt .f64 (r : Int) = rungOf c q := by
  by_cases h53 : r = 9007199254740992
  · subst h53
    have hs : SameD 9007199254740992 0 4503599627370496 1 := ⟨1, .inr ⟨rfl, rfl⟩⟩
    have hc : Canon 4503599627370496 1 := ⟨by decide, by decide, .inl (by decide)⟩
    exact ⟨4503599627370496, 1, hc, by omega, by decide, hs, fv_int ((fvc hc (by omega)).same hs)⟩
  · obtain ⟨d, p, h1, h2, h3, h4⟩ := float_of (n := r) (by omega)
    exact ⟨d, p, h1, by omega, fun e => h0 (h3.zero.2 e), h3, h4⟩
theorem ldexp_int (r : Nat) (k : Int) (R : Nat) (w : World) (hr : r ≤ 9007199254740992) (h1 : -3000 ≤ k) (h2 : k ≤ 3000) (h : IsFl r k R) :
    Calls Tryz.prog 208 #[.float .f64 (floatOfInt .f64 (r : Int)), .int .i64 k] w fun e w' => e = .returned (.float .f64 R) ∧ w = w' := by
  refine Ldexp_of _ R k w (fun w => ?_)
  rcases h with ⟨rfl, rfl⟩ | ⟨h0, hf⟩ | ⟨rfl, rfl, rfl⟩
  · have : floatOfInt .f64 ((0 : Nat) : Int) = 0 := by decide
    rw [this]; exact ldexp_zero k w
  · obtain ⟨c, q, g1, g2, g3, g4, g5⟩ := float_upto h0 hr
    rw [g5]
    have hs : SameD c (q + k) r k := by
      have := (g4.add k).symm
      rw [Int.zero_add] at this; exact this
    exact ldexp_fin c q k R w g1 (by omega) g3 (hf.same hs) (by omega) (by omega)
  · obtain ⟨c, q, g1, g2, g3, g4, g5⟩ := float_upto (r := 9007199254740992) (by decide) (by decide)
    rw [g5]
    have hl := g4.log2 g3
    have e : (9007199254740992 : Nat).log2 = 53 := by decide +kernel
    rw [e] at hl
    exact ldexp_over c q 971 w g1 (by omega) g3 (by omega) (by omega) (by omega)
theorem bits_len {a : List Int} {z : Nat} (hd : Wd a) (hz : wv a = (z : Int)) (la : a.length ≤ 1000) : bitsZ z ≤ 32000 ∧ (z ≠ 0 → 0 < bitsZ z) ∧ (z = 0 → bitsZ z = 0) := by
  refine ⟨?_, fun h => bitsZ_pos (by omega), fun h => by subst h; rfl⟩
  by_cases h : z = 0
  · subst h; decide
  · have := bits_words hd (by omega)
    rw [hz] at this; omega
set_option maxHeartbeats 4000000 in
theorem pnear_any (v : Value) (a : List Int) (z : Nat) (e : Int) (w : World) (hv : WList w v a) (la : a.length ≤ 1000) (hz : wv a = (z : Int)) (e0 : -9223372036854775808 ≤ e) (e1 : e ≤ 9223372036854775807) (hT : Tab w) :
    Calls Tryz.prog 182 #[v, .int .i64 e] w fun r w' => r = .returned (.float .f64 (nearW z e)) ∧ Below w.heap.size w w' := by
  obtain ⟨l1, l2, l3⟩ := bits_len hv.2.1 hz la
  have HB := Lib.hid (fun w1 (h : Below w.heap.size w w1) => bits_any v a w1 (hv.below h))
  rw [hz] at HB
  have HInf := Lib.hid (fun w => finf_any w)
  have HF := Lib.hid (fun (h1 : z ≠ 0) h2 h3 => near_facts (z := z) (L := bitsZ z) (e := e) (bits_lt_nat h1) h2 h3)
  have HU := Lib.hid (uint_any v a w hv)
  rw [hz] at HU
  have HV := Lib.hid hv
  have HT := Lib.hid hT
  have hN : nearW z e = (if z = 0 ∨ e + bitsZ z < -1074 then 0 else if 1024 < e + bitsZ z then 9218868437227405312 else Ieee.double.nearest false (rN z (bitsZ z) e) (rU (bitsZ z) e)) := rfl
  have hu0 : rU (bitsZ z) e = max ((bitsZ z : Int) + e - 53) (-1074) := rfl
  generalize nearW z e = R at *
  have hlt := Lib.hid (fun (h : z ≠ 0) => bits_lt_nat h)
  generalize bitsZ z = L at *
  have Hz := Lib.hid hz
  obtain ⟨p, c, rfl⟩ := hv.shape
  have la := Lib.hid la
  clear hv hT hz
  by_cases h0 : z = 0
  · have hL0 : ((L : Int) == 0) = true := by simp; omega
    have hR := Lib.hid (show R = 0 by rw [hN, if_pos (.inl h0)])
    clear hN HF HU hu0 hlt
    go_enter Tryz.func182, Tryz.ntmps182
    go_wp2_with fail
    refine (HB.out w (Below.refl _ _)).mono ?_; rintro r w1 ⟨rfl, rfl⟩
    go_wp2_with fail
    go_ret
    exact ⟨ret_float hR.out.symm, Below.refl _ _⟩
  · have hL0 : ((L : Int) == 0) = false := by simp; have := l2 h0; omega
    by_cases h1 : e < -1074 - (L : Int)
    · have hR := Lib.hid (show R = 0 by rw [hN, if_pos (.inr (by omega))])
      clear hN HF HU hu0 hlt
      go_enter Tryz.func182, Tryz.ntmps182
      go_wp2_with fail
      refine (HB.out w (Below.refl _ _)).mono ?_; rintro r w1 ⟨rfl, rfl⟩
      go_wp2_with fail
      go_ret
      exact ⟨ret_float hR.out.symm, Below.refl _ _⟩
    · by_cases h2 : 1024 - (L : Int) < e
      · have hR := Lib.hid (show R = 9218868437227405312 by rw [hN, if_neg (by omega), if_pos (by omega)])
        clear hN HF HU hu0 hlt
        go_enter Tryz.func182, Tryz.ntmps182
        go_wp2_with fail
        refine (HB.out w (Below.refl _ _)).mono ?_; rintro r w1 ⟨rfl, rfl⟩
        go_wp2_with fail
        refine (HInf.out w).mono ?_; rintro r w1 ⟨rfl, rfl⟩
        go_wp2_with fail
        go_ret
        exact ⟨ret_float hR.out.symm, Below.refl _ _⟩
      · have hR : R = Ieee.double.nearest false (rN z L e) (rU L e) := by rw [hN, if_neg (by omega), if_neg (by omega)]
        obtain ⟨f1, f2, f3, f4, f5⟩ := HF.out h0 (by omega) (by omega)
        have hfl := Lib.hid (isFl_near f1 f2 f3)
        rw [← hR] at hfl
        clear hN HF hR
        by_cases h3 : rU L e ≤ e
        · obtain ⟨g1, g2⟩ := f4 h3
          have hfl2 : IsFl z e R := by
            have hs : SameD z e (rN z L e) (rU L e) := ⟨(e - rU L e).toNat, .inl ⟨by omega, g1⟩⟩
            rcases hfl.out with ⟨q1, q2⟩ | ⟨q1, q2⟩ | ⟨q1, q2, q3⟩
            · exact absurd (hs.zero.2 q1) h0
            · exact .inr (.inl ⟨h0, q2.same hs⟩)
            · exfalso
              have h4 := hlt.out h0
              have h5 : rN z L e < 9007199254740992 := by
                rw [g1]
                have h6 : z * 2 ^ (e - rU L e).toNat < 2 ^ L * 2 ^ (e - rU L e).toNat := Nat.mul_lt_mul_of_pos_right h4 (n_pow_pos _)
                rw [← Nat.pow_add] at h6
                have h7 : (2 : Nat) ^ 53 = 9007199254740992 := by decide
                rw [← h7]
                exact Nat.lt_of_lt_of_le h6 (Nat.pow_le_pow_right (by decide) (by omega))
              omega
          have HL := Lib.hid (fun w => ldexp_int z e R w (by omega) (by omega) (by omega) hfl2)
          have hsm : smallB (z : Int) = true := by unfold smallB; simp; omega
          rw [hsm] at HU
          have hu := hu0
          generalize rU L e = u at *
          have hu' : max ((L : Int) + e - 53) (-1074) = u := hu.symm
          clear hfl hfl2 g1 f1 f4 f5 hsm hu0 hu hlt
          go_enter Tryz.func182, Tryz.ntmps182
          go_wp2_with fail
          refine (HB.out w (Below.refl _ _)).mono ?_; rintro r w1 ⟨rfl, rfl⟩
          go_wp2_with fail
          refine (HU.out).mono ?_; rintro r w1 ⟨rfl, rfl⟩
          go_wp2_with fail
          refine (HL.out w).mono ?_; rintro r w1 ⟨rfl, rfl⟩
          go_wp2_with fail
          go_ret
          exact ⟨rfl, Below.refl _ _⟩
        · have g1 := f5 (by omega)
          have hN1 : (rU L e - e).toNat = (rU L e - e - 1).toNat + 1 := by omega
          have hs : z / 2 ^ (rU L e - e - 1).toNat < 18446744073709551616 := by
            have h54 : (2 : Nat) ^ 54 < 18446744073709551616 := by decide
            refine Nat.lt_trans ?_ h54
            rw [Nat.div_lt_iff_lt_mul (n_pow_pos _), ← Nat.pow_add]
            exact Nat.lt_of_lt_of_le (hlt.out h0) (Nat.pow_le_pow_right (by decide) (by omega))
          have HS := Lib.hid (rshift_any _ a z (rU L e - e) (rU L e - e - 1).toNat w HV.out la.out Hz.out h0 (by omega) (by omega) hs HT.out)
          rw [← hN1, ← g1] at HS
          have HL := Lib.hid (fun w => ldexp_int (rN z L e) (rU L e) R w f1 (by omega) (by omega) hfl.out)
          have hu := hu0
          generalize rN z L e = r at *
          have b1 : rU L e ≤ e + 40000 := by omega
          generalize rU L e = u at *
          have hu' : max ((L : Int) + e - 53) (-1074) = u := hu.symm
          clear hfl g1 hN1 f1 f4 f5 hs hu0 hu hlt HU
          go_enter Tryz.func182, Tryz.ntmps182
          go_wp2_with fail
          refine (HB.out w (Below.refl _ _)).mono ?_; rintro r w1 ⟨rfl, rfl⟩
          go_wp2_with fail
          refine (HS.out).mono ?_; rintro r w1 ⟨rfl, hb⟩
          go_wp2_with fail
          refine (HL.out w1).mono ?_; rintro r w2 ⟨rfl, rfl⟩
          go_wp2_with fail
          go_ret
          exact ⟨rfl, hb⟩
end Go.Proofs.YtigikgphipebiaaGreatDoor
/- Join of package flo, and the examples of its chapter. -/
namespace Go.Proofs.YtigikgphipebiaaGreatDoor
set_option maxRecDepth 100000
open Go.RowKit Go.ChangeShapes Go.WideShapes Go.ChangeAt
set_option linter.unusedVariables false
theorem nearW_le (z : Nat) (e : Int) : nearW z e ≤ 9218868437227405312 := by
  unfold nearW
  by_cases h1 : z = 0 ∨ e + bitsZ z < -1074
  · rw [if_pos h1]; omega
  · rw [if_neg h1]
    by_cases h2 : 1024 < e + bitsZ z
    · rw [if_pos h2]; omega
    · rw [if_neg h2]
      obtain ⟨f1, f2, f3, -, -⟩ := near_facts (z := z) (L := bitsZ z) (e := e) (bits_lt_nat (fun h => h1 (.inl h))) (by omega) (by omega)
      rcases isFl_near f1 f2 f3 with ⟨q1, q2⟩ | ⟨q1, d, p, k1, k2, k3, k4⟩ | ⟨q1, q2, q3⟩
      · rw [q2]; omega
      · rw [k4]; have := rung_lt k2 k3; exact Nat.le_of_lt this
      · rw [q3]; omega
theorem join_any (b : Bool) (v : Value) (a : List Int) (z : Nat) (e : Int) (w : World) (hv : WList w v a) (la : a.length ≤ 1000) (hz : wv a = (z : Int)) (e0 : -9223372036854775808 ≤ e) (e1 : e ≤ 9223372036854775807) (hT : Tab w) :
    Calls Tryz.prog 135 #[.bool b, v, .int .i64 e] w fun r w' => r = .returned (.float .f64 (signN b (nearW z e))) ∧ Below w.heap.size w w' := by
  have HN := Lib.hid (pnear_any v a z e w hv la hz e0 e1 hT)
  have hle := nearW_le z e
  generalize nearW z e = R at *
  have HC := Lib.hid (fun w => copysign_pos R w (by omega))
  have hf : flipN R = R + 9223372036854775808 := by unfold flipN; rw [if_pos (by omega)]
  have HF := Lib.hid hf
  obtain ⟨p, c, rfl⟩ := hv.shape
  clear hv hT hf hz la e0 e1 hle
  unfold signN
  cases b
  · go_enter Tryz.func135, Tryz.ntmps135
    go_wp2_with fail
    refine (HN.out).mono ?_; rintro r w1 ⟨rfl, hb⟩
    go_wp2_with fail
    go_ret
    exact ⟨rfl, hb⟩
  · generalize flipN R = R2 at *
    go_enter Tryz.func135, Tryz.ntmps135
    go_wp2_with fail
    refine (HN.out).mono ?_; rintro r w1 ⟨rfl, hb⟩
    go_wp2_with fail
    refine (HC.out w1).mono ?_; rintro r w2 ⟨rfl, rfl⟩
    go_wp2_with fail
    go_ret
    exact ⟨ret_float HF.out.symm, hb⟩
end Go.Proofs.YtigikgphipebiaaGreatDoor
/- The nearest float to a number times a power of two: what Join of the reference returns. -/
namespace Go.Proofs.YtigikgphipebiaaGreatDoor
set_option maxRecDepth 100000
open Go.RowKit
set_option linter.unusedVariables false
theorem mul_over {c : Nat} (h1 : 4503599627370496 ≤ c) (h2 : c < 9007199254740992) : floatBits .mul .f64 (rungOf c 971) 4611686018427387904 = some 9218868437227405312 := by
  have hc : Canon c 971 := ⟨h2, by decide, .inl h1⟩
  obtain ⟨d, p, k1, k2, k3, k4, k5⟩ := (fvc hc (by decide)).read
  obtain ⟨rfl, rfl⟩ := canon_same2 k1 hc k2
  show Ieee.double.mul (rungOf c 971) 4611686018427387904 = _
  unfold Ieee.Format.mul
  rw [k5, read_two]
  simp only [Ieee.Datum.product, Option.map_some, Ieee.Format.write]
  have hs : SameD (c * 4503599627370496) (971 + -51) c 972 := ⟨52, .inr ⟨by decide, congrArg (c * ·) (by decide : 4503599627370496 = 2 ^ 52)⟩⟩
  have hc2 : Canon c 972 := ⟨h2, by decide, .inl h1⟩
  have hb : (false ^^ false) = false := rfl
  rw [hb, nearest_canon false hs hc2 (by omega), Nat.min_eq_right (by unfold rungOf; omega)]
  rfl
theorem inf_w64 : W64 9218868437227405312 := by decide
def upR (c : Nat) (q k : Int) : Nat := if q + k ≤ 971 then rungOf c (q + k) else 9218868437227405312
set_option maxHeartbeats 4000000 in
theorem rtimes_up (c : Nat) (q k : Int) (w : World) (hc : Canon c q) (hq : q ≤ 971) (h52 : 4503599627370496 ≤ c) (hk0 : 0 ≤ k) (hk1 : k ≤ 3000) :
    Calls Tryz.prog 212 #[.float .f64 (rungOf c q), .int .i64 k] w fun e w' => e = .returned (.float .f64 (upR c q k)) ∧ Drawn w w' := by
  have hU : upR c q k = (if q + k ≤ 971 then rungOf c (q + k) else 9218868437227405312) := rfl
  have HC := Lib.hid (And.intro hc (And.intro hq h52))
  have HU := Lib.hid hU
  generalize upR c q k = R at *
  have hs0 := Lib.hid (show rungOf c q = rungOf c (q + (0 : Nat)) by simp)
  generalize rungOf c q = X0 at *
  clear hc hq h52 hU
  have hzz : (FloatKind.f64.format.order 0 0 == some .eq) = true := by decide +kernel
  have hinf := fun w => run_nan (P := Tryz.prog) 9218868437227405312 (sub_inf inf_w64 (by decide)) 59 w
  have hnan : ∀ w, (FloatKind.f64.format.order (nanOf w 9218868437227405312) 0 == some .eq) = false := fun w => ord_nan_l (nanOf_nan w _).1 0 .eq
  have HZ := Lib.hid hzz
  have HI := Lib.hid (And.intro hinf hnan)
  clear hzz hinf hnan
  go_enter Tryz.func212, Tryz.ntmps212
  go_wp2_with fail
  go_loop [0, 1] (fun x e => ∃ i : Nat, (i : Int) ≤ k ∧ e = .int .i64 (k - i) ∧ ∃ X : Nat, x = .float .f64 X ∧ Hid ((q + i ≤ 971 ∧ X = rungOf c (q + i)) ∨ (q + i = 972 ∧ X = 9218868437227405312))) (fun _ e => (intOf e).toNat)
  case atStart => exact ⟨0, by omega, by simp, _, rfl, Lib.hid (.inl ⟨by have := HC.out.2.1; simpa using this, hs0.out⟩)⟩
  case round =>
    clear hs0
    obtain ⟨i, hi, rfl, X, rfl, hX⟩ := hrel
    by_cases hik : (i : Int) = k
    · have hR : Hid (X = R) := Lib.hid (by
        rw [HU.out, ← hik]
        rcases hX.out with ⟨a, b⟩ | ⟨a, b⟩
        · rw [if_pos a, b]
        · rw [if_neg (by omega), b])
      have he : k - (i : Int) = 0 := by omega
      rw [he]
      clear hX HU HC HZ HI he hik hi
      go_wp2_with fail
      go_loop [0, 1] (fun x e => x = .float .f64 X ∧ e = .int .i64 0) (fun _ _ => 0)
      case atStart => exact ⟨rfl, rfl⟩
      case round =>
        obtain ⟨rfl, rfl⟩ := hrel
        go_wp2_with fail
        go_ret
        exact ⟨ret_float hR.out, Drawn.refl _⟩
    · have hpos : 0 < k - (i : Int) := by omega
      have hb1 : k - (i : Int) ≤ 3000 := by omega
      rcases hX.out with ⟨a, b⟩ | ⟨a, b⟩
      · have hcan : Canon c (q + i) := ⟨HC.out.1.1, by have := HC.out.1.2.1; omega, .inl HC.out.2.2⟩
        have ht := fin_tests hcan a (by have := HC.out.2.2; omega)
        have hop : ∀ t w, (binOp .sub t (.float .f64 X) (.float .f64 X)).run Tryz.prog w = .ok (.float .f64 0) w := fun t w => run_float_arith w .sub t .f64 _ _ _ (by rw [b]; exact sub_fin (rung_w64 hcan a).1 ht.2.1 ht.1)
        have hz := HZ.out
        have hm : ∃ Y, floatBits .mul .f64 X 4611686018427387904 = some Y ∧ ((q + (i + 1 : Nat) ≤ 971 ∧ Y = rungOf c (q + (i + 1 : Nat))) ∨ (q + (i + 1 : Nat) = 972 ∧ Y = 9218868437227405312)) := by
          by_cases h971 : q + i = 971
          · refine ⟨_, ?_, .inr ⟨by omega, rfl⟩⟩
            rw [b, h971]; exact mul_over HC.out.2.2 HC.out.1.1
          · have hcan2 : Canon c (q + (i + 1 : Nat)) := ⟨HC.out.1.1, by have := HC.out.1.2.1; omega, .inl HC.out.2.2⟩
            refine ⟨rungOf c (q + (i + 1 : Nat)), ?_, .inl ⟨by omega, rfl⟩⟩
            rw [b]
            refine fv_mul (fvc hcan a) two_fv ?_
            rw [Nat.mul_one, show q + (i : Int) + 1 = q + ((i + 1 : Nat) : Int) by omega]
            exact fvc hcan2 (by omega)
        obtain ⟨Y, hY, hY2⟩ := hm
        have hop2 : ∀ t w, (binOp .mul t (.float .f64 X) (.float .f64 4611686018427387904)).run Tryz.prog w = .ok (.float .f64 Y) w := fun t w => run_float_arith w .mul t .f64 _ _ _ hY
        have hY2 := Lib.hid hY2
        clear hX a b hcan ht hY HI HU
        go_wp2_with (first | simp only [hop] | simp only [hop2])
        go_round
        case rel => exact ⟨i + 1, by omega, by go_num, _, rfl, hY2⟩
        case measure => simp [intOf]; omega
      · subst b
        have hR : Hid (9218868437227405312 = R) := Lib.hid (by rw [HU.out, if_neg (by omega)])
        obtain ⟨hop, hn⟩ := HI.out
        have hn := hn w
        clear hX HU HC HZ HI a hik
        go_wp2_with (simp only [hop])
        go_loop [0, 1] (fun x e => x = .float .f64 9218868437227405312 ∧ e = .int .i64 (k - i)) (fun _ _ => 0)
        case atStart => exact ⟨rfl, rfl⟩
        case round =>
          obtain ⟨rfl, rfl⟩ := hrel
          go_wp2_with fail
          go_ret
          exact ⟨ret_float hR.out, (Drawn.refl _).one⟩
set_option maxHeartbeats 4000000 in
theorem rtimes_down (X d : Nat) (p : Int) (j : Nat) (w : World) (hd : Canon d p) (h0 : d ≠ 0) (hp : p + j ≤ 971) (hj : j ≤ 3000) (hX : FV false X d (p + j)) :
    Calls Tryz.prog 212 #[.float .f64 X, .int .i64 (-(j : Int))] w fun e w' => e = .returned (.float .f64 (rungOf d p)) ∧ Drawn w w' := by
  have HD := Lib.hid (And.intro hd (And.intro h0 hp))
  have HX := Lib.hid hX
  have HR := Lib.hid (show FV false (rungOf d p) d p from fvc hd (by omega))
  generalize rungOf d p = R at *
  clear hd h0 hp hX
  go_enter Tryz.func212, Tryz.ntmps212
  go_wp2_with fail
  go_loop [0, 1] (fun x e => x = .float .f64 X ∧ e = .int .i64 (-(j : Int))) (fun _ _ => 0)
  case atStart => exact ⟨rfl, rfl⟩
  case round =>
    obtain ⟨rfl, rfl⟩ := hrel
    go_wp2_with fail
    go_loop [0, 1] (fun x e => ∃ i : Nat, i ≤ j ∧ e = .int .i64 (-(i : Int)) ∧ ∃ Y : Nat, x = .float .f64 Y ∧ Hid (FV false Y d (p + i))) (fun _ e => (-(intOf e)).toNat)
    case atStart => exact ⟨j, Nat.le_refl _, rfl, _, rfl, HX⟩
    case round =>
      clear HX
      obtain ⟨i, hi, rfl, Y, rfl, hY⟩ := hrel
      by_cases h : i = 0
      · subst h
        have hE : Hid (Y = R) := Lib.hid (by have := hY.out; simp at this; exact this.unique HR.out)
        have e0 : -(((0 : Nat)) : Int) = 0 := by simp
        rw [e0]
        clear hY e0
        go_wp2_with fail
        go_ret
        exact ⟨ret_float hE.out, Drawn.refl _⟩
      · obtain ⟨n, rfl⟩ : ∃ n, i = n + 1 := ⟨i - 1, by omega⟩
        obtain ⟨Z, hZ⟩ := FV.make false (c := d) (q := p + n) HD.out.1.1 (by have := HD.out.1.2.1; omega) (by have := HD.out.2.2; omega)
        have hh := fv_half hY.out (r := Z) (by rw [show p + ((n + 1 : Nat) : Int) - 1 = p + n by omega]; exact hZ)
        have hop : ∀ t w, (binOp .quo t (.float .f64 Y) (.float .f64 4611686018427387904)).run Tryz.prog w = .ok (.float .f64 Z) w := fun t w => run_float_arith w .quo t .f64 _ _ _ hh
        have hne : (FloatKind.f64.format.order Y 0 != some .eq) = true := by
          obtain ⟨d', p', k1, k2, k3, k4⟩ := hY.out
          rw [word_false] at k4
          have hw := (rung_w64 k2 k3).1
          rw [← k4] at hw
          have hz := (fin_tests k2 k3 (fun e => HD.out.2.1 (k1.zero.2 e))).2.2.1
          rw [← k4] at hz
          rw [bne_of (zero_test Y hw), hz]; rfl
        have hZ := Lib.hid hZ
        have b1 : -(((n + 1 : Nat)) : Int) < 0 := by omega
        have b2 : -3000 ≤ -(((n + 1 : Nat)) : Int) := by omega
        clear hh hY h
        go_wp2_with (simp only [hop])
        go_round
        case rel => exact ⟨n, by omega, by go_num, _, rfl, hZ⟩
        case measure => simp [intOf]; omega
theorem rtimes_zero (k : Int) (w : World) (hk : k ≤ 0) (hk1 : -3000 ≤ k) :
    Calls Tryz.prog 212 #[.float .f64 0, .int .i64 k] w fun e w' => e = .returned (.float .f64 0) ∧ Drawn w w' := by
  have hne : (FloatKind.f64.format.order 0 0 != some .eq) = false := by decide +kernel
  go_enter Tryz.func212, Tryz.ntmps212
  go_wp2_with fail
  go_loop [0, 1] (fun x e => x = .float .f64 0 ∧ e = .int .i64 k) (fun _ _ => 0)
  case atStart => exact ⟨rfl, rfl⟩
  case round =>
    obtain ⟨rfl, rfl⟩ := hrel
    go_wp2_with fail
    go_loop [0, 1] (fun x e => x = .float .f64 0 ∧ e = .int .i64 k) (fun _ _ => 0)
    case atStart => exact ⟨rfl, rfl⟩
    case round =>
      obtain ⟨rfl, rfl⟩ := hrel
      by_cases h : k = 0
      · subst h
        go_wp2_with fail
        go_ret
        exact ⟨rfl, Drawn.refl _⟩
      · have hb : k < 0 := by omega
        go_wp2_with fail
        go_ret
        exact ⟨rfl, Drawn.refl _⟩
theorem int_canon {r c : Nat} {q : Int} (h0 : r ≠ 0) (hc : Canon c q) (hs : SameD r 0 c q) : 4503599627370496 ≤ c := by
  obtain ⟨c1, c2, c3 | c3⟩ := hc
  · exact c3
  · subst c3
    obtain ⟨k, ⟨g1, g2⟩ | ⟨g1, g2⟩⟩ := hs
    · have h1 : 2 ^ 53 ≤ 2 ^ k := Nat.pow_le_pow_right (by decide) (by omega)
      have h2 : 1 * 2 ^ k ≤ r * 2 ^ k := Nat.mul_le_mul_right _ (by omega)
      have h3 : (2 : Nat) ^ 53 = 9007199254740992 := by decide
      omega
    · omega
theorem rtimes_int (r : Nat) (k : Int) (R : Nat) (w : World) (hr : r ≤ 9007199254740992) (h1 : -1074 ≤ k) (h2 : k ≤ 971) (h : IsFl r k R) (hz : r = 0 → k ≤ 0) :
    Calls Tryz.prog 212 #[.float .f64 (floatOfInt .f64 (r : Int)), .int .i64 k] w fun e w' => e = .returned (.float .f64 R) ∧ Drawn w w' := by
  by_cases h0 : r = 0
  · have hR : R = 0 := by
      rcases h with ⟨a, b⟩ | ⟨a, b⟩ | ⟨a, b, c⟩
      · exact b
      · exact absurd h0 a
      · omega
    subst h0 hR
    have : floatOfInt .f64 ((0 : Nat) : Int) = 0 := by decide
    rw [this]; exact rtimes_zero k w (hz rfl) (by omega)
  · obtain ⟨c, q, g1, g2, g3, g4, g5⟩ := float_upto h0 hr
    have h52 := int_canon h0 g1 g4
    have hlc : c.log2 = 52 := by
      have := log2_le g1.1
      have : ¬ c.log2 < 52 := by rw [Nat.log2_lt g3]; omega
      omega
    have hs : SameD c (q + k) r k := by
      have := (g4.add k).symm
      rw [Int.zero_add] at this; exact this
    by_cases hk : 0 ≤ k
    · rw [g5]
      have hR : upR c q k = R := by
        unfold upR
        rcases h with ⟨a, b⟩ | ⟨a, b⟩ | ⟨a, b, e⟩
        · exact absurd a h0
        · have hf := b.same hs
          have := (hf.expo g3).2
          rw [if_pos (by omega)]
          exact (fvc ⟨g1.1, by have := g1.2.1; omega, .inl h52⟩ (by omega)).unique hf
        · subst a b e
          have hl := g4.log2 g3
          have e2 : (9007199254740992 : Nat).log2 = 53 := by decide +kernel
          rw [e2] at hl
          rw [if_neg (by omega)]
      rw [← hR]
      exact rtimes_up c q k w g1 (by omega) h52 hk (by omega)
    · rcases h with ⟨a, b⟩ | ⟨a, b⟩ | ⟨a, b, e⟩
      · exact absurd a h0
      · obtain ⟨d, p, k1, k2, k3, k4⟩ := b
        rw [word_false] at k4
        rw [k4, g5]
        have hd0 : d ≠ 0 := fun e => h0 (k1.zero.2 e)
        have hl := k1.log2 hd0
        have hlr : r.log2 ≤ 53 := by have := (Nat.log2_lt h0 (k := 54)).2 (by omega); omega
        have hlq := g4.log2 g3
        have hX : FV false (rungOf c q) d (p + ((-k).toNat : Nat)) := by
          refine (fvc g1 (by omega)).same (SameD.trans ?_ g4)
          have := (k1.symm.add (-k))
          rw [show k + -k = 0 by omega] at this
          rw [show ((((-k).toNat : Nat)) : Int) = -k by omega]; exact this
        have hk2 : k = -(((-k).toNat : Nat) : Int) := by omega
        have := rtimes_down (rungOf c q) d p (-k).toNat w k2 hd0 (by omega) (by omega) hX
        rw [← hk2] at this
        exact this
      · omega
set_option maxRecDepth 100000
open Go.RowKit
set_option linter.unusedVariables false
theorem sized_two {N : Nat} (h : N ≤ 15000) : Sized 20000 ((2 : Int) ^ N) := by
  have h1 : (2 : Nat) ^ N ≤ 1000 ^ N := Nat.pow_le_pow_left (by decide) N
  have e1 : ((2 ^ N : Nat) : Int) = (2 : Int) ^ N := by simp
  have e2 : ((1000 ^ N : Nat) : Int) = (1000 : Int) ^ N := by simp
  have h2 := p_succ N
  have h3 := p_mono (m := N + 1) (n := 20000) (by omega)
  have h4 := p_pos N
  have h5 := p_pos 20000
  have h6 : (0 : Int) < 2 ^ N := Int.pow_pos (by decide)
  unfold Sized
  omega
theorem sized_less {z : Int} {N : Nat} (h0 : 0 ≤ z) (h1 : z ≤ 2 ^ N) (h : N ≤ 15000) : Sized 20000 z := by
  obtain ⟨a, b⟩ := sized_two h
  exact ⟨by omega, by omega⟩
theorem pow2_less' {m n : Nat} (h : (2 : Int) ^ m < 2 ^ n) : m < n := by
  by_cases g : m < n
  · exact g
  · have := pow2_mono (m := n) (n := m) (by omega); omega
theorem two_lt_iff {z : Nat} {N : Nat} (h0 : z ≠ 0) : (z : Int) < 2 ^ N ↔ bitsZ z ≤ N := by
  have h1 := bits_lt (z := (z : Int)) (by omega)
  have h2 := bits_le (z := (z : Int)) (by omega)
  have h3 := bitsZ_pos (z := (z : Int)) (by omega)
  constructor
  · intro h
    have := pow2_less' (Int.lt_of_le_of_lt h2 h)
    omega
  · intro h
    have := pow2_mono h
    omega
set_option maxRecDepth 100000
open Go.RowKit
set_option linter.unusedVariables false
/-- What the two variables p and q hold. -/
def PQ (w : World) (X : Nat) (a b c d : Value) (x y : Int) (wr : World) : Prop :=
  Four' X a b c d wr ∧ Kept w X 89 wr ∧ Kept w (X + 1) 89 wr ∧ IsNum wr (.agg #[a, b]) x ∧ IsNum wr (.agg #[c, d]) y
theorem PQ.call {w w1 w2 : World} {X : Nat} {a b c d : Value} {x y : Int} (h : PQ w X a b c d x y w1) (hb : Below w1.heap.size w1 w2) : PQ w X a b c d x y w2 := by
  obtain ⟨h1, h2, h3, h4, h5⟩ := h
  exact ⟨h1.call hb, h2.call hb, h3.call hb, h4.below hb, h5.below hb⟩
theorem PQ.start (w : World) {a b c d : Value} {x y : Int} (hx : IsNum w (.agg #[a, b]) x) (hy : IsNum w (.agg #[c, d]) y) :
    PQ w w.heap.size a b c d x y ((w.alloc (.cells #[a, b] 89)).alloc (.cells #[c, d] 89)) := by
  have hB := below_two w (.cells #[a, b] 89) (.cells #[c, d] 89)
  refine ⟨⟨cell_later (below_one _ _) (by simp [go_sem]), cell_later (below_one _ _) (by simp [go_sem]), by simp [go_sem], by simp [go_sem]⟩, (Kept.start w a b _).call (below_one _ _), ?_, hx.below hB, hy.below hB⟩
  have := Kept.start (w.alloc (.cells #[a, b] 89)) c d 89
  simp only [World.size_alloc] at this
  exact this.down (below_one w _)
theorem far_one {w w1 : World} {N M : Nat} {T : TypeId} (h : Kept w M T w1) (u s : Value) (hne : N ≠ M) (x : Nat) (v : Value) (hc : w1.cell? ⟨N, x, none⟩ = some v) : ((w1.setCell ⟨M, 0, none⟩ u).setCell ⟨M, 1, none⟩ s).cell? ⟨N, x, none⟩ = some v := by
  rw [World.cell?_setCell_far _ _ _ _ (by simp; omega), World.cell?_setCell_far _ _ _ _ (by simp; omega)]; exact hc
theorem num_far {w w1 : World} {M : Nat} {v : Value} {z : Int} (h : Kept w M 89 w1) (u s : Value) (hn : IsNum w1 v z) : IsNum ((w1.setCell ⟨M, 0, none⟩ u).setCell ⟨M, 1, none⟩ s) v z := by
  obtain ⟨h1, h2, x, y, h3⟩ := h
  obtain ⟨cur, h4⟩ := heap_setCell_cells (p := ⟨M, 0, none⟩) (u := u) h3
  exact (hn.set u h3 (by decide)).set s h4 (by decide)
theorem PQ.storeP {w w1 : World} {X : Nat} {a b c d u s : Value} {x y z : Int} (h : PQ w X a b c d x y w1) (hz : IsNum w1 (.agg #[u, s]) z) :
    PQ w X u s c d z y ((w1.setCell ⟨X, 0, none⟩ u).setCell ⟨X, 1, none⟩ s) := by
  obtain ⟨⟨c1, c2, c3, c4⟩, h2, h3, h4, h5⟩ := h
  exact ⟨⟨(set_cells h2 u s).1, (set_cells h2 u s).2, far_one h2 u s (by omega) _ _ c3, far_one h2 u s (by omega) _ _ c4⟩, h2.store u s, h3.far (by omega) h2.2.1 u s, h2.num hz, num_far h2 u s h5⟩
theorem PQ.storeQ {w w1 : World} {X : Nat} {a b c d u s : Value} {x y z : Int} (h : PQ w X a b c d x y w1) (hz : IsNum w1 (.agg #[u, s]) z) :
    PQ w X a b u s x z ((w1.setCell ⟨X + 1, 0, none⟩ u).setCell ⟨X + 1, 1, none⟩ s) := by
  obtain ⟨⟨c1, c2, c3, c4⟩, h2, h3, h4, h5⟩ := h
  exact ⟨⟨far_one h3 u s (by omega) _ _ c1, far_one h3 u s (by omega) _ _ c2, (set_cells h3 u s).1, (set_cells h3 u s).2⟩, h2.far (by omega) h3.2.1 u s, h3.store u s, num_far h3 u s h4, h3.num hz⟩
theorem near_low {z L : Nat} {e : Int} (hL : z < 2 ^ L) (h : e + L < -1074) : rN z L e = 0 := by
  have h1 : rU L e = -1074 := by unfold rU; omega
  unfold rN
  rw [h1, if_neg (by omega)]
  obtain ⟨n, hn⟩ : ∃ n, (-1074 - e).toNat = L + 1 + n := ⟨(-1074 - e).toNat - (L + 1), by omega⟩
  rw [hn]
  have h2 : 2 ^ (L + 1) ≤ 2 ^ (L + 1 + n) := Nat.pow_le_pow_right (by decide) (by omega)
  have h3 : 2 ^ (L + 1) = 2 ^ L * 2 := Nat.pow_succ ..
  unfold rndN
  rw [Nat.div_eq_of_lt (by omega), Nat.mod_eq_of_lt (by omega), if_neg (by omega)]
set_option maxRecDepth 100000
open Go.RowKit
set_option linter.unusedVariables false
theorem num_len {w : World} {b : Bool} {p : Option Addr} {l c : Nat} {z : Int} (h : IsNum w (.agg #[.bool b, .slice p l c]) z) : l = 0 ↔ z = 0 := by
  obtain ⟨neg, s, ds, e, ⟨p', c', e2, -⟩, -, hd, ht, -, hz⟩ := h
  simp only [Value.agg.injEq, Array.mk.injEq, List.cons.injEq, and_true, Value.bool.injEq] at e
  obtain ⟨rfl, e3⟩ := e
  rw [← e3] at e2
  simp only [Value.slice.injEq] at e2
  obtain ⟨-, rfl, -⟩ := e2
  have hz0 := ht.zero hd
  rw [hz]
  constructor
  · intro hl
    have : ds = [] := List.length_eq_zero_iff.1 hl
    rw [hz0.2 this]; cases b <;> rfl
  · intro hs
    have : val ds = 0 := by cases b <;> simp [signed] at hs <;> omega
    rw [hz0.1 this]; rfl
theorem nearW_w64 (z : Nat) (e : Int) : W64 (nearW z e) := by have := nearW_le z e; unfold W64; omega
end Go.Proofs.YtigikgphipebiaaGreatDoor
