/- The nearest float to a whole number times a power of two: what the program returns. -/
import Derived.Test.YtflhicfbojmjbaaDoorFlok
import Derived.Test.YtflhicfbojmjbaaDoorNato
import Derived.Test.YtflhicfbojmjbaaDoorNatr
import Derived.Test.YtflhicfbojmjbaaDoorAwake2
namespace Go.Proofs.YtflhicfbojmjbaaDoor
set_option maxRecDepth 100000
open Go.RowKit
set_option linter.unusedVariables false
/-- z / 2^n to the nearest whole number, and between two the even one. -/
def rndN (z n : Nat) : Nat := if 2 ^ n < 2 * (z % 2 ^ n) ∨ (2 ^ n = 2 * (z % 2 ^ n) ∧ z / 2 ^ n % 2 = 1) then z / 2 ^ n + 1 else z / 2 ^ n
theorem rnd_parts (z N T : Nat) (hT : T = z / 2 ^ N) : z / 2 ^ (N + 1) = T / 2 ∧ z % 2 ^ (N + 1) = T % 2 * 2 ^ N + z % 2 ^ N := by
  subst hT
  have e : 2 ^ (N + 1) = 2 ^ N * 2 := Nat.pow_succ ..
  rw [e, ← Nat.div_div_eq_div_mul, Nat.mod_mul]
  refine ⟨rfl, ?_⟩
  rw [Nat.mul_comm, Nat.add_comm]
theorem halved_mod {z t N : Nat} (hz : z ≠ 0) (h : Halved (z : Int) t) : t < N ↔ z % 2 ^ N ≠ 0 := by
  obtain ⟨m, hm⟩ := h.resolve_left (by omega)
  have hm' : z = 2 ^ t * (2 * m + 1) := by
    have e : ((2 : Int) ^ t) = ((2 ^ t : Nat) : Int) := by simp
    rw [e] at hm
    have : ((z : Nat) : Int) = ((2 ^ t * (2 * m + 1) : Nat) : Int) := by rw [hm]; simp
    omega
  constructor
  · intro h1 h2
    obtain ⟨k, rfl⟩ := Nat.exists_eq_add_of_le (Nat.succ_le_of_lt h1)
    have h3 : 2 ^ (t + 1 + k) ∣ z := Nat.dvd_of_mod_eq_zero h2
    obtain ⟨x, hx⟩ := h3
    rw [hm', Nat.pow_add, Nat.pow_add, Nat.mul_assoc, Nat.mul_assoc] at hx
    have h4 := Nat.eq_of_mul_eq_mul_left (n_pow_pos t) hx
    rw [Nat.pow_one] at h4; omega
  · intro h1
    by_cases h2 : t < N
    · exact h2
    · exfalso
      obtain ⟨k, rfl⟩ := Nat.exists_eq_add_of_le (show N ≤ t by omega)
      refine h1 (Nat.mod_eq_zero_of_dvd ⟨2 ^ k * (2 * m + 1), ?_⟩)
      rw [hm', Nat.pow_add, Nat.mul_assoc]
theorem rnd_val {z N T t : Nat} (hT : T = z / 2 ^ N) (hz : z ≠ 0) (h : Halved (z : Int) t) : rndN z (N + 1) = if T % 2 = 1 ∧ (t < N ∨ T / 2 % 2 = 1) then T / 2 + 1 else T / 2 := by
  obtain ⟨h1, h2⟩ := rnd_parts z N T hT
  have h3 := halved_mod (N := N) hz h
  have h4 := Nat.mod_lt z (n_pow_pos N)
  have e : 2 ^ (N + 1) = 2 ^ N * 2 := Nat.pow_succ ..
  unfold rndN
  rw [h1, h2, e]
  have hp := n_pow_pos N
  generalize 2 ^ N = P at *
  generalize z % P = s at *
  have hT2 : T % 2 = 0 ∨ T % 2 = 1 := by omega
  rcases hT2 with k | k
  · have e2 : (if (0 = 1 ∧ (t < N ∨ T / 2 % 2 = 1)) then T / 2 + 1 else T / 2) = T / 2 := if_neg (by omega)
    rw [k, e2, if_neg (by omega)]
  · rw [k]
    by_cases c : t < N ∨ T / 2 % 2 = 1
    · have e2 : (if (1 = 1 ∧ (t < N ∨ T / 2 % 2 = 1)) then T / 2 + 1 else T / 2) = T / 2 + 1 := if_pos ⟨rfl, c⟩
      rw [e2, if_pos]
      rcases c with c | c
      · have := h3.1 c; omega
      · by_cases s0 : s = 0
        · subst s0; omega
        · omega
    · have e2 : (if (1 = 1 ∧ (t < N ∨ T / 2 % 2 = 1)) then T / 2 + 1 else T / 2) = T / 2 := if_neg (by omega)
      rw [e2, if_neg]
      have : ¬ s ≠ 0 := fun q => c (.inl (h3.2 q))
      omega
theorem rnd_le (z n B : Nat) (h : z / 2 ^ n < B) : rndN z n ≤ B := by unfold rndN; split <;> omega
set_option maxHeartbeats 4000000 in
theorem rshift_any (v : Value) (a : List Int) (z : Nat) (k : Int) (N : Nat) (w : World) (hv : WList w v a) (la : a.length ≤ 1000) (hz : wv a = (z : Int)) (h0 : z ≠ 0) (hk : k - 1 = (N : Int)) (hN : N ≤ 100000) (hs : z / 2 ^ N < 18446744073709551616) (hT : Tab w) :
    Calls Tryd.prog 80 #[v, .int .i64 k] w fun e w' => e = .returned (.int .u64 (rndN z (N + 1))) ∧ Below w.heap.size w w' := by
  obtain ⟨p, c, rfl⟩ := hv.shape
  have hTT : (wv a / 2 ^ N : Int) = ((z / 2 ^ N : Nat) : Int) := by
    rw [hz, Int.natCast_ediv]; simp
  have hSh := shr_any _ a w hv (by omega) (k - 1) N (by omega) (by omega)
  rw [hTT] at hSh
  have HSh := Lib.hid hSh
  have HV := Lib.hid hv
  have HT := Lib.hid hT
  have HN := Lib.hid (fun w1 (h : Below w.heap.size w w1) => noughts_any _ a w1 (hv.below h) (hT.call h))
  rw [hz] at HN
  have HR := Lib.hid (fun t (h : Halved (z : Int) t) => rnd_val (N := N) (T := z / 2 ^ N) rfl h0 h)
  generalize z / 2 ^ N = T at *
  have b1 : -9223372036854775808 ≤ k - 1 := by omega
  have b2 : k - 1 ≤ 9223372036854775807 := by omega
  have b0 : 0 ≤ k - 1 := by omega
  have hsm : smallB (T : Int) = true := by unfold smallB; simp; omega
  have hl1 := lowb1 (T : Int) (by omega) (by omega)
  have hl2 := lowb1 ((T : Int) / 2) (by omega) (by omega)
  have hkh := Lib.hid hk
  generalize hrr : rndN z (N + 1) = r at *
  clear hSh hv hT hz hTT hk hrr
  go_enter Tryd.func80, Tryd.ntmps80
  go_wp2_with fail
  refine (HSh.out).mono ?_; rintro e w1 ⟨v1, a1, rfl, h1, h2, h3, h4, h5, hb1⟩
  have HU := Lib.hid (uint_any v1 a1 w1 (own_wlist h1 h2 (by omega)))
  rw [h4, hsm] at HU
  clear h1 h2 h3 h4 h5 hsm HSh
  go_wp2_with fail
  refine (HU.out).mono ?_; rintro e w2 ⟨rfl, rfl⟩
  have HN1 := Lib.hid (HN.out w1 hb1)
  have hb1 := Lib.hid hb1
  clear HN HU
  go_wp2_with (first | simp only | simp only [hl2])
  refine (HN1.out).mono ?_; rintro e w2 ⟨t, rfl, ht, rfl⟩
  have hr := HR.out t ht
  clear HN1 ht
  have hc1 : (T % 2 = 1 ∧ (((T : Int) % 2 == 1) = true)) ∨ (T % 2 = 0 ∧ (((T : Int) % 2 == 1) = false)) := by
    by_cases h : T % 2 = 1
    · exact .inl ⟨h, by simp; omega⟩
    · exact .inr ⟨by omega, by simp; omega⟩
  have hc2 : (t < N ∧ (t : Int) < k - 1) ∨ (¬ t < N ∧ ¬ (t : Int) < k - 1) := by have := hkh.out; omega
  have hc3 : (T / 2 % 2 = 1 ∧ (((T : Int) / 2 % 2 == 1) = true)) ∨ (T / 2 % 2 = 0 ∧ (((T : Int) / 2 % 2 == 1) = false)) := by
    by_cases h : T / 2 % 2 = 1
    · exact .inl ⟨h, by simp; omega⟩
    · exact .inr ⟨by omega, by simp; omega⟩
  have hHr := Lib.hid hr
  clear hr HR
  rcases hc1 with ⟨c1, d1⟩ | ⟨c1, d1⟩
  · rcases hc2 with ⟨c2, d2⟩ | ⟨c2, d2⟩
    · have hE : Hid ((T : Int) / 2 + 1 = (r : Int)) := Lib.hid (by have := hHr.out; rw [if_pos ⟨c1, .inl c2⟩] at this; omega)
      clear hc3 c1 c2 hHr
      go_wp2_with (first | simp only | simp only [hl2])
      go_ret
      exact ⟨ret_int hE.out, hb1.out⟩
    · rcases hc3 with ⟨c3, d3⟩ | ⟨c3, d3⟩
      · have hE : Hid ((T : Int) / 2 + 1 = (r : Int)) := Lib.hid (by have := hHr.out; rw [if_pos ⟨c1, .inr c3⟩] at this; omega)
        clear c1 c2 c3 hHr
        go_wp2_with (first | simp only | simp only [hl2])
        go_ret
        exact ⟨ret_int hE.out, hb1.out⟩
      · have hE : Hid ((T : Int) / 2 = (r : Int)) := Lib.hid (by have := hHr.out; rw [if_neg (by omega)] at this; omega)
        clear c1 c2 c3 hHr
        go_wp2_with (first | simp only | simp only [hl2])
        go_ret
        exact ⟨ret_int hE.out, hb1.out⟩
  · have hE : Hid ((T : Int) / 2 = (r : Int)) := Lib.hid (by have := hHr.out; rw [if_neg (by omega)] at this; omega)
    clear c1 hc2 hc3 hHr
    go_wp2_with (first | simp only | simp only [hl2])
    go_ret
    exact ⟨ret_int hE.out, hb1.out⟩
set_option maxRecDepth 100000
open Go.RowKit
set_option linter.unusedVariables false
def rU (L : Nat) (e : Int) : Int := max ((L : Int) + e - 53) (-1074)
def rN (z L : Nat) (e : Int) : Nat := if rU L e ≤ e then z * 2 ^ (e - rU L e).toNat else rndN z (rU L e - e).toNat
/-- The nearest float to z 2^e. -/
def nearW (z : Nat) (e : Int) : Nat := if z = 0 ∨ e + bitsZ z < -1074 then 0 else if 1024 < e + bitsZ z then 9218868437227405312 else Ieee.double.nearest false (rN z (bitsZ z) e) (rU (bitsZ z) e)
theorem bits_lt_nat {z : Nat} (h0 : z ≠ 0) : z < 2 ^ bitsZ z := by
  have := bits_lt (z := (z : Int)) (by omega)
  have e : ((2 ^ bitsZ z : Nat) : Int) = (2 : Int) ^ bitsZ z := by simp
  omega
theorem near_facts {z L : Nat} {e : Int} (hL : z < 2 ^ L) (h1 : -1074 ≤ e + L) (h2 : e + L ≤ 1024) :
    rN z L e ≤ 9007199254740992 ∧ -1074 ≤ rU L e ∧ rU L e ≤ 971 ∧ (rU L e ≤ e → rN z L e = z * 2 ^ (e - rU L e).toNat ∧ z < 9007199254740992) ∧ (e < rU L e → rN z L e = rndN z (rU L e - e).toNat) := by
  have hu : rU L e = max ((L : Int) + e - 53) (-1074) := rfl
  unfold rN
  generalize rU L e = u at *
  have h53 : (2 : Nat) ^ 53 = 9007199254740992 := by decide
  by_cases h : u ≤ e
  · rw [if_pos h]
    have hz : z * 2 ^ (e - u).toNat < 2 ^ 53 := by
      have h3 : z * 2 ^ (e - u).toNat < 2 ^ L * 2 ^ (e - u).toNat := Nat.mul_lt_mul_of_pos_right hL (n_pow_pos _)
      rw [← Nat.pow_add] at h3
      exact Nat.lt_of_lt_of_le h3 (Nat.pow_le_pow_right (by decide) (by omega))
    have hz2 : z < 2 ^ 53 := Nat.lt_of_lt_of_le hL (Nat.pow_le_pow_right (by decide) (by omega))
    exact ⟨by omega, by omega, by omega, fun _ => ⟨rfl, by omega⟩, fun q => by omega⟩
  · rw [if_neg h]
    have hz : z / 2 ^ (u - e).toNat < 2 ^ 53 := by
      rw [Nat.div_lt_iff_lt_mul (n_pow_pos _), ← Nat.pow_add]
      exact Nat.lt_of_lt_of_le hL (Nat.pow_le_pow_right (by decide) (by omega))
    have := rnd_le z _ _ hz
    exact ⟨by omega, by omega, by omega, fun q => absurd q h, fun _ => rfl⟩
/-- What a whole number up to 2^53 times a power of two is, as a float. -/
def IsFl (r : Nat) (k : Int) (R : Nat) : Prop := (r = 0 ∧ R = 0) ∨ (r ≠ 0 ∧ FV false R r k) ∨ (r = 9007199254740992 ∧ k = 971 ∧ R = 9218868437227405312)
theorem isFl_near {r : Nat} {u : Int} (hr : r ≤ 9007199254740992) (h1 : -1074 ≤ u) (h2 : u ≤ 971) : IsFl r u (Ieee.double.nearest false r u) := by
  by_cases h0 : r = 0
  · subst h0; exact .inl ⟨rfl, nearest_zero false u⟩
  · by_cases h53 : r = 9007199254740992
    · subst h53
      have hs : SameD 9007199254740992 u 4503599627370496 (u + 1) := ⟨1, .inr ⟨rfl, rfl⟩⟩
      have hc : Canon 4503599627370496 (u + 1) := ⟨by decide, by omega, .inl (by decide)⟩
      by_cases hu : u = 971
      · subst hu
        refine .inr (.inr ⟨rfl, rfl, ?_⟩)
        rw [nearest_canon false hs hc (by decide)]; decide
      · have hf := (fvc hc (by omega)).same hs
        refine .inr (.inl ⟨by decide, ?_⟩)
        rw [hf.nearest (SameD.refl _ _)]; exact hf
    · obtain ⟨R, hR⟩ := FV.make false (c := r) (q := u) (by omega) h1 h2
      refine .inr (.inl ⟨h0, ?_⟩)
      rw [hR.nearest (SameD.refl _ _)]; exact hR
theorem float_upto {r : Nat} (h0 : r ≠ 0) (hr : r ≤ 9007199254740992) : ∃ c q, Canon c q ∧ q ≤ 1 ∧ c ≠ 0 ∧ SameD r 0 c q ∧ floatOfInt .f64 (r : Int) = rungOf c q := by
  by_cases h53 : r = 9007199254740992
  · subst h53
    have hs : SameD 9007199254740992 0 4503599627370496 1 := ⟨1, .inr ⟨rfl, rfl⟩⟩
    have hc : Canon 4503599627370496 1 := ⟨by decide, by decide, .inl (by decide)⟩
    exact ⟨4503599627370496, 1, hc, by omega, by decide, hs, fv_int ((fvc hc (by omega)).same hs)⟩
  · obtain ⟨d, p, h1, h2, h3, h4⟩ := float_of (n := r) (by omega)
    exact ⟨d, p, h1, by omega, fun e => h0 (h3.zero.2 e), h3, h4⟩
theorem ldexp_int (r : Nat) (k : Int) (R : Nat) (w : World) (hr : r ≤ 9007199254740992) (h1 : -3000 ≤ k) (h2 : k ≤ 3000) (h : IsFl r k R) :
    Calls Tryd.prog 79 #[.float .f64 (floatOfInt .f64 (r : Int)), .int .i64 k] w fun e w' => e = .returned (.float .f64 R) ∧ w = w' := by
  refine Ldexp_of _ R k w (fun w => ?_)
  rcases h with ⟨rfl, rfl⟩ | ⟨h0, hf⟩ | ⟨rfl, rfl, rfl⟩
  · have : floatOfInt .f64 ((0 : Nat) : Int) = 0 := by decide
    rw [this]; exact ldexp_zero k w
  · obtain ⟨c, q, g1, g2, g3, g4, g5⟩ := float_upto h0 hr
    rw [g5]
    have hs : SameD c (q + k) r k := by
      have := (g4.add k).symm
      rw [Int.zero_add] at this; exact this
    exact ldexp_fin c q k R w g1 (by omega) g3 (hf.same hs) (by omega) (by omega)
  · obtain ⟨c, q, g1, g2, g3, g4, g5⟩ := float_upto (r := 9007199254740992) (by decide) (by decide)
    rw [g5]
    have hl := g4.log2 g3
    have e : (9007199254740992 : Nat).log2 = 53 := by decide +kernel
    rw [e] at hl
    exact ldexp_over c q 971 w g1 (by omega) g3 (by omega) (by omega) (by omega)
theorem bits_len {a : List Int} {z : Nat} (hd : Wd a) (hz : wv a = (z : Int)) (la : a.length ≤ 1000) : bitsZ z ≤ 32000 ∧ (z ≠ 0 → 0 < bitsZ z) ∧ (z = 0 → bitsZ z = 0) := by
  refine ⟨?_, fun h => bitsZ_pos (by omega), fun h => by subst h; rfl⟩
  by_cases h : z = 0
  · subst h; decide
  · have := bits_words hd (by omega)
    rw [hz] at this; omega
set_option maxHeartbeats 4000000 in
theorem pnear_any (v : Value) (a : List Int) (z : Nat) (e : Int) (w : World) (hv : WList w v a) (la : a.length ≤ 1000) (hz : wv a = (z : Int)) (e0 : -9223372036854775808 ≤ e) (e1 : e ≤ 9223372036854775807) (hT : Tab w) :
    Calls Tryd.prog 64 #[v, .int .i64 e] w fun r w' => r = .returned (.float .f64 (nearW z e)) ∧ Below w.heap.size w w' := by
  obtain ⟨l1, l2, l3⟩ := bits_len hv.2.1 hz la
  have HB := Lib.hid (fun w1 (h : Below w.heap.size w w1) => bits_any v a w1 (hv.below h))
  rw [hz] at HB
  have HInf := Lib.hid (fun w => finf_any w)
  have HF := Lib.hid (fun (h1 : z ≠ 0) h2 h3 => near_facts (z := z) (L := bitsZ z) (e := e) (bits_lt_nat h1) h2 h3)
  have HU := Lib.hid (uint_any v a w hv)
  rw [hz] at HU
  have HV := Lib.hid hv
  have HT := Lib.hid hT
  have hN : nearW z e = (if z = 0 ∨ e + bitsZ z < -1074 then 0 else if 1024 < e + bitsZ z then 9218868437227405312 else Ieee.double.nearest false (rN z (bitsZ z) e) (rU (bitsZ z) e)) := rfl
  have hu0 : rU (bitsZ z) e = max ((bitsZ z : Int) + e - 53) (-1074) := rfl
  generalize nearW z e = R at *
  have hlt := Lib.hid (fun (h : z ≠ 0) => bits_lt_nat h)
  generalize bitsZ z = L at *
  have Hz := Lib.hid hz
  obtain ⟨p, c, rfl⟩ := hv.shape
  have la := Lib.hid la
  clear hv hT hz
  by_cases h0 : z = 0
  · have hL0 : ((L : Int) == 0) = true := by simp; omega
    have hR := Lib.hid (show R = 0 by rw [hN, if_pos (.inl h0)])
    clear hN HF HU hu0 hlt
    go_enter Tryd.func64, Tryd.ntmps64
    go_wp2_with fail
    refine (HB.out w (Below.refl _ _)).mono ?_; rintro r w1 ⟨rfl, rfl⟩
    go_wp2_with fail
    go_ret
    exact ⟨ret_float hR.out.symm, Below.refl _ _⟩
  · have hL0 : ((L : Int) == 0) = false := by simp; have := l2 h0; omega
    by_cases h1 : e < -1074 - (L : Int)
    · have hR := Lib.hid (show R = 0 by rw [hN, if_pos (.inr (by omega))])
      clear hN HF HU hu0 hlt
      go_enter Tryd.func64, Tryd.ntmps64
      go_wp2_with fail
      refine (HB.out w (Below.refl _ _)).mono ?_; rintro r w1 ⟨rfl, rfl⟩
      go_wp2_with fail
      go_ret
      exact ⟨ret_float hR.out.symm, Below.refl _ _⟩
    · by_cases h2 : 1024 - (L : Int) < e
      · have hR := Lib.hid (show R = 9218868437227405312 by rw [hN, if_neg (by omega), if_pos (by omega)])
        clear hN HF HU hu0 hlt
        go_enter Tryd.func64, Tryd.ntmps64
        go_wp2_with fail
        refine (HB.out w (Below.refl _ _)).mono ?_; rintro r w1 ⟨rfl, rfl⟩
        go_wp2_with fail
        refine (HInf.out w).mono ?_; rintro r w1 ⟨rfl, rfl⟩
        go_wp2_with fail
        go_ret
        exact ⟨ret_float hR.out.symm, Below.refl _ _⟩
      · have hR : R = Ieee.double.nearest false (rN z L e) (rU L e) := by rw [hN, if_neg (by omega), if_neg (by omega)]
        obtain ⟨f1, f2, f3, f4, f5⟩ := HF.out h0 (by omega) (by omega)
        have hfl := Lib.hid (isFl_near f1 f2 f3)
        rw [← hR] at hfl
        clear hN HF hR
        by_cases h3 : rU L e ≤ e
        · obtain ⟨g1, g2⟩ := f4 h3
          have hfl2 : IsFl z e R := by
            have hs : SameD z e (rN z L e) (rU L e) := ⟨(e - rU L e).toNat, .inl ⟨by omega, g1⟩⟩
            rcases hfl.out with ⟨q1, q2⟩ | ⟨q1, q2⟩ | ⟨q1, q2, q3⟩
            · exact absurd (hs.zero.2 q1) h0
            · exact .inr (.inl ⟨h0, q2.same hs⟩)
            · exfalso
              have h4 := hlt.out h0
              have h5 : rN z L e < 9007199254740992 := by
                rw [g1]
                have h6 : z * 2 ^ (e - rU L e).toNat < 2 ^ L * 2 ^ (e - rU L e).toNat := Nat.mul_lt_mul_of_pos_right h4 (n_pow_pos _)
                rw [← Nat.pow_add] at h6
                have h7 : (2 : Nat) ^ 53 = 9007199254740992 := by decide
                rw [← h7]
                exact Nat.lt_of_lt_of_le h6 (Nat.pow_le_pow_right (by decide) (by omega))
              omega
          have HL := Lib.hid (fun w => ldexp_int z e R w (by omega) (by omega) (by omega) hfl2)
          have hsm : smallB (z : Int) = true := by unfold smallB; simp; omega
          rw [hsm] at HU
          have hu := hu0
          generalize rU L e = u at *
          have hu' : max ((L : Int) + e - 53) (-1074) = u := hu.symm
          clear hfl hfl2 g1 f1 f4 f5 hsm hu0 hu hlt
          go_enter Tryd.func64, Tryd.ntmps64
          go_wp2_with fail
          refine (HB.out w (Below.refl _ _)).mono ?_; rintro r w1 ⟨rfl, rfl⟩
          go_wp2_with fail
          refine (HU.out).mono ?_; rintro r w1 ⟨rfl, rfl⟩
          go_wp2_with fail
          refine (HL.out w).mono ?_; rintro r w1 ⟨rfl, rfl⟩
          go_wp2_with fail
          go_ret
          exact ⟨rfl, Below.refl _ _⟩
        · have g1 := f5 (by omega)
          have hN1 : (rU L e - e).toNat = (rU L e - e - 1).toNat + 1 := by omega
          have hs : z / 2 ^ (rU L e - e - 1).toNat < 18446744073709551616 := by
            have h54 : (2 : Nat) ^ 54 < 18446744073709551616 := by decide
            refine Nat.lt_trans ?_ h54
            rw [Nat.div_lt_iff_lt_mul (n_pow_pos _), ← Nat.pow_add]
            exact Nat.lt_of_lt_of_le (hlt.out h0) (Nat.pow_le_pow_right (by decide) (by omega))
          have HS := Lib.hid (rshift_any _ a z (rU L e - e) (rU L e - e - 1).toNat w HV.out la.out Hz.out h0 (by omega) (by omega) hs HT.out)
          rw [← hN1, ← g1] at HS
          have HL := Lib.hid (fun w => ldexp_int (rN z L e) (rU L e) R w f1 (by omega) (by omega) hfl.out)
          have hu := hu0
          generalize rN z L e = r at *
          have b1 : rU L e ≤ e + 40000 := by omega
          generalize rU L e = u at *
          have hu' : max ((L : Int) + e - 53) (-1074) = u := hu.symm
          clear hfl g1 hN1 f1 f4 f5 hs hu0 hu hlt HU
          go_enter Tryd.func64, Tryd.ntmps64
          go_wp2_with fail
          refine (HB.out w (Below.refl _ _)).mono ?_; rintro r w1 ⟨rfl, rfl⟩
          go_wp2_with fail
          refine (HS.out).mono ?_; rintro r w1 ⟨rfl, hb⟩
          go_wp2_with fail
          refine (HL.out w1).mono ?_; rintro r w2 ⟨rfl, rfl⟩
          go_wp2_with fail
          go_ret
          exact ⟨rfl, hb⟩
end Go.Proofs.YtflhicfbojmjbaaDoor
