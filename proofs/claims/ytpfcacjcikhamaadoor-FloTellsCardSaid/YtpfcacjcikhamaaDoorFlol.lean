/- The nearest float to a whole number times a power of two: plain facts, and what the program returns. -/
import Derived.Test.YtpfcacjcikhamaaDoorFlok
import Derived.Test.YtpfcacjcikhamaaDoorNato
import Derived.Test.YtpfcacjcikhamaaDoorNatr
import Derived.Test.YtpfcacjcikhamaaDoorAwake2
namespace Go.Proofs.YtpfcacjcikhamaaDoor
set_option maxRecDepth 100000
open Go.RowKit
set_option linter.unusedVariables false
/-- z / 2^n to the nearest whole number, and between two the even one. -/
def rndN (z n : Nat) : Nat := if 2 ^ n < 2 * (z % 2 ^ n) ∨ (2 ^ n = 2 * (z % 2 ^ n) ∧ z / 2 ^ n % 2 = 1) then z / 2 ^ n + 1 else z / 2 ^ n
theorem rnd_parts (z N T : Nat) (hT : T = z / 2 ^ N) : z / 2 ^ (N + 1) = T / 2 ∧ z % 2 ^ (N + 1) = T % 2 * 2 ^ N + z % 2 ^ N := by
  subst hT
  have e : 2 ^ (N + 1) = 2 ^ N * 2 := Nat.pow_succ ..
  rw [e, ← Nat.div_div_eq_div_mul, Nat.mod_mul]
  refine ⟨rfl, ?_⟩
  rw [Nat.mul_comm, Nat.add_comm]
theorem halved_mod {z t N : Nat} (hz : z ≠ 0) (h : Halved (z : Int) t) : t < N ↔ z % 2 ^ N ≠ 0 := by
  obtain ⟨m, hm⟩ := h.resolve_left (by omega)
  have hm' : z = 2 ^ t * (2 * m + 1) := by
    have e : ((2 : Int) ^ t) = ((2 ^ t : Nat) : Int) := by simp
    rw [e] at hm
    have : ((z : Nat) : Int) = ((2 ^ t * (2 * m + 1) : Nat) : Int) := by rw [hm]; simp
    omega
  constructor
  · intro h1 h2
    obtain ⟨k, rfl⟩ := Nat.exists_eq_add_of_le (Nat.succ_le_of_lt h1)
    have h3 : 2 ^ (t + 1 + k) ∣ z := Nat.dvd_of_mod_eq_zero h2
    obtain ⟨x, hx⟩ := h3
    rw [hm', Nat.pow_add, Nat.pow_add, Nat.mul_assoc, Nat.mul_assoc] at hx
    have h4 := Nat.eq_of_mul_eq_mul_left (n_pow_pos t) hx
    rw [Nat.pow_one] at h4; omega
  · intro h1
    by_cases h2 : t < N
    · exact h2
    · exfalso
      obtain ⟨k, rfl⟩ := Nat.exists_eq_add_of_le (show N ≤ t by omega)
      refine h1 (Nat.mod_eq_zero_of_dvd ⟨2 ^ k * (2 * m + 1), ?_⟩)
      rw [hm', Nat.pow_add, Nat.mul_assoc]
theorem rnd_val {z N T t : Nat} (hT : T = z / 2 ^ N) (hz : z ≠ 0) (h : Halved (z : Int) t) : rndN z (N + 1) = if T % 2 = 1 ∧ (t < N ∨ T / 2 % 2 = 1) then T / 2 + 1 else T / 2 := by
  obtain ⟨h1, h2⟩ := rnd_parts z N T hT
  have h3 := halved_mod (N := N) hz h
  have h4 := Nat.mod_lt z (n_pow_pos N)
  have e : 2 ^ (N + 1) = 2 ^ N * 2 := Nat.pow_succ ..
  unfold rndN
  rw [h1, h2, e]
  have hp := n_pow_pos N
  generalize 2 ^ N = P at *
  generalize z % P = s at *
  have hT2 : T % 2 = 0 ∨ T % 2 = 1 := by omega
  rcases hT2 with k | k
  · have e2 : (if (0 = 1 ∧ (t < N ∨ T / 2 % 2 = 1)) then T / 2 + 1 else T / 2) = T / 2 := if_neg (by omega)
    rw [k, e2, if_neg (by omega)]
  · rw [k]
    by_cases c : t < N ∨ T / 2 % 2 = 1
    · have e2 : (if (1 = 1 ∧ (t < N ∨ T / 2 % 2 = 1)) then T / 2 + 1 else T / 2) = T / 2 + 1 := if_pos ⟨rfl, c⟩
      rw [e2, if_pos]
      rcases c with c | c
      · have := h3.1 c; omega
      · by_cases s0 : s = 0
        · subst s0; omega
        · omega
    · have e2 : (if (1 = 1 ∧ (t < N ∨ T / 2 % 2 = 1)) then T / 2 + 1 else T / 2) = T / 2 := if_neg (by omega)
      rw [e2, if_neg]
      have : ¬ s ≠ 0 := fun q => c (.inl (h3.2 q))
      omega
theorem rnd_le (z n B : Nat) (h : z / 2 ^ n < B) : rndN z n ≤ B := by unfold rndN; split <;> omega
set_option maxHeartbeats 4000000 in
theorem rshift_any (v : Value) (a : List Int) (z : Nat) (k : Int) (N : Nat) (w : World) (hv : WList w v a) (la : a.length ≤ 1000) (hz : wv a = (z : Int)) (h0 : z ≠ 0) (hk : k - 1 = (N : Int)) (hN : N ≤ 100000) (hs : z / 2 ^ N < 18446744073709551616) (hT : Tab w) :
    Calls Tryd.prog 91 #[v, .int .i64 k] w fun e w' => e = .returned (.int .u64 (rndN z (N + 1))) ∧ Below w.heap.size w w' := by
  obtain ⟨p, c, rfl⟩ := hv.shape
  have hTT : (wv a / 2 ^ N : Int) = ((z / 2 ^ N : Nat) : Int) := by
    rw [hz, Int.natCast_ediv]; simp
  have hSh := shr_any _ a w hv (by omega) (k - 1) N (by omega) (by omega)
  rw [hTT] at hSh
  have HSh := Lib.hid hSh
  have HV := Lib.hid hv
  have HT := Lib.hid hT
  have HN := Lib.hid (fun w1 (h : Below w.heap.size w w1) => noughts_any _ a w1 (hv.below h) (hT.call h))
  rw [hz] at HN
  have HR := Lib.hid (fun t (h : Halved (z : Int) t) => rnd_val (N := N) (T := z / 2 ^ N) rfl h0 h)
  generalize z / 2 ^ N = T at *
  have b1 : -9223372036854775808 ≤ k - 1 := by omega
  have b2 : k - 1 ≤ 9223372036854775807 := by omega
  have b0 : 0 ≤ k - 1 := by omega
  have hsm : smallB (T : Int) = true := by unfold smallB; simp; omega
  have hl1 := lowb1 (T : Int) (by omega) (by omega)
  have hl2 := lowb1 ((T : Int) / 2) (by omega) (by omega)
  have hkh := Lib.hid hk
  generalize hrr : rndN z (N + 1) = r at *
  clear hSh hv hT hz hTT hk hrr
  go_enter Tryd.func91, Tryd.ntmps91
  go_wp2_with fail
  refine (HSh.out).mono ?_; rintro e w1 ⟨v1, a1, rfl, h1, h2, h3, h4, h5, hb1⟩
  have HU := Lib.hid (uint_any v1 a1 w1 (own_wlist h1 h2 (by omega)))
  rw [h4, hsm] at HU
  clear h1 h2 h3 h4 h5 hsm HSh
  go_wp2_with fail
  refine (HU.out).mono ?_; rintro e w2 ⟨rfl, rfl⟩
  have HN1 := Lib.hid (HN.out w1 hb1)
  have hb1 := Lib.hid hb1
  clear HN HU
  go_wp2_with (first | simp only | simp only [hl2])
  refine (HN1.out).mono ?_; rintro e w2 ⟨t, rfl, ht, rfl⟩
  have hr := HR.out t ht
  clear HN1 ht
  have hc1 : (T % 2 = 1 ∧ (((T : Int) % 2 == 1) = true)) ∨ (T % 2 = 0 ∧ (((T : Int) % 2 == 1) = false)) := by
    by_cases h : T % 2 = 1
    · exact .inl ⟨h, by simp; omega⟩
    · exact .inr ⟨by omega, by simp; omega⟩
  have hc2 : (t < N ∧ (t : Int) < k - 1) ∨ (¬ t < N ∧ ¬ (t : Int) < k - 1) := by have := hkh.out; omega
  have hc3 : (T / 2 % 2 = 1 ∧ (((T : Int) / 2 % 2 == 1) = true)) ∨ (T / 2 % 2 = 0 ∧ (((T : Int) / 2 % 2 == 1) = false)) := by
    by_cases h : T / 2 % 2 = 1
    · exact .inl ⟨h, by simp; omega⟩
    · exact .inr ⟨by omega, by simp; omega⟩
  have hHr := Lib.hid hr
  clear hr HR
  rcases hc1 with ⟨c1, d1⟩ | ⟨c1, d1⟩
  · rcases hc2 with ⟨c2, d2⟩ | ⟨c2, d2⟩
    · have hE : Hid ((T : Int) / 2 + 1 = (r : Int)) := Lib.hid (by have := hHr.out; rw [if_pos ⟨c1, .inl c2⟩] at this; omega)
      clear hc3 c1 c2 hHr
      go_wp2_with (first | simp only | simp only [hl2])
      go_ret
      exact ⟨ret_int hE.out, hb1.out⟩
    · rcases hc3 with ⟨c3, d3⟩ | ⟨c3, d3⟩
      · have hE : Hid ((T : Int) / 2 + 1 = (r : Int)) := Lib.hid (by have := hHr.out; rw [if_pos ⟨c1, .inr c3⟩] at this; omega)
        clear c1 c2 c3 hHr
        go_wp2_with (first | simp only | simp only [hl2])
        go_ret
        exact ⟨ret_int hE.out, hb1.out⟩
      · have hE : Hid ((T : Int) / 2 = (r : Int)) := Lib.hid (by have := hHr.out; rw [if_neg (by omega)] at this; omega)
        clear c1 c2 c3 hHr
        go_wp2_with (first | simp only | simp only [hl2])
        go_ret
        exact ⟨ret_int hE.out, hb1.out⟩
  · have hE : Hid ((T : Int) / 2 = (r : Int)) := Lib.hid (by have := hHr.out; rw [if_neg (by omega)] at this; omega)
    clear c1 hc2 hc3 hHr
    go_wp2_with (first | simp only | simp only [hl2])
    go_ret
    exact ⟨ret_int hE.out, hb1.out⟩
end Go.Proofs.YtpfcacjcikhamaaDoor
