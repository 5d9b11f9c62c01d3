/- Package ratio: quotients, roots, means and deviations. -/
import Derived.Test.YtboinjkeaffboaaDoorRoob
import Derived.Test.YtboinjkeaffboaaDoorLongf
import Derived.Test.YtboinjkeaffboaaDoorFlon
import Derived.Deep.RegionWith
import Derived.Outline
namespace Go.Proofs.YtboinjkeaffboaaDoor
set_option maxRecDepth 100000
open Go.RowKit
set_option linter.unusedVariables false
theorem bits_nil {z : Int} (h : 0 ≤ z) : bitsZ z = 0 ↔ z = 0 := by
  constructor
  · intro h1
    apply Classical.byContradiction
    intro h2
    have := bitsZ_pos (z := z) (by omega)
    omega
  · intro h1; rw [h1]; rfl
/-- The float of a quotient that isn't worked out, and whether it is one. -/
def extW (a b : Int) : Nat := if b = 0 then (if a = 0 then 9221120237041090561 else 9218868437227405312) else 0
def extB (a b : Int) : Bool := decide (a = 0) || decide (b = 0)
theorem ret_fb {a b : Nat} {c d : Bool} (h : a = b) (k : c = d) : Ending.returned (.tuple #[.float .f64 a, .bool c]) = .returned (.tuple #[.float .f64 b, .bool d]) := by rw [h, k]
set_option maxHeartbeats 1000000 in
theorem extreme_any (u v : Value) (a b : List Int) (w : World) (hu : WList w u a) (hv : WList w v b) (la : bitsZ (wv a) ≤ 3000) (lb : bitsZ (wv b) ≤ 3000) :
    Calls Tryd.prog 67 #[u, v] w fun e w' => e = .returned (.tuple #[.float .f64 (extW (wv a) (wv b)), .bool (extB (wv a) (wv b))]) ∧ w = w' := by
  have HA := Lib.hid (bits_any u a w hu)
  have HB := Lib.hid (bits_any v b w hv)
  have HN := Lib.hid (fun w => fnan_any w)
  have HI := Lib.hid (fun w => finf_any w)
  have ka := bits_nil (wv_range hu.2.1).1
  have kb := bits_nil (wv_range hv.2.1).1
  obtain ⟨p, c, rfl⟩ := hu.shape
  obtain ⟨q, d, rfl⟩ := hv.shape
  clear hu hv
  generalize wv a = x at *
  generalize wv b = y at *
  generalize bitsZ x = A at *
  generalize bitsZ y = B at *
  have a1 : (A : Int) ≤ 3000 := by omega
  have b1 : (B : Int) ≤ 3000 := by omega
  by_cases hx : x = 0
  · have a2 : ((A : Int) == 0) = true := by simp; omega
    by_cases hy : y = 0
    · have b2 : ((B : Int) == 0) = true := by simp; omega
      have hW := Lib.hid (show extW x y = 9221120237041090561 by unfold extW; rw [if_pos hy, if_pos hx])
      have hE := Lib.hid (show extB x y = true by unfold extB; simp [hx])
      generalize extW x y = X at *
      generalize extB x y = Y at *
      clear ka kb hx hy la lb
      go_enter Tryd.func67, Tryd.ntmps67
      go_wp2_with fail
      refine (HA.out).mono ?_; rintro e w1 ⟨rfl, rfl⟩
      go_wp2_with fail
      refine (HB.out).mono ?_; rintro e w1 ⟨rfl, rfl⟩
      go_wp2_with fail
      refine (HN.out _).mono ?_; rintro e w1 ⟨rfl, rfl⟩
      go_wp2_with fail
      go_ret2
      exact ⟨ret_fb hW.out.symm hE.out.symm, rfl⟩
    · have b2 : ((B : Int) == 0) = false := by simp; omega
      have hW := Lib.hid (show extW x y = 0 by unfold extW; rw [if_neg hy])
      have hE := Lib.hid (show extB x y = true by unfold extB; simp [hx])
      generalize extW x y = X at *
      generalize extB x y = Y at *
      clear ka kb hx hy la lb
      go_enter Tryd.func67, Tryd.ntmps67
      go_wp2_with fail
      refine (HA.out).mono ?_; rintro e w1 ⟨rfl, rfl⟩
      go_wp2_with fail
      refine (HB.out).mono ?_; rintro e w1 ⟨rfl, rfl⟩
      go_wp2_with fail
      go_ret2
      exact ⟨ret_fb hW.out.symm hE.out.symm, rfl⟩
  · have a2 : ((A : Int) == 0) = false := by simp; omega
    by_cases hy : y = 0
    · have b2 : ((B : Int) == 0) = true := by simp; omega
      have hW := Lib.hid (show extW x y = 9218868437227405312 by unfold extW; rw [if_pos hy, if_neg hx])
      have hE := Lib.hid (show extB x y = true by unfold extB; simp [hy])
      generalize extW x y = X at *
      generalize extB x y = Y at *
      clear ka kb hx hy la lb
      go_enter Tryd.func67, Tryd.ntmps67
      go_wp2_with fail
      refine (HA.out).mono ?_; rintro e w1 ⟨rfl, rfl⟩
      go_wp2_with fail
      refine (HB.out).mono ?_; rintro e w1 ⟨rfl, rfl⟩
      go_wp2_with fail
      refine (HI.out _).mono ?_; rintro e w1 ⟨rfl, rfl⟩
      go_wp2_with fail
      go_ret2
      exact ⟨ret_fb hW.out.symm hE.out.symm, rfl⟩
    · have b2 : ((B : Int) == 0) = false := by simp; omega
      have hW := Lib.hid (show extW x y = 0 by unfold extW; rw [if_neg hy])
      have hE := Lib.hid (show extB x y = false by unfold extB; simp [hx, hy])
      generalize extW x y = X at *
      generalize extB x y = Y at *
      clear ka kb hx hy la lb
      go_enter Tryd.func67, Tryd.ntmps67
      go_wp2_with fail
      refine (HA.out).mono ?_; rintro e w1 ⟨rfl, rfl⟩
      go_wp2_with fail
      refine (HB.out).mono ?_; rintro e w1 ⟨rfl, rfl⟩
      go_wp2_with fail
      go_ret2
      exact ⟨ret_fb hW.out.symm hE.out.symm, rfl⟩
set_option maxHeartbeats 400000 in
theorem shift_any (u v : Value) (a b : List Int) (n : Int) (w : World) (hu : WList w u a) (hv : WList w v b) (la : bitsZ (wv a) ≤ 3000) (lb : bitsZ (wv b) ≤ 3000) (n0 : 0 ≤ n) (n1 : n ≤ 1000) (s : Nat) (hs : max (n + (bitsZ (wv b) : Int) - (bitsZ (wv a) : Int)) 0 = (s : Int)) :
    Calls Tryd.prog 68 #[u, v, .int .i64 n] w fun e w' => e = .returned (.int .i64 s) ∧ w = w' := by
  have HA := Lib.hid (bits_any u a w hu)
  have HB := Lib.hid (bits_any v b w hv)
  obtain ⟨p, c, rfl⟩ := hu.shape
  obtain ⟨q, d, rfl⟩ := hv.shape
  clear hu hv
  generalize bitsZ (wv a) = A at *
  generalize bitsZ (wv b) = B at *
  have hs := Lib.hid hs
  go_enter Tryd.func68, Tryd.ntmps68
  go_wp2_with fail
  refine (HB.out).mono ?_; rintro e w1 ⟨rfl, rfl⟩
  go_wp2_with fail
  refine (HA.out).mono ?_; rintro e w1 ⟨rfl, rfl⟩
  go_wp2_with fail
  go_ret
  exact ⟨rfl, rfl⟩
theorem isNat_len {w : World} {p : Option Addr} {l c : Nat} {z : Int} (h : IsNat w (.slice p l c) z) : l = 0 ↔ z = 0 := by
  obtain ⟨a, h1, h2, h3⟩ := h
  obtain ⟨p', c', e⟩ := h1.shape
  simp only [Value.slice.injEq] at e
  have el : l = a.length := e.2.1
  constructor
  · intro h0
    have : a = [] := List.length_eq_zero_iff.1 (by omega)
    subst this; rw [← h3]; rfl
  · intro h0
    apply Classical.byContradiction
    intro hh
    have hne : a ≠ [] := fun e => hh (by rw [el, e]; rfl)
    have h4 := h2.wsize h1.2.1 hne
    have := q_pos (a.length - 1)
    omega
theorem isNat_shape {w : World} {v : Value} {z : Int} (h : IsNat w v z) : ∃ p l c, v = .slice p l c := by
  obtain ⟨a, h1, _⟩ := h
  obtain ⟨p, c, e⟩ := h1.shape
  exact ⟨p, _, c, e⟩
def DivideP (w : World) (z : Int) (ex : Bool) (e : Ending) (w' : World) : Prop := ∃ q, e = .returned (.tuple #[q, .bool ex]) ∧ IsNat w' q z ∧ Below w.heap.size w w'
theorem ret_vb {a : Value} {c d : Bool} (k : c = d) : Ending.returned (.tuple #[a, .bool c]) = .returned (.tuple #[a, .bool d]) := by rw [k]
set_option maxHeartbeats 1000000 in
theorem divide_any (u v : Value) (a b : List Int) (w : World) (hu : WList w u a) (hv : WList w v b) (la : a.length ≤ 1000) (n : Nat) (hn : n ≤ 8192) (h0 : 0 < wv b) :
    Calls Tryd.prog 69 #[u, v, .int .i64 n] w (DivideP w (wv a * 2 ^ n / wv b) (decide (wv a * 2 ^ n % wv b = 0))) := by
  have HS := Lib.hid (shl_any u a w hu (by omega) n hn)
  have HD := Lib.hid (fun (w1 : World) (h : Below w.heap.size w w1) y (c : List Int) (hc : WList w1 y c) (lc : c.length ≤ 900000) => div_any y v c b w1 hc (hv.below h) lc h0)
  obtain ⟨q, d, rfl⟩ := hv.shape
  clear hu hv h0
  generalize wv b = B at *
  generalize wv a * 2 ^ n = A at *
  generalize hX : decide (A % B = 0) = X
  have hX := Lib.hid hX
  unfold DivideP
  go_enter Tryd.func69, Tryd.ntmps69
  go_wp2_with fail
  refine (HS.out).mono ?_; rintro e w1 ⟨y, rfl, y', c, e', g1, g2, g3, g4, g5, g6⟩
  simp only [Ending.returned.injEq] at e'
  subst e'
  have hy := own_wlist g1 g2 (by omega)
  have HD2 := Lib.hid (HD.out w1 g6 y c hy (by omega))
  rw [g4] at HD2
  have HE := Lib.hid g6
  obtain ⟨p, d2, rfl⟩ := hy.shape
  clear g1 g2 g3 g4 g5 g6 hy HD HS
  go_wp2_with fail
  refine (HD2.out).mono ?_; rintro e w2 ⟨q1, q2, rfl, h1, h2, h3⟩
  obtain ⟨p1, l1, c1, rfl⟩ := isNat_shape h1
  obtain ⟨p2, l2, c2, rfl⟩ := isNat_shape h2
  have hl := Lib.hid (isNat_len h2)
  have H1 := Lib.hid h1
  have HE := Lib.hid (HE.out.trans (h3.mono HE.out.size))
  clear h1 h2 h3 HD2
  go_wp2_with fail
  go_ret2
  refine ⟨_, ret_vb ?_, H1.out, HE.out⟩
  rw [← hX.out, Bool.eq_iff_iff]
  have := hl.out
  simp
  omega
theorem sign_pos (x : Nat) : signN false x = x := by unfold signN; exact if_neg (by decide)
def halfB (x : Bool) : Nat := if x then 0 else 1
set_option maxHeartbeats 1000000 in
theorem pn_any (u : Value) (a : List Int) (z : Nat) (x : Bool) (e : Int) (w : World) (hu : WList w u a) (la : a.length ≤ 900) (hz : wv a = (z : Int)) (e0 : -100000 ≤ e) (e1 : e ≤ 100000) (hT : Tab w) :
    Calls Tryd.prog 70 #[u, .bool x, .int .i64 e] w fun r w' => r = .returned (.float .f64 (nearW (2 * z + halfB x) (e - 1))) ∧ Below w.heap.size w w' := by
  have HA := Lib.hid (add_any u u a a w hu hu (by omega) (by omega))
  have HO := Lib.hid (fun w => of_any' 1 (by decide) (by decide) w)
  have HT := Lib.hid hT
  have H2 := Lib.hid (fun (w1 : World) y1 y2 (c1 c2 : List Int) (h1 : WList w1 y1 c1) (h2 : WList w1 y2 c2) k1 k2 => add_any y1 y2 c1 c2 w1 h1 h2 k1 k2)
  have HJ := Lib.hid (fun (w1 : World) y (c : List Int) (Z : Nat) (hb : Below w.heap.size w w1) (h : WList w1 y c) (lc : c.length ≤ 1000) (hc : wv c = (Z : Int)) => join_any false y c Z (e - 1) w1 h lc hc (by omega) (by omega) (hT.call hb))
  simp only [sign_pos] at HJ
  obtain ⟨p, c, rfl⟩ := hu.shape
  rw [hz] at HA
  have la := Lib.hid la
  clear hu hT hz
  cases x
  · have hx : halfB false = 1 := rfl
    rw [hx]
    obtain ⟨R, hR⟩ : ∃ R, nearW (2 * z + 1) (e - 1) = R := ⟨_, rfl⟩
    rw [hR]
    have HR := Lib.hid hR
    clear hR
    go_enter Tryd.func70, Tryd.ntmps70
    go_wp2_with fail
    refine (HA.out).mono ?_; rintro r w1 ⟨y, c1, rfl, g1, g2, g3, g4, g5, g6⟩
    have hy := own_wlist g1 g2 (by have := la.out; omega)
    have lc : c1.length ≤ 901 := by have := la.out; omega
    have HY := Lib.hid (And.intro hy (And.intro g4 lc))
    have HE := Lib.hid g6
    obtain ⟨p1, d1, rfl⟩ := hy.shape
    clear g1 g2 g3 g4 g5 g6 hy HA lc
    go_wp2_with fail
    refine (HO.out _).mono ?_; rintro r w2 ⟨y2, c2, rfl, g1, g2, g3, g4, g5, g6⟩
    have hy2 := own_wlist g1 g2 (by omega)
    have HY2 := Lib.hid (And.intro hy2 (And.intro g4 g5))
    have HY1 := Lib.hid (HY.out.1.below g6)
    have HE2 := Lib.hid (HE.out.trans (g6.mono HE.out.size))
    obtain ⟨p2, d2, rfl⟩ := hy2.shape
    clear g1 g2 g3 g4 g5 g6 hy2 HO HE
    have HA2 := Lib.hid (H2.out w2 _ _ c1 c2 HY1.out HY2.out.1 (by have := HY.out.2.2; omega) (by have := HY2.out.2.2; omega))
    rw [HY.out.2.1, HY2.out.2.1] at HA2
    clear H2
    go_wp2_with fail
    refine (HA2.out).mono ?_; rintro r w3 ⟨y3, c3, rfl, g1, g2, g3, g4, g5, g6⟩
    have lc3 : c3.length ≤ 1000 := by have h1 := HY.out.2.2; have h2 := HY2.out.2.2; omega
    have hy3 := own_wlist g1 g2 (by omega)
    have HE3 := Lib.hid (HE2.out.trans (g6.mono HE2.out.size))
    have HJ2 := Lib.hid (HJ.out w3 y3 c3 (2 * z + 1) HE3.out hy3 lc3 (by rw [g4]; omega))
    obtain ⟨p3, d3, rfl⟩ := hy3.shape
    clear g1 g2 g3 g4 g5 g6 hy3 HJ HE2 HY1 HA2 lc3
    go_wp2_with fail
    refine (HJ2.out).mono ?_; rintro r w4 ⟨rfl, hb⟩
    go_wp2_with fail
    go_ret
    exact ⟨ret_float HR.out, HE3.out.trans (hb.mono HE3.out.size)⟩
  · have hx : halfB true = 0 := rfl
    rw [hx]
    obtain ⟨R, hR⟩ : ∃ R, nearW (2 * z + 0) (e - 1) = R := ⟨_, rfl⟩
    rw [hR]
    have HR := Lib.hid hR
    clear hR
    go_enter Tryd.func70, Tryd.ntmps70
    go_wp2_with fail
    refine (HA.out).mono ?_; rintro r w1 ⟨y, c1, rfl, g1, g2, g3, g4, g5, g6⟩
    have hy := own_wlist g1 g2 (by have := la.out; omega)
    have lc : c1.length ≤ 1000 := by have := la.out; omega
    have HE := Lib.hid g6
    have HJ2 := Lib.hid (HJ.out w1 y c1 (2 * z + 0) HE.out hy lc (by rw [g4]; omega))
    obtain ⟨p1, d1, rfl⟩ := hy.shape
    clear g1 g2 g3 g4 g5 g6 hy HA lc HJ
    go_wp2_with fail
    refine (HJ2.out).mono ?_; rintro r w4 ⟨rfl, hb⟩
    go_wp2_with fail
    go_ret
    exact ⟨ret_float HR.out, HE.out.trans (hb.mono HE.out.size)⟩
set_option maxRecDepth 100000
open Go.RowKit
set_option linter.unusedVariables false
theorem nat_list {w : World} {v : Value} {z : Int} (h : IsNat w v z) {n : Nat} (hz : z < 4294967296 ^ n) : ∃ a, WList w v a ∧ a.length ≤ n ∧ wv a = z := by
  obtain ⟨a, h1, h2, rfl⟩ := h
  exact ⟨a, h1, h2.wlen h1.2.1 hz, rfl⟩
theorem words_two (n : Nat) : (4294967296 : Int) ^ n = 2 ^ (32 * n) := by
  rw [show (4294967296 : Int) = 2 ^ 32 by decide, ← Int.pow_mul]
theorem nat_list2 {w : World} {v : Value} {z : Nat} (h : IsNat w v (z : Int)) {n : Nat} (hz : z < 2 ^ (32 * n)) : ∃ a, WList w v a ∧ a.length ≤ n ∧ wv a = (z : Int) := by
  refine nat_list h ?_
  rw [words_two]
  have : ((2 ^ (32 * n) : Nat) : Int) = (2 : Int) ^ (32 * n) := by simp
  omega
theorem bits_low {z : Nat} (h0 : z ≠ 0) : 2 ^ (bitsZ (z : Int) - 1) ≤ z := by
  have h1 := lt_two_iff h0 (bitsZ (z : Int) - 1)
  have h2 := bitsZ_pos (z := (z : Int)) (by omega)
  apply Classical.byContradiction
  intro hh
  have := h1.1 (by omega)
  omega
/-- The quotient is long enough. -/
theorem quo_long {p q s n : Nat} (hp : p ≠ 0) (hq : q ≠ 0) (hs : (n : Int) + 1 + bitsZ (q : Int) - bitsZ (p : Int) ≤ s) : 2 ^ n ≤ p * 2 ^ s / q := by
  rw [Nat.le_div_iff_mul_le (by omega)]
  have h1 := bits_low hp
  have h2 := Nat.le_of_lt (bits_lt_nat hq)
  have h3 := bitsZ_pos (z := (p : Int)) (by omega)
  have h4 : 2 ^ n * q ≤ 2 ^ n * 2 ^ bitsZ (q : Int) := Nat.mul_le_mul_left _ h2
  have h5 : 2 ^ (bitsZ (p : Int) - 1) * 2 ^ s ≤ p * 2 ^ s := Nat.mul_le_mul_right _ h1
  rw [← Nat.pow_add] at h4 h5
  have h6 : 2 ^ (n + bitsZ (q : Int)) ≤ 2 ^ (bitsZ (p : Int) - 1 + s) := Nat.pow_le_pow_right (by decide) (by omega)
  omega
theorem lt_bits {p N : Nat} (hb : bitsZ (p : Int) ≤ N) : p < 2 ^ N := by
  by_cases h0 : p = 0
  · rw [h0]; exact n_pow_pos _
  · exact (lt_two_iff h0 N).2 hb
theorem div_short {p q s N K : Nat} (hb : bitsZ (p : Int) ≤ N) (hs : N + s ≤ K) : p * 2 ^ s / q < 2 ^ K := by
  have h1 := lt_bits hb
  have h2 : p * 2 ^ s < 2 ^ N * 2 ^ s := Nat.mul_lt_mul_of_pos_right h1 (n_pow_pos s)
  rw [← Nat.pow_add] at h2
  have h3 : 2 ^ (N + s) ≤ 2 ^ K := Nat.pow_le_pow_right (by decide) hs
  have h4 := Nat.div_le_self (p * 2 ^ s) q
  omega
def quoN (p q : Nat) : Nat := if p = 0 ∨ q = 0 then extW (p : Int) (q : Int) else nearQ p q 0
theorem ext_le (a b : Int) : extW a b ≤ 9221120237041090561 := by unfold extW; split <;> (try split) <;> omega
theorem div_cast (p q s : Nat) : (p : Int) * 2 ^ s / (q : Int) = ((p * 2 ^ s / q : Nat) : Int) ∧ (p : Int) * 2 ^ s % (q : Int) = ((p * 2 ^ s % q : Nat) : Int) := by
  have e : (p : Int) * 2 ^ s = ((p * 2 ^ s : Nat) : Int) := by simp
  rw [e, Int.natCast_ediv, Int.natCast_emod]; exact ⟨rfl, rfl⟩
theorem half_left (A B : Nat) : halfB (decide (((A % B : Nat) : Int) = 0)) = leftB A B := by
  unfold halfB leftB
  by_cases h : A % B = 0
  · rw [if_pos (by simp [h]), if_pos h]
  · rw [if_neg (by simp; omega), if_neg h]
theorem nearQ_le {p q : Nat} (hp : p ≠ 0) (hq : q ≠ 0) : nearQ p q 0 ≤ 9218868437227405312 := by
  obtain ⟨s, hs⟩ : ∃ s : Nat, (53 : Nat) + 1 + (bitsZ (q : Int) : Int) - bitsZ (p : Int) ≤ s := ⟨54 + bitsZ (q : Int), by omega⟩
  rw [← near_quo (s := (s : Int)) (.inl ⟨by omega, by rw [Int.toNat_natCast], rfl⟩) (by omega) (quo_long hp hq hs)]
  exact nearW_le _ _
theorem quoN_le (p q : Nat) : quoN p q ≤ 9221120237041090561 := by
  unfold quoN
  by_cases h : p = 0 ∨ q = 0
  · rw [if_pos h]; exact ext_le _ _
  · rw [if_neg h]; have := nearQ_le (p := p) (q := q) (fun e => h (.inl e)) (fun e => h (.inr e)); omega
set_option maxHeartbeats 4000000 in
theorem pquot_any (neg : Bool) (u v : Value) (a b : List Int) (p q : Nat) (w : World) (hu : WList w u a) (hv : WList w v b) (la : a.length ≤ 1000) (hp : wv a = (p : Int)) (hq : wv b = (q : Int)) (lp : bitsZ (p : Int) ≤ 3000) (lq : bitsZ (q : Int) ≤ 3000) (hT : Tab w) :
    Calls Tryd.prog 42 #[.bool neg, u, v] w fun r w' => r = .returned (.float .f64 (signN neg (quoN p q))) ∧ Below w.heap.size w w' := by
  have HE := Lib.hid (extreme_any u v a b w hu hv (by rw [hp]; exact lp) (by rw [hq]; exact lq))
  rw [hp, hq] at HE
  have hle := quoN_le p q
  have HC := Lib.hid (fun w => copysign_pos (quoN p q) w (by omega))
  have hf : flipN (quoN p q) = quoN p q + 9223372036854775808 := by unfold flipN; rw [if_pos (by omega)]
  have HF := Lib.hid hf
  by_cases hx : p = 0 ∨ q = 0
  · have hE : extB (p : Int) (q : Int) = true := by unfold extB; rcases hx with rfl | rfl <;> simp
    have hR : quoN p q = extW (p : Int) (q : Int) := by unfold quoN; rw [if_pos hx]
    rw [hE, ← hR] at HE
    generalize quoN p q = R at *
    obtain ⟨c1, d1, rfl⟩ := hu.shape
    obtain ⟨c2, d2, rfl⟩ := hv.shape
    clear hu hv la hp hq lp lq hT hle hf hx hE hR
    unfold signN
    cases neg
    · go_enter Tryd.func42, Tryd.ntmps42
      go_wp2_with fail
      refine (HE.out).mono ?_; rintro r w1 ⟨rfl, rfl⟩
      go_wp2_with fail
      go_ret
      exact ⟨rfl, Below.refl _ _⟩
    · generalize flipN R = R2 at *
      go_enter Tryd.func42, Tryd.ntmps42
      go_wp2_with fail
      refine (HE.out).mono ?_; rintro r w1 ⟨rfl, rfl⟩
      go_wp2_with fail
      refine (HC.out _).mono ?_; rintro r w1 ⟨rfl, rfl⟩
      go_wp2_with fail
      go_ret
      exact ⟨ret_float HF.out.symm, Below.refl _ _⟩
  · have hp0 : p ≠ 0 := fun e => hx (.inl e)
    have hq0 : q ≠ 0 := fun e => hx (.inr e)
    have hE : extB (p : Int) (q : Int) = false := by unfold extB; simp; omega
    rw [hE] at HE
    obtain ⟨s, hs⟩ : ∃ s : Nat, max (54 + (bitsZ (wv b) : Int) - (bitsZ (wv a) : Int)) 0 = (s : Int) := ⟨(max (54 + (bitsZ (wv b) : Int) - (bitsZ (wv a) : Int)) 0).toNat, by omega⟩
    have HS := Lib.hid (shift_any u v a b 54 w hu hv (by rw [hp]; exact lp) (by rw [hq]; exact lq) (by decide) (by decide) s hs)
    rw [hp, hq] at hs
    have ls : s ≤ 3054 := by omega
    have HD := Lib.hid (divide_any u v a b w hu hv (by omega) s (by omega) (by rw [hq]; omega))
    rw [hp, hq, (div_cast p q s).1, (div_cast p q s).2] at HD
    have hlong := quo_long (n := 53) hp0 hq0 (s := s) (by omega)
    have hnear := near_quo (p := p) (q := q) (s := (s : Int)) (.inl ⟨by omega, by rw [Int.toNat_natCast], rfl⟩) (by omega) hlong
    have hR : quoN p q = nearQ p q 0 := by unfold quoN; rw [if_neg hx]
    rw [← half_left, ← hR] at hnear
    have hsh := div_short (p := p) (q := q) (s := s) (K := 32 * 200) lp (by omega)
    have HN := Lib.hid (fun (w1 : World) y (hb : Below w.heap.size w w1) (hy : IsNat w1 y ((p * 2 ^ s / q : Nat) : Int)) => nat_list2 hy hsh)
    have HP := Lib.hid (fun (w1 : World) y (c : List Int) x (hb : Below w.heap.size w w1) (hy : WList w1 y c) (lc : c.length ≤ 900) (hc : wv c = ((p * 2 ^ s / q : Nat) : Int)) => pn_any y c (p * 2 ^ s / q) x (-(s : Int)) w1 hy lc hc (by omega) (by omega) (hT.call hb))
    have HR := Lib.hid hnear
    generalize p * 2 ^ s / q = N at *
    generalize hX : decide (((p * 2 ^ s % q : Nat) : Int) = 0) = X at *
    generalize quoN p q = R at *
    obtain ⟨c1, d1, rfl⟩ := hu.shape
    obtain ⟨c2, d2, rfl⟩ := hv.shape
    have b1 : (s : Int) ≤ 3054 := by omega
    clear hu hv la hp hq lp lq hT hle hf hx hE hR hs hlong hnear hsh hX
    unfold signN
    cases neg
    · go_enter Tryd.func42, Tryd.ntmps42
      go_wp2_with fail
      refine (HE.out).mono ?_; rintro r w1 ⟨rfl, rfl⟩
      go_wp2_with fail
      refine (HS.out).mono ?_; rintro r w1 ⟨rfl, rfl⟩
      go_wp2_with fail
      refine (HD.out).mono ?_; rintro r w1 ⟨y, rfl, hy, hb⟩
      obtain ⟨c, hc, lc, ec⟩ := HN.out w1 y hb hy
      have HP2 := Lib.hid (HP.out w1 y c X hb hc (by omega) ec)
      rw [HR.out] at HP2
      have HB := Lib.hid hb
      obtain ⟨c3, d3, l3, rfl⟩ := isNat_shape hy
      clear hc lc ec hb hy HN HP HD HS HE
      go_wp2_with fail
      refine (HP2.out).mono ?_; rintro r w2 ⟨rfl, hb2⟩
      go_wp2_with fail
      go_ret
      exact ⟨rfl, HB.out.trans (hb2.mono HB.out.size)⟩
    · generalize flipN R = R2 at *
      go_enter Tryd.func42, Tryd.ntmps42
      go_wp2_with fail
      refine (HE.out).mono ?_; rintro r w1 ⟨rfl, rfl⟩
      go_wp2_with fail
      refine (HS.out).mono ?_; rintro r w1 ⟨rfl, rfl⟩
      go_wp2_with fail
      refine (HD.out).mono ?_; rintro r w1 ⟨y, rfl, hy, hb⟩
      obtain ⟨c, hc, lc, ec⟩ := HN.out w1 y hb hy
      have HP2 := Lib.hid (HP.out w1 y c X hb hc (by omega) ec)
      rw [HR.out] at HP2
      have HB := Lib.hid hb
      obtain ⟨c3, d3, l3, rfl⟩ := isNat_shape hy
      clear hc lc ec hb hy HN HP HD HS HE
      go_wp2_with fail
      refine (HP2.out).mono ?_; rintro r w2 ⟨rfl, hb2⟩
      go_wp2_with fail
      refine (HC.out w2).mono ?_; rintro r w3 ⟨rfl, rfl⟩
      go_wp2_with fail
      go_ret
      exact ⟨ret_float HF.out.symm, HB.out.trans (hb2.mono HB.out.size)⟩
end Go.Proofs.YtboinjkeaffboaaDoor
