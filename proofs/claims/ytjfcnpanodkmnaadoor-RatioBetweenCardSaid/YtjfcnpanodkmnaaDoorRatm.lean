/- Package ratio: means and deviations. -/
import Derived.Test.YtjfcnpanodkmnaaDoorRatq
import Derived.Test.YtjfcnpanodkmnaaDoorNatr
import Derived.Test.YtjfcnpanodkmnaaDoorRefs
namespace Go.Proofs.YtjfcnpanodkmnaaDoor
set_option maxRecDepth 100000
open Go.RowKit
set_option linter.unusedVariables false
theorem isRoo_of {p q h N r x : Nat} (hq : 0 < q) (hN : N = p * 2 ^ (2 * h) / q) (h1 : r * r ≤ N) (h2 : N < (r + 1) * (r + 1)) (hx : x = if p * 2 ^ (2 * h) % q = 0 ∧ r * r = N then 0 else 1) : IsRoo p q h r x := by
  unfold IsRoo
  have hdm := Nat.div_add_mod (p * 2 ^ (2 * h)) q
  have hlt := Nat.mod_lt (p * 2 ^ (2 * h)) hq
  rw [← hN] at hdm
  generalize p * 2 ^ (2 * h) = A at *
  generalize A % q = t at *
  have k1 : r * r * q ≤ q * N := by rw [Nat.mul_comm]; exact Nat.mul_le_mul_left q h1
  have k2 : q * (N + 1) ≤ (r + 1) * (r + 1) * q := by rw [Nat.mul_comm]; exact Nat.mul_le_mul_right q h2
  rw [Nat.mul_add] at k2
  refine ⟨by omega, by omega, ?_⟩
  by_cases hc : t = 0 ∧ r * r = N
  · rw [if_pos hc] at hx
    refine .inl ⟨hx, ?_⟩
    rw [hc.2, Nat.mul_comm]; omega
  · rw [if_neg hc] at hx
    refine .inr ⟨hx, ?_⟩
    by_cases ht : t = 0
    · have h3 : r * r < N := by
        have : r * r ≠ N := fun e => hc ⟨ht, e⟩
        omega
      have h4 : r * r * q < N * q := Nat.mul_lt_mul_of_pos_right h3 hq
      rw [Nat.mul_comm N q] at h4
      omega
    · omega
theorem isRoot_nat {N : Nat} {s : Int} (h : IsRoot (N : Int) s) : ∃ r : Nat, s = r ∧ r * r ≤ N ∧ N < (r + 1) * (r + 1) := by
  obtain ⟨h0, h1, h2⟩ := h
  obtain ⟨r, rfl⟩ := Int.eq_ofNat_of_zero_le h0
  refine ⟨r, rfl, by rw [← Int.natCast_mul] at h1; omega, ?_⟩
  have e : ((r : Int) + 1) * (r + 1) = (((r + 1) * (r + 1) : Nat) : Int) := by simp
  rw [e] at h2; omega
theorem root_long {N r : Nat} (hN : 2 ^ 106 ≤ N) (h : N < (r + 1) * (r + 1)) : 2 ^ 53 ≤ r := by
  apply Classical.byContradiction
  intro hh
  have h1 : r + 1 ≤ 2 ^ 53 := by omega
  have h2 := Nat.mul_le_mul h1 h1
  rw [← Nat.pow_add] at h2
  omega
theorem root_short {p q h r x K N : Nat} (g : IsRoo p q h r x) (hq : 0 < q) (lp : bitsZ (p : Int) ≤ N) (hK : N ≤ 2 * K) : r < 2 ^ (K + h) := by
  have hp : p < 2 ^ (2 * K) := lt_bits (Nat.le_trans lp hK)
  apply Classical.byContradiction
  intro hh
  have h1 : 2 ^ (K + h) ≤ r := by omega
  have h2 := Nat.mul_le_mul h1 h1
  rw [← Nat.pow_add] at h2
  have h3 : r * r * 1 ≤ r * r * q := Nat.mul_le_mul_left _ hq
  have h4 : p * 2 ^ (2 * h) < 2 ^ (2 * K) * 2 ^ (2 * h) := Nat.mul_lt_mul_of_pos_right hp (n_pow_pos _)
  rw [← Nat.pow_add, show 2 * K + 2 * h = K + h + (K + h) by omega] at h4
  have := g.1
  omega
/-- What Root answers where it works the root out. -/
def RootAns (p q R : Nat) : Prop := ∃ h r x, IsRoo p q h r x ∧ 2 ^ 53 ≤ r ∧ (bitsZ (r : Int) : Int) - h - 53 ≤ 1600 ∧ R = nearW (2 * r + x) (-(h : Int) - 1)
def RootRes (p q R : Nat) : Prop := ((p = 0 ∨ q = 0) ∧ R = extW (p : Int) (q : Int)) ∨ (p ≠ 0 ∧ q ≠ 0 ∧ RootAns p q R)
def RootPost4 (p q : Nat) (w : World) (r : Ending) (w' : World) : Prop := (∃ R, RootRes p q R ∧ r = .returned (.float .f64 R)) ∧ Below w.heap.size w w'
theorem half_root (t N r : Nat) : halfB (decide ((t : Int) = 0) && (cmpI ((r : Int) * r) (N : Int) == 0)) = if t = 0 ∧ r * r = N then 0 else 1 := by
  rw [← Int.natCast_mul, cmp_eq_zero]
  unfold halfB
  by_cases h1 : t = 0 <;> by_cases h2 : r * r = N <;> simp [h1, h2]
set_option maxHeartbeats 4000000 in
theorem proot_any (u v : Value) (a b : List Int) (p q : Nat) (w : World) (hu : WList w u a) (hv : WList w v b) (la : a.length ≤ 1000) (hp : wv a = (p : Int)) (hq : wv b = (q : Int)) (lp : bitsZ (p : Int) ≤ 3000) (lq : bitsZ (q : Int) ≤ 3000) (hT : Tab w) :
    Calls Tryd.prog 8 #[u, v] w (RootPost4 p q w) := by
  have HE := Lib.hid (extreme_any u v a b w hu hv (by rw [hp]; exact lp) (by rw [hq]; exact lq))
  rw [hp, hq] at HE
  by_cases hx : p = 0 ∨ q = 0
  · have hE : extB (p : Int) (q : Int) = true := by unfold extB; rcases hx with rfl | rfl <;> simp
    have hR : RootRes p q (extW (p : Int) (q : Int)) := .inl ⟨hx, rfl⟩
    rw [hE] at HE
    generalize extW (p : Int) (q : Int) = R at *
    have HR := Lib.hid hR
    obtain ⟨c1, d1, rfl⟩ := hu.shape
    obtain ⟨c2, d2, rfl⟩ := hv.shape
    clear hu hv la hp hq lp lq hT hx hE hR
    go_enter Tryd.func8, Tryd.ntmps8
    go_wp2_with fail
    refine (HE.out).mono ?_; rintro r w1 ⟨rfl, rfl⟩
    go_wp2_with fail
    go_ret
    exact ⟨⟨R, HR.out, rfl⟩, Below.refl _ _⟩
  · have hp0 : p ≠ 0 := fun e => hx (.inl e)
    have hq0 : q ≠ 0 := fun e => hx (.inr e)
    have hE : extB (p : Int) (q : Int) = false := by unfold extB; simp; omega
    rw [hE] at HE
    have HQ0 := Lib.hid (And.intro hp0 hq0)
    obtain ⟨s, hs⟩ : ∃ s : Nat, max (108 + (bitsZ (wv b) : Int) - (bitsZ (wv a) : Int)) 0 = (s : Int) := ⟨(max (108 + (bitsZ (wv b) : Int) - (bitsZ (wv a) : Int)) 0).toNat, by omega⟩
    have HS := Lib.hid (shift_any u v a b 108 w hu hv (by rw [hp]; exact lp) (by rw [hq]; exact lq) (by decide) (by decide) s hs)
    rw [hp, hq] at hs
    obtain ⟨h, hh⟩ : ∃ h : Nat, s + s % 2 = 2 * h := ⟨(s + s % 2) / 2, by omega⟩
    have lh : h ≤ 1600 := by omega
    have HD := Lib.hid (divide_any u v a b w hu hv (by omega) (2 * h) (by omega) (by rw [hq]; omega))
    rw [hp, hq, (div_cast p q (2 * h)).1, (div_cast p q (2 * h)).2] at HD
    have hlong := quo_long (n := 106) hp0 hq0 (s := 2 * h) (by omega)
    have hsh := div_short (p := p) (q := q) (s := 2 * h) (K := 32 * 200) lp (by omega)
    have hRoo : ∀ r : Nat, r * r ≤ p * 2 ^ (2 * h) / q → p * 2 ^ (2 * h) / q < (r + 1) * (r + 1) → IsRoo p q h r (halfB (decide (((p * 2 ^ (2 * h) % q : Nat) : Int) = 0) && (cmpI ((r : Int) * r) ((p * 2 ^ (2 * h) / q : Nat) : Int) == 0))) := fun r k1 k2 => isRoo_of (by omega) rfl k1 k2 (half_root _ _ _)
    have HA := Lib.hid (fun (r : Nat) k1 k2 => (⟨h, r, _, hRoo r k1 k2, root_long hlong k2, (by
      have k3 := root_short (K := 1500) (hRoo r k1 k2) (by omega) lp (by decide)
      have k4 : r ≠ 0 := fun e => by subst e; have := root_long hlong k2; have := n_pow_pos 53; omega
      have := bits_upto k4 k3
      omega), rfl⟩ : RootAns p q (nearW (2 * r + halfB (decide (((p * 2 ^ (2 * h) % q : Nat) : Int) = 0) && (cmpI ((r : Int) * r) ((p * 2 ^ (2 * h) / q : Nat) : Int) == 0))) (-(h : Int) - 1))))
    have HN := Lib.hid (fun (w1 : World) y (hy : IsNat w1 y ((p * 2 ^ (2 * h) / q : Nat) : Int)) => nat_list2 hy hsh)
    have HRt := Lib.hid (fun (w1 : World) y (c : List Int) (hy : WList w1 y c) (lc : c.length ≤ 200) => root_any y c w1 hy (by omega) (fun w1 v b h1 h2 h3 _ => div_any _ v c b w1 h1 h2 (by omega) h3))
    have HP := Lib.hid (fun (w1 : World) y (c : List Int) (r : Nat) x (hb : Below w.heap.size w w1) (hy : WList w1 y c) (lc : c.length ≤ 900) (hc : wv c = (r : Int)) => pn_any y c r x (-(h : Int)) w1 hy lc hc (by omega) (by omega) (hT.call hb))
    have HN2 := Lib.hid (fun (w1 : World) y (r : Nat) (hy : IsNat w1 y (r : Int)) (k1 : r * r ≤ p * 2 ^ (2 * h) / q) => nat_list2 hy (Nat.lt_of_le_of_lt (Nat.le_trans (Nat.le_mul_self r) k1) hsh))
    have HM := Lib.hid (fun (w1 : World) y1 y2 (c1 c2 : List Int) (h1 : WList w1 y1 c1) (h2 : WList w1 y2 c2) k1 k2 => mulw_any y1 y2 c1 c2 w1 h1 h2 k1 k2)
    have HC := Lib.hid (fun (w1 : World) y1 y2 (c1 c2 : List Int) (h1 : WList w1 y1 c1) (h2 : WList w1 y2 c2) => cmp_any y1 y2 c1 c2 w1 h1 h2)
    generalize p * 2 ^ (2 * h) / q = N at *
    generalize p * 2 ^ (2 * h) % q = t at *
    generalize hX : decide (((t : Nat) : Int) = 0) = X at *
    obtain ⟨c1, d1, rfl⟩ := hu.shape
    obtain ⟨c2, d2, rfl⟩ := hv.shape
    have b1 : (s : Int) ≤ 3108 := by omega
    have b2 : 0 ≤ (s : Int) := by omega
    have e1 : (s : Int) + (s : Int) % 2 = 2 * (h : Int) := by omega
    have e1' : (s : Int) + (s : Int).tmod 2 = 2 * (h : Int) := by rw [Int.tmod_eq_emod_of_nonneg (by omega)]; omega
    have e2 : (-(2 * (h : Int))).tdiv 2 = -(h : Int) := by rw [Int.neg_tdiv, Int.tdiv_eq_ediv_of_nonneg (by omega)]; omega
    have b3 : (h : Int) ≤ 1600 := by omega
    have e3 : ((2 * h : Nat) : Int) = 2 * (h : Int) := by omega
    rw [e3] at HD
    clear hu hv la hp hq lp lq hT hx hE hs hlong hsh hRoo hX hh hp0 hq0 e3
    go_enter Tryd.func8, Tryd.ntmps8
    go_wp2_with fail
    refine (HE.out).mono ?_; rintro r w1 ⟨rfl, rfl⟩
    go_wp2_with fail
    refine (HS.out).mono ?_; rintro r w1 ⟨rfl, rfl⟩
    go_wp2_with fail
    refine (HD.out).mono ?_; rintro r w1 ⟨y, rfl, hy, hb⟩
    obtain ⟨c, hc, lc, ec⟩ := HN.out w1 y hy
    have HRt2 := Lib.hid (HRt.out w1 y c hc lc)
    rw [ec] at HRt2
    have HB1 := Lib.hid hb
    have HY := Lib.hid (And.intro hc (And.intro lc ec))
    obtain ⟨p3, l3, d3, rfl⟩ := isNat_shape hy
    clear hc lc ec hb hy HN HRt HD HS HE
    go_wp2_with fail
    refine (HRt2.out).mono ?_; rintro rr w2 ⟨y2, s2, rfl, hy2, hroot, hb2⟩
    obtain ⟨r, rfl, k1, k2⟩ := isRoot_nat hroot
    have HA2 := Lib.hid (HA.out r k1 k2)
    obtain ⟨c3, hc3, lc3, ec3⟩ := HN2.out w2 y2 r hy2 k1
    have HB2 := Lib.hid (HB1.out.trans (hb2.mono HB1.out.size))
    have HY2 := Lib.hid (And.intro hc3 (And.intro lc3 ec3))
    have HYb := Lib.hid (HY.out.1.below hb2)
    have HM2 := Lib.hid (HM.out w2 y2 y2 c3 c3 hc3 hc3 (by omega) (by omega))
    rw [ec3] at HM2
    obtain ⟨p4, l4, d4, rfl⟩ := isNat_shape hy2
    clear hc3 lc3 ec3 hb2 hy2 hroot k1 k2 HRt2 HA HN2 HM HB1
    cases X
    · have HP2 := Lib.hid (HP.out w2 _ c3 r false HB2.out HY2.out.1 (by have := HY2.out.2.1; omega) HY2.out.2.2)
      have HA3 : Hid (RootAns p q (nearW (2 * r + halfB false) (-(h : Int) - 1))) := HA2
      clear HA2 HP HM2 HC
      generalize nearW (2 * r + halfB false) (-(h : Int) - 1) = R at *
      go_wp2_with fail
      refine (HP2.out).mono ?_; rintro rr w3 ⟨rfl, hb3⟩
      go_wp2_with fail
      go_ret
      exact ⟨⟨R, .inr ⟨HQ0.out.1, HQ0.out.2, HA3.out⟩, rfl⟩, HB2.out.trans (hb3.mono HB2.out.size)⟩
    · go_wp2_with fail
      refine (HM2.out).mono ?_; rintro rr w3 ⟨y5, c5, rfl, g1, g2, g3, g4, g5, g6⟩
      have hy5 := own_wlist g1 g2 (by have := HY2.out.2.1; omega)
      have HC2 := Lib.hid (HC.out w3 y5 _ c5 c hy5 (HYb.out.below g6))
      rw [g4, HY.out.2.2] at HC2
      have HB3 := Lib.hid (HB2.out.trans (g6.mono HB2.out.size))
      have HY3 := Lib.hid (HY2.out.1.below g6)
      obtain ⟨p6, d6, rfl⟩ := hy5.shape
      clear g1 g2 g3 g4 g5 g6 hy5 HC HM2 HB2 HYb
      have HA3 : Hid (RootAns p q (nearW (2 * r + halfB (cmpI ((r : Int) * r) (N : Int) == 0)) (-(h : Int) - 1))) := HA2
      clear HA2
      generalize cmpI ((r : Int) * r) (N : Int) = cm at *
      go_wp2_with fail
      refine (HC2.out).mono ?_; rintro rr w4 ⟨rfl, nd, rfl⟩
      have hd : Below w3.heap.size w3 (w3.drewN nd) := (show Drawn w3 (w3.drewN nd) from ⟨nd, rfl⟩).below
      have HB4 := Lib.hid (HB3.out.trans (hd.mono HB3.out.size))
      have HP2 := Lib.hid (HP.out (w3.drewN nd) _ c3 r (cm == 0) HB4.out (HY3.out.below hd) (by have := HY2.out.2.1; omega) HY2.out.2.2)
      clear hd HB3 HY3 HC2 HP
      generalize w3.drewN nd = W4 at *
      generalize nearW (2 * r + halfB (cm == 0)) (-(h : Int) - 1) = R at *
      go_wp2_with fail
      refine (HP2.out).mono ?_; rintro rr w5 ⟨rfl, hb5⟩
      go_wp2_with fail
      go_ret
      exact ⟨⟨R, .inr ⟨HQ0.out.1, HQ0.out.2, HA3.out⟩, rfl⟩, HB4.out.trans (hb5.mono HB4.out.size)⟩
set_option maxRecDepth 100000
open Go.RowKit
set_option linter.unusedVariables false
def meanNeg (s n : Int) : Bool := decide (s ≠ 0) && (decide (s < 0) != decide (n < 0))
theorem bits64 {x : Int} (h1 : -9223372036854775808 ≤ x) (h2 : x ≤ 9223372036854775807) : bitsZ (x.natAbs : Int) ≤ 64 := by
  by_cases h0 : x.natAbs = 0
  · rw [h0]; decide
  · have h64 : (2 : Nat) ^ 64 = 18446744073709551616 := by decide
    exact bits_upto h0 (by omega)
set_option maxHeartbeats 4000000 in
theorem pmean_any (s n : Int) (w : World) (s1 : -9223372036854775808 ≤ s) (s2 : s ≤ 9223372036854775807) (n1 : -9223372036854775808 ≤ n) (n2 : n ≤ 9223372036854775807) (hT : Tab w) :
    Calls Tryd.prog 11 #[.int .i64 s, .int .i64 n] w fun r w' => r = .returned (.float .f64 (signN (meanNeg s n) (quoN s.natAbs n.natAbs))) ∧ Below w.heap.size w w' := by
  have HS := Lib.hid (fun w => psize_any s s1 s2 w)
  have HN := Lib.hid (fun w => psize_any n n1 n2 w)
  have HQ := Lib.hid (fun (w1 : World) b u v (c1 c2 : List Int) (hb : Below w.heap.size w w1) (h1 : WList w1 u c1) (h2 : WList w1 v c2) (l1 : c1.length ≤ 1000) (e1 : wv c1 = (s.natAbs : Int)) (e2 : wv c2 = (n.natAbs : Int)) => pquot_any b u v c1 c2 s.natAbs n.natAbs w1 h1 h2 l1 e1 e2 (Nat.le_trans (bits64 s1 s2) (by decide)) (Nat.le_trans (bits64 n1 n2) (by decide)) (hT.call hb))
  have hcase : (s = 0 ∧ meanNeg s n = false) ∨ (s < 0 ∧ n < 0 ∧ meanNeg s n = false) ∨ (s < 0 ∧ ¬ n < 0 ∧ meanNeg s n = true) ∨ (0 < s ∧ n < 0 ∧ meanNeg s n = true) ∨ (0 < s ∧ ¬ n < 0 ∧ meanNeg s n = false) := by
    unfold meanNeg
    rcases Int.lt_trichotomy s 0 with h | h | h <;> by_cases k : n < 0 <;> simp [h, k] <;> omega
  generalize meanNeg s n = B at *
  generalize s.natAbs = S at *
  generalize n.natAbs = N at *
  have key : ∀ b : Bool, Hid (∀ (w1 : World) (u v : Value) (c1 c2 : List Int), Below w.heap.size w w1 → WList w1 u c1 → WList w1 v c2 → c1.length ≤ 1000 → wv c1 = (S : Int) → wv c2 = (N : Int) → Calls Tryd.prog 19 #[.bool b, u, v] w1 fun r w' => r = .returned (.float .f64 (signN b (quoN S N))) ∧ Below w1.heap.size w1 w') := fun b => Lib.hid (fun w1 u v c1 c2 h1 h2 h3 h4 h5 h6 => HQ.out w1 b u v c1 c2 h1 h2 h3 h4 h5 h6)
  have HK := Lib.hid (key B)
  clear hT HQ key
  rcases hcase with ⟨rfl, rfl⟩ | ⟨h1, h2, rfl⟩ | ⟨h1, h2, rfl⟩ | ⟨h1, h2, rfl⟩ | ⟨h1, h2, rfl⟩
  all_goals
    first
      | (have q1 : (s != 0) = true := by simp; omega)
      | skip
    first
      | (have q2 : decide (s < 0) = true := by simpa using h1)
      | (have q2 : decide (s < 0) = false := by simp; omega)
      | skip
    first
      | (have q3 : decide (n < 0) = true := by simpa using h2)
      | (have q3 : decide (n < 0) = false := by simp; omega)
      | skip
    generalize signN _ (quoN S N) = R at *
    go_enter Tryd.func11, Tryd.ntmps11
    go_wp2_with fail
    refine (HS.out _).mono ?_; rintro r w1 ⟨y, c1, rfl, g1, g2, g3, g4, g5, g6⟩
    have hy := own_wlist g1 g2 (by omega)
    have HY := Lib.hid (And.intro hy (And.intro g4 g5))
    have HB1 := Lib.hid g6
    obtain ⟨p3, d3, rfl⟩ := hy.shape
    clear g1 g2 g3 g4 g5 g6 hy HS
    go_wp2_with fail
    refine (HN.out _).mono ?_; rintro r w2 ⟨y2, c2, rfl, g1, g2, g3, g4, g5, g6⟩
    have hy2 := own_wlist g1 g2 (by omega)
    have HB2 := Lib.hid (HB1.out.trans (g6.mono HB1.out.size))
    have HK2 := Lib.hid (HK.out.out w2 _ y2 c1 c2 HB2.out (HY.out.1.below g6) hy2 (by have := HY.out.2.2; omega) HY.out.2.1 g4)
    obtain ⟨p4, d4, rfl⟩ := hy2.shape
    clear g1 g2 g3 g4 g5 g6 hy2 HN HB1 HK
    go_wp2_with fail
    refine (HK2.out).mono ?_; rintro r w3 ⟨rfl, hb3⟩
    go_wp2_with fail
    go_ret
    exact ⟨rfl, HB2.out.trans (hb3.mono HB2.out.size)⟩
/-- What Dev answers. -/
def DevRes (n s : Int) (S R : Nat) : Prop := ((n < 1 ∨ 1000 < bitsZ (S : Int)) ∧ R = 9221120237041090561) ∨ (1 ≤ n ∧ bitsZ (S : Int) ≤ 1000 ∧ n * S < s * s ∧ R = 9221120237041090561) ∨ (1 ≤ n ∧ bitsZ (S : Int) ≤ 1000 ∧ ∃ D : Nat, (D : Int) = n * S - s * s ∧ RootRes D (n.natAbs * n.natAbs) R)
def DevPost (n s : Int) (S : Nat) (w : World) (r : Ending) (w' : World) : Prop := (∃ R, DevRes n s S R ∧ r = .returned (.float .f64 R)) ∧ Below w.heap.size w w'
theorem bits_prod {a b M N K : Nat} (ha : bitsZ (a : Int) ≤ M) (hb : bitsZ (b : Int) ≤ N) (hK : M + N ≤ K) : bitsZ ((a * b : Nat) : Int) ≤ K := by
  by_cases h0 : a * b = 0
  · rw [h0]; exact Nat.zero_le _
  · have h1 := lt_bits ha
    have h2 := lt_bits hb
    refine bits_upto h0 ?_
    have h3 : a * b < 2 ^ M * 2 ^ N := Nat.mul_lt_mul'' h1 h2
    rw [← Nat.pow_add] at h3
    exact Nat.lt_of_lt_of_le h3 (Nat.pow_le_pow_right (by decide) hK)
theorem bits_mono {a b : Nat} (h : a ≤ b) : bitsZ (a : Int) ≤ bitsZ (b : Int) := by
  by_cases h0 : a = 0
  · rw [h0]; exact Nat.zero_le _
  · exact bits_upto h0 (Nat.lt_of_le_of_lt h (bits_lt_nat (by omega)))
theorem sq_abs (s : Int) : ((s.natAbs : Int) * (s.natAbs : Int)) = s * s := Int.natAbs_mul_self
set_option maxHeartbeats 4000000 in
theorem pdev_any (n s : Int) (v : Value) (a : List Int) (S : Nat) (w : World) (n1 : -9223372036854775808 ≤ n) (n2 : n ≤ 9223372036854775807) (s1 : -9223372036854775808 ≤ s) (s2 : s ≤ 9223372036854775807) (hv : WList w v a) (la : a.length ≤ 900) (hS : wv a = (S : Int)) (hT : Tab w) :
    Calls Tryd.prog 13 #[.int .i64 n, .int .i64 s, v] w (DevPost n s S w) := by
  have HB := Lib.hid (bits_any v a w hv)
  rw [hS] at HB
  have HNan := Lib.hid (fun w => fnan_any w)
  by_cases hn : n < 1
  · have HR := Lib.hid (show DevRes n s S 9221120237041090561 from .inl ⟨.inl hn, rfl⟩)
    obtain ⟨c1, d1, rfl⟩ := hv.shape
    clear hv hT hS
    go_enter Tryd.func13, Tryd.ntmps13
    go_wp2_with fail
    refine (HNan.out _).mono ?_; rintro r w1 ⟨rfl, rfl⟩
    go_wp2_with fail
    go_ret
    exact ⟨⟨_, HR.out, rfl⟩, Below.refl _ _⟩
  · by_cases hb : 1000 < bitsZ (S : Int)
    · have HR := Lib.hid (show DevRes n s S 9221120237041090561 from .inl ⟨.inr hb, rfl⟩)
      obtain ⟨c1, d1, rfl⟩ := hv.shape
      generalize bitsZ (S : Int) = L at *
      have b1 : (1000 : Int) < (L : Int) := by omega
      clear hv hT hS
      go_enter Tryd.func13, Tryd.ntmps13
      go_wp2_with fail
      refine (HB.out).mono ?_; rintro r w1 ⟨rfl, rfl⟩
      go_wp2_with fail
      refine (HNan.out _).mono ?_; rintro r w1 ⟨rfl, rfl⟩
      go_wp2_with fail
      go_ret
      exact ⟨⟨_, HR.out, rfl⟩, Below.refl _ _⟩
    · have HSn := Lib.hid (fun w => psize_any n n1 n2 w)
      have HSs := Lib.hid (fun w => psize_any s s1 s2 w)
      have hbn := bits64 n1 n2
      have hbs := bits64 s1 s2
      have HM := Lib.hid (fun (w1 : World) y1 y2 (c1 c2 : List Int) (h1 : WList w1 y1 c1) (h2 : WList w1 y2 c2) k1 k2 => mulw_any y1 y2 c1 c2 w1 h1 h2 k1 k2)
      have hnn : ((n.natAbs : Nat) : Int) = n := by omega
      have hss := sq_abs s
      have hRS : ∀ R, n * S < s * s → R = 9221120237041090561 → DevRes n s S R := fun R k1 k2 => .inr (.inl ⟨by omega, by omega, k1, k2⟩)
      have hRD : ∀ (D R : Nat), (D : Int) = n * S - s * s → RootRes D (n.natAbs * n.natAbs) R → DevRes n s S R := fun D R k1 k2 => .inr (.inr ⟨by omega, by omega, D, k1, k2⟩)
      have hn0 : n.natAbs ≠ 0 := by omega
      have HRt := Lib.hid (fun (w1 : World) y1 y2 (c1 c2 : List Int) (D : Nat) (hb1 : Below w.heap.size w w1) (h1 : WList w1 y1 c1) (h2 : WList w1 y2 c2) (l1 : c1.length ≤ 1000) (e1 : wv c1 = (D : Int)) (e2 : wv c2 = ((n.natAbs * n.natAbs : Nat) : Int)) (k : D ≤ n.natAbs * S) => proot_any y1 y2 c1 c2 D (n.natAbs * n.natAbs) w1 h1 h2 l1 e1 e2 (Nat.le_trans (bits_mono k) (bits_prod (K := 3000) hbn (by omega : bitsZ (S : Int) ≤ 1000) (by decide))) (bits_prod (K := 3000) hbn hbn (by decide)) (hT.call hb1))
      rw [← hnn, ← hss] at hRS hRD
      generalize n.natAbs = N at *
      subst hnn
      generalize s.natAbs = Q at *
      have HRS := Lib.hid hRS
      have HRD := Lib.hid hRD
      have HV := Lib.hid (And.intro hv (And.intro la hS))
      obtain ⟨c1, d1, rfl⟩ := hv.shape
      generalize bitsZ (S : Int) = L at *
      have b1 : (L : Int) ≤ 1000 := by omega
      clear hv hT hS hss hRS hRD hbn hbs la
      by_cases hlt : (N : Int) * S < (Q : Int) * Q
      · have HLt := Lib.hid hlt
        clear hlt HRt HRD
        go_enter Tryd.func13, Tryd.ntmps13
        go_wp2_with fail
        refine (HB.out).mono ?_; rintro r w1 ⟨rfl, rfl⟩
        go_wp2_with fail
        refine (HSn.out _).mono ?_; rintro r w1 ⟨y1, a1, rfl, g1, g2, g3, g4, g5, g6⟩
        have hy1 := own_wlist g1 g2 (by omega)
        have HY1 := Lib.hid (And.intro hy1 (And.intro g4 g5))
        have HB1 := Lib.hid g6
        obtain ⟨p1, e1, rfl⟩ := hy1.shape
        clear g1 g2 g3 g4 g5 g6 hy1 HSn HB
        go_wp2_with fail
        refine (HSs.out _).mono ?_; rintro r w2 ⟨y2, a2, rfl, g1, g2, g3, g4, g5, g6⟩
        have hy2 := own_wlist g1 g2 (by omega)
        have HY2 := Lib.hid (And.intro hy2 (And.intro g4 g5))
        have HB2 := Lib.hid (HB1.out.trans (g6.mono HB1.out.size))
        have HY12 := Lib.hid (HY1.out.1.below g6)
        obtain ⟨p2, e2, rfl⟩ := hy2.shape
        have HM1 := Lib.hid (HM.out w2 _ _ a1 a HY12.out (HV.out.1.below HB2.out) (by have := HY1.out.2.2; omega) (by have := HV.out.2.1; omega))
        rw [HY1.out.2.1, HV.out.2.2] at HM1
        clear g1 g2 g3 g4 g5 g6 hy2 HSs HB1
        go_wp2_with fail
        refine (HM1.out).mono ?_; rintro r w3 ⟨y3, a3, rfl, g1, g2, g3, g4, g5, g6⟩
        have l3 : a3.length ≤ 902 := by have h1 := HY1.out.2.2; have h2 := HV.out.2.1; omega
        have hy3 := own_wlist g1 g2 (by omega)
        have HY3 := Lib.hid (And.intro hy3 (And.intro g4 l3))
        have HB3 := Lib.hid (HB2.out.trans (g6.mono HB2.out.size))
        have HY13 := Lib.hid (HY12.out.below g6)
        have HY23 := Lib.hid (HY2.out.1.below g6)
        obtain ⟨p3, e3, rfl⟩ := hy3.shape
        have HM2 := Lib.hid (HM.out w3 _ _ a2 a2 HY23.out HY23.out (by have := HY2.out.2.2; omega) (by have := HY2.out.2.2; omega))
        rw [HY2.out.2.1] at HM2
        clear g1 g2 g3 g4 g5 g6 hy3 HB2 HM1 HY12 l3
        go_wp2_with fail
        refine (HM2.out).mono ?_; rintro r w4 ⟨y4, a4, rfl, g1, g2, g3, g4, g5, g6⟩
        have hy4 := own_wlist g1 g2 (by have := HY2.out.2.2; omega)
        have HY4 := Lib.hid (And.intro hy4 g4)
        have HB4 := Lib.hid (HB3.out.trans (g6.mono HB3.out.size))
        have HY14 := Lib.hid (HY13.out.below g6)
        have HY34 := Lib.hid (HY3.out.1.below g6)
        obtain ⟨p4, e4, rfl⟩ := hy4.shape
        clear g1 g2 g3 g4 g5 g6 hy4 HB3 HM2 HY13 HY23
        have HSb := Lib.hid (sub_none _ _ a3 a4 w4 HY34.out HY4.out.1 (by rw [HY3.out.2.1, HY4.out.2]; exact HLt.out))
        go_wp2_with fail
        refine (HSb.out).mono ?_; rintro r w5 ⟨rfl, hb5⟩
        have HB5 := Lib.hid (HB4.out.trans (hb5.mono HB4.out.size))
        clear hb5 HSb HB4
        go_wp2_with fail
        refine (HNan.out _).mono ?_; rintro r w6 ⟨rfl, rfl⟩
        go_wp2_with fail
        go_ret
        exact ⟨⟨_, HRS.out _ HLt.out rfl, rfl⟩, HB5.out⟩
      · obtain ⟨D, hD⟩ := Int.eq_ofNat_of_zero_le (a := (N : Int) * S - (Q : Int) * Q) (by omega)
        have HD := Lib.hid hD
        have HDle := Lib.hid (show D ≤ N * S by
          have h1 : (0 : Int) ≤ (Q : Int) * Q := Int.mul_nonneg (by omega) (by omega)
          have h2 : ((N * S : Nat) : Int) = (N : Int) * S := by simp
          omega)
        have HLt := Lib.hid hlt
        clear hlt hD HRS HNan
        go_enter Tryd.func13, Tryd.ntmps13
        go_wp2_with fail
        refine (HB.out).mono ?_; rintro r w1 ⟨rfl, rfl⟩
        go_wp2_with fail
        refine (HSn.out _).mono ?_; rintro r w1 ⟨y1, a1, rfl, g1, g2, g3, g4, g5, g6⟩
        have hy1 := own_wlist g1 g2 (by omega)
        have HY1 := Lib.hid (And.intro hy1 (And.intro g4 g5))
        have HB1 := Lib.hid g6
        obtain ⟨p1, e1, rfl⟩ := hy1.shape
        clear g1 g2 g3 g4 g5 g6 hy1 HSn HB
        go_wp2_with fail
        refine (HSs.out _).mono ?_; rintro r w2 ⟨y2, a2, rfl, g1, g2, g3, g4, g5, g6⟩
        have hy2 := own_wlist g1 g2 (by omega)
        have HY2 := Lib.hid (And.intro hy2 (And.intro g4 g5))
        have HB2 := Lib.hid (HB1.out.trans (g6.mono HB1.out.size))
        have HY12 := Lib.hid (HY1.out.1.below g6)
        obtain ⟨p2, e2, rfl⟩ := hy2.shape
        have HM1 := Lib.hid (HM.out w2 _ _ a1 a HY12.out (HV.out.1.below HB2.out) (by have := HY1.out.2.2; omega) (by have := HV.out.2.1; omega))
        rw [HY1.out.2.1, HV.out.2.2] at HM1
        clear g1 g2 g3 g4 g5 g6 hy2 HSs HB1
        go_wp2_with fail
        refine (HM1.out).mono ?_; rintro r w3 ⟨y3, a3, rfl, g1, g2, g3, g4, g5, g6⟩
        have l3 : a3.length ≤ 902 := by have h1 := HY1.out.2.2; have h2 := HV.out.2.1; omega
        have hy3 := own_wlist g1 g2 (by omega)
        have HY3 := Lib.hid (And.intro hy3 (And.intro g4 l3))
        have HB3 := Lib.hid (HB2.out.trans (g6.mono HB2.out.size))
        have HY13 := Lib.hid (HY12.out.below g6)
        have HY23 := Lib.hid (HY2.out.1.below g6)
        obtain ⟨p3, e3, rfl⟩ := hy3.shape
        have HM2 := Lib.hid (HM.out w3 _ _ a2 a2 HY23.out HY23.out (by have := HY2.out.2.2; omega) (by have := HY2.out.2.2; omega))
        rw [HY2.out.2.1] at HM2
        clear g1 g2 g3 g4 g5 g6 hy3 HB2 HM1 HY12 l3
        go_wp2_with fail
        refine (HM2.out).mono ?_; rintro r w4 ⟨y4, a4, rfl, g1, g2, g3, g4, g5, g6⟩
        have hy4 := own_wlist g1 g2 (by have := HY2.out.2.2; omega)
        have HY4 := Lib.hid (And.intro hy4 g4)
        have HB4 := Lib.hid (HB3.out.trans (g6.mono HB3.out.size))
        have HY14 := Lib.hid (HY13.out.below g6)
        have HY34 := Lib.hid (HY3.out.1.below g6)
        obtain ⟨p4, e4, rfl⟩ := hy4.shape
        clear g1 g2 g3 g4 g5 g6 hy4 HB3 HM2 HY13 HY23
        have HSb := Lib.hid (sub_any _ _ a3 a4 w4 HY34.out HY4.out.1 (by rw [HY3.out.2.1, HY4.out.2]; have := HLt.out; omega))
        rw [HY3.out.2.1, HY4.out.2, HD.out] at HSb
        go_wp2_with fail
        refine (HSb.out).mono ?_; rintro r w5 ⟨y5, rfl, y', a5, e', g1, g2, g3, g4, g5, g6⟩
        simp only [Ending.returned.injEq] at e'
        subst e'
        have l5 : a5.length ≤ 1000 := by have := HY3.out.2.2; omega
        have hy5 := own_wlist g1 g2 (by omega)
        have HY5 := Lib.hid (And.intro hy5 (And.intro g4 l5))
        have HB5 := Lib.hid (HB4.out.trans (g6.mono HB4.out.size))
        have HY15 := Lib.hid (HY14.out.below g6)
        obtain ⟨p5, e5, rfl⟩ := hy5.shape
        have HM5 := Lib.hid (HM.out w5 _ _ a1 a1 HY15.out HY15.out (by have := HY1.out.2.2; omega) (by have := HY1.out.2.2; omega))
        rw [HY1.out.2.1, ← Int.natCast_mul] at HM5
        clear g1 g2 g3 g4 g5 g6 hy5 HB4 HSb HY14 HY34 HY4 l5
        go_wp2_with fail
        refine (HM5.out).mono ?_; rintro r w6 ⟨y6, a6, rfl, g1, g2, g3, g4, g5, g6⟩
        have hy6 := own_wlist g1 g2 (by have := HY1.out.2.2; omega)
        have HB6 := Lib.hid (HB5.out.trans (g6.mono HB5.out.size))
        have HR6 := Lib.hid (HRt.out w6 _ y6 a5 a6 D HB6.out (HY5.out.1.below g6) hy6 HY5.out.2.2 HY5.out.2.1 g4 HDle.out)
        obtain ⟨p6, e6, rfl⟩ := hy6.shape
        clear g1 g2 g3 g4 g5 g6 hy6 HB5 HM5 HY15 HM HRt
        go_wp2_with fail
        refine (HR6.out).mono ?_; rintro r w7 ⟨⟨R, hR, rfl⟩, hb7⟩
        have HR7 := Lib.hid (HRD.out D R HD.out.symm hR)
        have HB7 := Lib.hid (HB6.out.trans (hb7.mono HB6.out.size))
        clear hR hb7 HR6 HB6 HRD
        go_wp2_with fail
        go_ret
        exact ⟨⟨R, HR7.out, rfl⟩, HB7.out⟩
end Go.Proofs.YtjfcnpanodkmnaaDoor
