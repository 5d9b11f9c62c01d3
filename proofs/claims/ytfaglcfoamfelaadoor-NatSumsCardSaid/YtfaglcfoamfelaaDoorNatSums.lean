/- NatSums: for any two lists of words the statement's function returns true and changes nothing that was there. No condition; the row lists math/bits.deBruijn32tab as the program's text lays it. -/
import Derived.Test.YtfaglcfoamfelaaDoorRows
import Derived.Test.YtfaglcfoamfelaaDoorCards
import Derived.Test.YtfaglcfoamfelaaDoorTie
import Derived.Test.YtfaglcfoamfelaaDoorLaid2
import Derived.Test.YtfaglcfoamfelaaDoorNumx
import Derived.Test.YtfaglcfoamfelaaDoorNatm
import Derived.SevenTiedAt
import Derived.Deep.RegionHeld3
namespace Go.Proofs.YtfaglcfoamfelaaDoor.natSums
open Go.ChangeShapes Go.WideShapes Go.ChangeAt Go.RowKit
set_option linter.unusedVariables false
set_option maxRecDepth 100000 in
set_option maxHeartbeats 1000000 in
theorem walk_long (a0 : Option Addr) (len0 cap0 : Nat) (a1 : Option Addr) (len1 cap1 : Nat) (w : World) (hT : Tab w) (h : 40 < len0 ∨ 40 < len1) (m0 : len0 ≤ 9223372036854775807) (m1 : len1 ≤ 9223372036854775807) :
    Calls Tryd.prog 4 #[.slice a0 len0 cap0, .slice a1 len1 cap1] w fun e w' => e = .returned (.bool true) ∧ Below w.heap.size w w' := by
  have hL := light_any a0 a1 len0 len1 cap0 cap1 w m0 m1
  have e : (decide (len0 ≤ 40) && decide (len1 ≤ 40)) = false := by simp; omega
  rw [e] at hL
  have HL := Lib.hid hL
  clear hL e
  go_enter Tryd.func4, Tryd.ntmps4
  go_wp2_with fail
  refine (HL.out).mono ?_; rintro e w' ⟨rfl, rfl⟩
  go_wp2_with fail
  refine (awake2_any w hT).mono ?_; rintro e w' ⟨rfl, hb⟩
  go_wp2_with fail
  go_ret
  exact ⟨rfl, hb⟩
theorem sum_lt {x y : Int} {m n : Nat} (h : ((0 ≤ x ∧ x < 4294967296 ^ m) ∧ (0 ≤ y ∧ y < 4294967296 ^ n)) ∧ ((4294967296 : Int) ^ m ≤ 4294967296 ^ 40 ∧ (4294967296 : Int) ^ n ≤ 4294967296 ^ 40)) : x + y < 4294967296 ^ 41 := by
  have := q_succ 40
  have := q_pos 40
  omega
theorem mul_lt {x y : Int} {m n : Nat} (h : ((0 ≤ x ∧ x < 4294967296 ^ m) ∧ (0 ≤ y ∧ y < 4294967296 ^ n)) ∧ ((4294967296 : Int) ^ m ≤ 4294967296 ^ 40 ∧ (4294967296 : Int) ^ n ≤ 4294967296 ^ 40)) : x * y < 4294967296 ^ 80 := by
  have h1 : (4294967296 : Int) ^ 80 = 4294967296 ^ 40 * 4294967296 ^ 40 := by rw [← Int.pow_add]
  have h2 : x * y ≤ x * 4294967296 ^ 40 := Int.mul_le_mul_of_nonneg_left (by omega) (by omega)
  have h3 : x * 4294967296 ^ 40 < 4294967296 ^ 40 * 4294967296 ^ 40 := Int.mul_lt_mul_of_pos_right (by omega) (q_pos 40)
  omega
set_option maxRecDepth 100000 in
set_option maxHeartbeats 2000000 in
theorem walk_short (a0 : Option Addr) (len0 cap0 : Nat) (z0 : List Int) (a1 : Option Addr) (len1 cap1 : Nat) (z1 : List Int) (w : World) (g0 : WList w (.slice a0 len0 cap0) z0) (g1 : WList w (.slice a1 len1 cap1) z1) (l0 : z0.length = len0) (l1 : z1.length = len1) (hT : Tab w) (k0 : len0 ≤ 40) (k1 : len1 ≤ 40) :
    Calls Tryd.prog 4 #[.slice a0 len0 cap0, .slice a1 len1 cap1] w fun e w' => e = .returned (.bool true) ∧ Below w.heap.size w w' := by
  have hL := light_any a0 a1 len0 len1 cap0 cap1 w (by omega) (by omega)
  have e : (decide (len0 ≤ 40) && decide (len1 ≤ 40)) = true := by simp; omega
  rw [e] at hL
  have HL := Lib.hid hL
  have HU := Lib.hid g0
  have HV := Lib.hid g1
  have HT := Lib.hid hT
  have hr0 := wv_range g0.2.1
  have hr1 := wv_range g1.2.1
  have hs0 : Sized 200 (wv z0) := (sized_words hr0.1 hr0.2).mono (by omega)
  have hs1 : Sized 200 (wv z1) := (sized_words hr1.1 hr1.2).mono (by omega)
  have hq0 := q_mono (m := z0.length) (n := 40) (by omega)
  have hq1 := q_mono (m := z1.length) (n := 40) (by omega)
  have HN0 := Lib.hid (fun w1 (h : Below w.heap.size w w1) => num_words _ z0 w1 (HU.out.below h) (by omega))
  have HN1 := Lib.hid (fun w1 (h : Below w.heap.size w w1) => num_words _ z1 w1 (HV.out.below h) (by omega))
  have HSubY := Lib.hid (fun w1 (h : Below w.heap.size w w1) hle => sub_any _ _ z0 z1 w1 (HU.out.below h) (HV.out.below h) hle)
  have HSubN := Lib.hid (fun w1 (h : Below w.heap.size w w1) hlt => sub_none _ _ z0 z1 w1 (HU.out.below h) (HV.out.below h) hlt)
  have HAdd := Lib.hid (fun w1 (h : Below w.heap.size w w1) => add_any _ _ z0 z1 w1 (HU.out.below h) (HV.out.below h) (by omega) (by omega))
  have HMul := Lib.hid (fun w1 (h : Below w.heap.size w w1) => mulw_any _ _ z0 z1 w1 (HU.out.below h) (HV.out.below h) (by omega) (by omega))
  have RCmp := Lib.hid (fun w1 u v (hu : IsNum w1 u (wv z0)) (hv : IsNum w1 v (wv z1)) => num_cmp u v _ _ 200 w1 hu hv hs0 hs1 (by decide))
  have RSub := Lib.hid (fun w1 u v (hu : IsNum w1 u (wv z0)) (hv : IsNum w1 v (wv z1)) => num_sub u v _ _ 200 w1 hu hv hs0 hs1 (by decide))
  have RAdd := Lib.hid (fun w1 u v (hu : IsNum w1 u (wv z0)) (hv : IsNum w1 v (wv z1)) => num_add u v _ _ 200 w1 hu hv hs0 hs1 (by decide))
  have RMul := Lib.hid (fun w1 u v (hu : IsNum w1 u (wv z0)) (hv : IsNum w1 v (wv z1)) => num_mul u v _ _ 200 w1 hu hv hs0 hs1 (by decide))
  clear hL e g0 g1 hT
  go_enter Tryd.func4, Tryd.ntmps4
  go_wp2_with fail
  refine (HL.out).mono ?_; rintro e w' ⟨rfl, rfl⟩
  go_wp2_with fail
  refine (HN0.out _ (Below.refl _ _)).mono ?_; rintro e w2 ⟨x, rfl, hx, hb2⟩
  go_wp2_with fail
  refine (HN1.out _ hb2).mono ?_; rintro e w3 ⟨y, rfl, hy, hb3⟩
  have hx := hx.below hb3
  have hE := Lib.hid (hb2.trans (hb3.mono hb2.size))
  obtain ⟨xb, xp, xl, xc, rfl⟩ := hx.shape
  obtain ⟨yb, yp, yl, yc, rfl⟩ := hy.shape
  have hb4 := below_two w3 (.cells #[.bool xb, .slice xp xl xc] 28) (.cells #[.bool yb, .slice yp yl yc] 28)
  have hE4 := Lib.hid (hE.out.trans (hb4.mono hE.out.size))
  have HX4 := Lib.hid (hx.below hb4)
  have HY4 := Lib.hid (hy.below hb4)
  clear hb2 hb3 hb4 hx hy hE HN0 HN1 HL
  go_wp2_with fail
  have hF4 : Four' w3.heap.size (.bool xb) (.slice xp xl xc) (.bool yb) (.slice yp yl yc) ((w3.alloc (.cells #[.bool xb, .slice xp xl xc] 28)).alloc (.cells #[.bool yb, .slice yp yl yc] 28)) := ⟨by simp [go_sem], by simp [go_sem], by simp [go_sem], by simp [go_sem]⟩
  generalize (w3.alloc (.cells #[.bool xb, .slice xp xl xc] 28)).alloc (.cells #[.bool yb, .slice yp yl yc] 28) = w4 at *
  have hF4 := Lib.hid hF4
  have hsB := Lib.hid (And.intro (And.intro hr0 hr1) (And.intro hq0 hq1))
  by_cases hle : wv z1 ≤ wv z0
  · refine (HSubY.out _ hE4.out hle).mono ?_; rintro e w5 ⟨d, rfl, hFd⟩
    have hN := Fresh.isNat hFd (by omega)
    have hcm2 : 0 ≤ cmpI (wv z0) (wv z1) := cmpI_ge.2 hle
    have HD := Lib.hid hN.1
    have hE5 := Lib.hid (hE4.out.trans (hN.2.mono hE4.out.size))
    have HX5 := Lib.hid (HX4.out.below hN.2)
    have HY5 := Lib.hid (HY4.out.below hN.2)
    have hF5 := Lib.hid (Four'.call hF4.out hN.2)
    clear hFd hN HX4 HY4 hF4 hE4 HSubY HSubN hr0 hr1 hq0 hq1 hs0 hs1
    have RCm := Lib.hid (RCmp.out w5 _ _ HX5.out HY5.out)
    generalize cmpI (wv z0) (wv z1) = cm at *
    have hf := hF5.out
    obtain ⟨f1, f2, f3, f4⟩ := hf
    go_wp2_with fail
    refine (RCm.out).mono ?_; rintro e w6 ⟨rfl, hb6⟩
    have hE6 := Lib.hid (hE5.out.trans (hb6.mono hE5.out.size))
    have HX6 := Lib.hid (HX5.out.below hb6)
    have HY6 := Lib.hid (HY5.out.below hb6)
    have HD6 := Lib.hid (IsNat.below HD.out hb6)
    have hF6 := Lib.hid (Four'.call hF5.out hb6)
    obtain ⟨f1, f2, f3, f4⟩ := hF6.out
    clear hb6 hE5 HX5 HY5 HD hF5 RCm RCmp
    go_wp2_with fail
    refine (RSub.out _ _ _ HX6.out HY6.out).mono ?_; rintro e w7 ⟨s, rfl, hs, hb7⟩
    have hE7 := Lib.hid (hE6.out.trans (hb7.mono hE6.out.size))
    have HX7 := Lib.hid (HX6.out.below hb7)
    have HY7 := Lib.hid (HY6.out.below hb7)
    have HD7 := Lib.hid (IsNat.below HD6.out hb7)
    have hF7 := Lib.hid (Four'.call hF6.out hb7)
    have HIs := Lib.hid (isw_nat d s _ 40 w7 HD7.out (by have := hsB.out.1.1; have := hsB.out.1.2; have := hsB.out.2.1; omega) (by decide) hs)
    clear hb7 hE6 HX6 HY6 HD6 hF6 hs f1 f2 f3 f4 RSub HD7
    go_wp2_with fail
    refine (HIs.out).mono ?_; rintro e w8 ⟨rfl, hb8⟩
    have hE8 := Lib.hid (hE7.out.trans (hb8.mono hE7.out.size))
    have HX8 := Lib.hid (HX7.out.below hb8)
    have HY8 := Lib.hid (HY7.out.below hb8)
    have hF8 := Lib.hid (Four'.call hF7.out hb8)
    clear hb8 hE7 HX7 HY7 hF7 HIs hcm2 hle
    go_wp2_with fail
    have hk : Four' w3.heap.size (.bool xb) (.slice xp xl xc) (.bool yb) (.slice yp yl yc) w8.drew := Four'.call hF8.out (Below.refl _ _).drew
    have hBw : Below w8.heap.size w8 w8.drew := (Below.refl _ _).drew
    go_region_held3 (fun w' => w'.cell? ⟨w3.heap.size, 0, none⟩ = some (.bool xb) ∧ w'.cell? ⟨w3.heap.size, 1, none⟩ = some (.slice xp xl xc) ∧ w'.cell? ⟨w3.heap.size + 1, 0, none⟩ = some (.bool yb) ∧ w'.cell? ⟨w3.heap.size + 1, 1, none⟩ = some (.slice yp yl yc))
      (with_reducible exact hk)
      (first
        | (go_at_call 28; refine (HAdd.out _ (hE8.out.trans (hBw.mono hE8.out.size))).mono ?_; rintro e w9 ⟨s1, x1, rfl, hF1⟩; have hN1 := Fresh.isNat ⟨s1, x1, rfl, hF1⟩ (by omega); have hk := Four'.call hk hN1.2; have hBw := hBw.trans (hN1.2.mono hBw.size))
        | (go_at_call 29; refine (RAdd.out _ _ _ (HX8.out.below hBw) (HY8.out.below hBw)).mono ?_; rintro e w10 ⟨s2, rfl, hs2, hb10⟩; have hk := Four'.call hk hb10; have hBw := hBw.trans (hb10.mono hBw.size))
        | (go_at_call_of 18 s1; refine (isw_nat s1 s2 _ 41 _ (IsNat.below hN1.1 hb10) (sum_lt hsB.out) (by decide) hs2).mono ?_; rintro e w11 ⟨rfl, hb11⟩; have hk := Four'.call hk hb11; have hBw := hBw.trans (hb11.mono hBw.size))
        | (go_at_call 30; refine (HMul.out _ (hE8.out.trans (hBw.mono hE8.out.size))).mono ?_; rintro e w12 ⟨s3, x3, rfl, hF3⟩; have hN3 := Fresh.isNat ⟨s3, x3, rfl, hF3⟩ (by omega); have hk := Four'.call hk hN3.2; have hBw := hBw.trans (hN3.2.mono hBw.size))
        | (go_at_call 31; refine (RMul.out _ _ _ (HX8.out.below hBw) (HY8.out.below hBw)).mono ?_; rintro e w13 ⟨s4, rfl, hs4, hb13⟩; have hk := Four'.call hk hb13; have hBw := hBw.trans (hb13.mono hBw.size))
        | (go_at_call_of 18 s3; refine (isw_nat s3 s4 _ 80 _ (IsNat.below hN3.1 hb13) (mul_lt hsB.out) (by decide) hs4).mono ?_; rintro e w14 ⟨rfl, hb14⟩; have hk := Four'.call hk hb14; have hBw := hBw.trans (hb14.mono hBw.size))
        | (go_at_call 11; refine (awake2_any _ (HT.out.call (hE8.out.trans (hBw.mono hE8.out.size)))).mono ?_; rintro e w15 ⟨rfl, hb15⟩; have hk := Four'.call hk hb15; have hBw := hBw.trans (hb15.mono hBw.size)))
    have hE := hE8.out.trans (hBw.mono hE8.out.size)
    clear hk hBw
    go_wp2_with fail
    go_ret
    exact ⟨ret_bool (by simp), hE⟩
  · refine (HSubN.out _ hE4.out (by omega)).mono ?_; rintro e w5 ⟨rfl, hb5⟩
    have hcm2 : ¬ 0 ≤ cmpI (wv z0) (wv z1) := fun h => hle (cmpI_ge.1 h)
    have hcm3 : decide (0 ≤ cmpI (wv z0) (wv z1)) = false := decide_eq_false hcm2
    have hE5 := Lib.hid (hE4.out.trans (hb5.mono hE4.out.size))
    have HX5 := Lib.hid (HX4.out.below hb5)
    have HY5 := Lib.hid (HY4.out.below hb5)
    have hF5 := Lib.hid (Four'.call hF4.out hb5)
    clear hb5 HX4 HY4 hF4 hE4 HSubY HSubN hr0 hr1 hq0 hq1 hs0 hs1
    have RCm := Lib.hid (RCmp.out w5 _ _ HX5.out HY5.out)
    generalize cmpI (wv z0) (wv z1) = cm at *
    obtain ⟨f1, f2, f3, f4⟩ := hF5.out
    go_wp2_with fail
    refine (RCm.out).mono ?_; rintro e w8 ⟨rfl, hb6⟩
    have hE8 := Lib.hid (hE5.out.trans (hb6.mono hE5.out.size))
    have HX8 := Lib.hid (HX5.out.below hb6)
    have HY8 := Lib.hid (HY5.out.below hb6)
    have hF8 := Lib.hid (Four'.call hF5.out hb6)
    clear hb6 hE5 HX5 HY5 hF5 RCm RCmp RSub f1 f2 f3 f4 hle
    go_wp2_with fail
    clear hcm2 hcm3
    have hk : Four' w3.heap.size (.bool xb) (.slice xp xl xc) (.bool yb) (.slice yp yl yc) w8.drew := Four'.call hF8.out (Below.refl _ _).drew
    have hBw : Below w8.heap.size w8 w8.drew := (Below.refl _ _).drew
    go_region_held3 (fun w' => w'.cell? ⟨w3.heap.size, 0, none⟩ = some (.bool xb) ∧ w'.cell? ⟨w3.heap.size, 1, none⟩ = some (.slice xp xl xc) ∧ w'.cell? ⟨w3.heap.size + 1, 0, none⟩ = some (.bool yb) ∧ w'.cell? ⟨w3.heap.size + 1, 1, none⟩ = some (.slice yp yl yc))
      (with_reducible exact hk)
      (first
        | (go_at_call 28; refine (HAdd.out _ (hE8.out.trans (hBw.mono hE8.out.size))).mono ?_; rintro e w9 ⟨s1, x1, rfl, hF1⟩; have hN1 := Fresh.isNat ⟨s1, x1, rfl, hF1⟩ (by omega); have hk := Four'.call hk hN1.2; have hBw := hBw.trans (hN1.2.mono hBw.size))
        | (go_at_call 29; refine (RAdd.out _ _ _ (HX8.out.below hBw) (HY8.out.below hBw)).mono ?_; rintro e w10 ⟨s2, rfl, hs2, hb10⟩; have hk := Four'.call hk hb10; have hBw := hBw.trans (hb10.mono hBw.size))
        | (go_at_call_of 18 s1; refine (isw_nat s1 s2 _ 41 _ (IsNat.below hN1.1 hb10) (sum_lt hsB.out) (by decide) hs2).mono ?_; rintro e w11 ⟨rfl, hb11⟩; have hk := Four'.call hk hb11; have hBw := hBw.trans (hb11.mono hBw.size))
        | (go_at_call 30; refine (HMul.out _ (hE8.out.trans (hBw.mono hE8.out.size))).mono ?_; rintro e w12 ⟨s3, x3, rfl, hF3⟩; have hN3 := Fresh.isNat ⟨s3, x3, rfl, hF3⟩ (by omega); have hk := Four'.call hk hN3.2; have hBw := hBw.trans (hN3.2.mono hBw.size))
        | (go_at_call 31; refine (RMul.out _ _ _ (HX8.out.below hBw) (HY8.out.below hBw)).mono ?_; rintro e w13 ⟨s4, rfl, hs4, hb13⟩; have hk := Four'.call hk hb13; have hBw := hBw.trans (hb13.mono hBw.size))
        | (go_at_call_of 18 s3; refine (isw_nat s3 s4 _ 80 _ (IsNat.below hN3.1 hb13) (mul_lt hsB.out) (by decide) hs4).mono ?_; rintro e w14 ⟨rfl, hb14⟩; have hk := Four'.call hk hb14; have hBw := hBw.trans (hb14.mono hBw.size))
        | (go_at_call 11; refine (awake2_any _ (HT.out.call (hE8.out.trans (hBw.mono hE8.out.size)))).mono ?_; rintro e w15 ⟨rfl, hb15⟩; have hk := Four'.call hk hb15; have hBw := hBw.trans (hb15.mono hBw.size)))
    have hE := hE8.out.trans (hBw.mono hE8.out.size)
    clear hk hBw
    go_wp2_with fail
    go_ret
    exact ⟨ret_bool (by simp), hE⟩
theorem walk (a0 : Option Addr) (len0 cap0 : Nat) (z0 : List Int) (a1 : Option Addr) (len1 cap1 : Nat) (z1 : List Int) (w : World) (g0 : Given .u32 w (.slice a0 len0 cap0) z0) (m0 : len0 ≤ 9223372036854775807) (g1 : Given .u32 w (.slice a1 len1 cap1) z1) (m1 : len1 ≤ 9223372036854775807) (hT : Tab w) :
    Calls Tryd.prog 4 #[.slice a0 len0 cap0, .slice a1 len1 cap1] w fun e w' => e = .returned (.bool true) ∧ Below w.heap.size w w' := by
  have l0 := len_max g0
  have l1 := len_max g1
  by_cases h : len0 ≤ 40 ∧ len1 ≤ 40
  · exact walk_short a0 len0 cap0 z0 a1 len1 cap1 z1 w (g0.wlist (by omega)) (g1.wlist (by omega)) l0 l1 hT h.1 h.2
  · exact walk_long a0 len0 cap0 a1 len1 cap1 w hT (by omega) m0 m1
set_option maxRecDepth 100000 in
theorem lifted (os : Os) (started : os.Started) (H : Type) (enc : TypeId × Value → H) :
    ReturnsInHanded {} Tryd.checked os 4 .any (fun w args => (Rows.natSumsSpec.pre enc Tryd.prog Tryd.f4 [] false w args ∧ laidMetH Tryd.prog laid2 w) ∧ sizedMet enc Tryd.prog Tryd.f4 (OpenSpec.ofChange Rows.natSumsSpec) false w args)
      (Rows.natSumsSpec.post enc Tryd.prog Tryd.f4 false true false false) := by
  refine returnsInHanded_of_change_and (C := Tryd.checked) (X := fun w _ => laidMetH Tryd.prog laid2 w) (fun _ _ _ hh h => h.of_heap hh) own2 started (by kernel_rfl) Tryd.func4
    (ChangeSpec.witness_shaped (enc := enc) (C := Tryd.checked) (os := os) (X := fun w _ => laidMetH Tryd.prog laid2 w) false (World.doorLaid Tryd.prog 400 os) #[.slice none 0 0, .slice none 0 0] 8 rfl (World.shaped_of_RefB (by kernel_rfl) (by kernel_rfl)) (by kernel_rfl) (by kernel_rfl) (by kernel_rfl) (door_met2 os _)) ?_
  intro W base args ds gs before hval0 hW _ _ hL _
  have hTab := tab_of hL
  have hval : ∀ (j : Nat) t v, Tryd.f4.params[j]? = some t → args[j]? = some v → Value.okWide Tryd.prog W .any base t v := hval0
  have hW' := hW
  obtain ⟨p, q, hA0, hV, rfl, hfz, hnd⟩ := hW
  have hA : DataW.TrodAll enc Tryd.prog W 0 (fun _ => true) true Tryd.f4.params.toList args.toList ds p := hA0
  rw [Tryd.params4] at hA hval
  obtain ⟨v0, vs0, d0, ds0, p0, q0, hargs, rfl, rfl, h0, r0⟩ := trodAll_cons hA
  obtain ⟨v1, vs1, d1, ds1, p1, q1, rfl, rfl, rfl, h1, r1⟩ := trodAll_cons r0
  obtain ⟨rfl, rfl, rfl⟩ := trodAll_nil r1
  obtain rfl : args = #[v0, v1] := by cases args; simp_all
  obtain ⟨rfl, rfl⟩ := trodVars_none hV
  obtain ⟨a0, len0, cap0, rfl⟩ := okWide_slice Tryd.underlying22 (hval 0 22 v0 rfl rfl)
  have k0 := h0
  have lt0 : ∀ x ∈ p0, x.block < W.heap.size := by obtain ⟨m, hm⟩ := k0; exact DataW.trod_lt m _ _ _ hm
  obtain ⟨z0, w0, m0⟩ : ∃ zs, Given .u32 W (.slice a0 len0 cap0) zs ∧ len0 ≤ 9223372036854775807 := by
    obtain ⟨fuel, hf⟩ := h0
    rcases open_ints Tryd.underlying22 Tryd.underlying31 (by kernel_rfl) hf with ⟨hcs, _⟩ | ⟨x, l, c, zs, hcs, _, hl, hm, hz, _, hcell, hwz⟩
    · simp [Value.cells] at hcs
      obtain ⟨rfl, rfl, rfl⟩ := hcs
      exact ⟨[], given_nil, by decide⟩
    · simp [Value.cells] at hcs
      obtain ⟨rfl, rfl, rfl⟩ := hcs
      exact ⟨_, given_row hl (by simpa using hz) hcell hwz, by unfold maxLen at hm; omega⟩
  obtain ⟨a1, len1, cap1, rfl⟩ := okWide_slice Tryd.underlying22 (hval 1 22 v1 rfl rfl)
  have k1 := h1
  have lt1 : ∀ x ∈ p1, x.block < W.heap.size := by obtain ⟨m, hm⟩ := k1; exact DataW.trod_lt m _ _ _ hm
  obtain ⟨z1, w1, m1⟩ : ∃ zs, Given .u32 W (.slice a1 len1 cap1) zs ∧ len1 ≤ 9223372036854775807 := by
    obtain ⟨fuel, hf⟩ := h1
    rcases open_ints Tryd.underlying22 Tryd.underlying31 (by kernel_rfl) hf with ⟨hcs, _⟩ | ⟨x, l, c, zs, hcs, _, hl, hm, hz, _, hcell, hwz⟩
    · simp [Value.cells] at hcs
      obtain ⟨rfl, rfl, rfl⟩ := hcs
      exact ⟨[], given_nil, by decide⟩
    · simp [Value.cells] at hcs
      obtain ⟨rfl, rfl, rfl⟩ := hcs
      exact ⟨_, given_row hl (by simpa using hz) hcell hwz, by unfold maxLen at hm; omega⟩
  clear hA0 hval0
  refine (walk a0 len0 cap0 z0 a1 len1 cap1 z1 W w0 m0 w1 m1 hTab).mono fun e W' ⟨he, bel⟩ => ?_
  subst he
  exact ⟨_, rfl, _, _, _, [], _, [], hW', trodAll_mk1 (shut_bool Tryd.underlying4 _), (trodAll_cons_mk (Below.trod laidOut2 (by kernel_rfl) (of_decide_eq_true (by kernel_rfl)) k0 bel lt0) (trodAll_cons_mk (Below.trod laidOut2 (by kernel_rfl) (of_decide_eq_true (by kernel_rfl)) k1 bel lt1) trodAll_mk0)), rfl, bel.frame _, fun h => by cases h⟩

theorem over : Rows.natSumsRow.holds Tryd.pinned (OpenSpec.ofChange Rows.natSumsSpec) :=
  OpenClaim.holds_of_wide 4 Tryd.f4 rfl rfl rfl rfl rfl rfl rfl ⟨rfl, rfl, rfl, rfl, rfl⟩ rfl rfl rfl rfl rfl (by kernel_rfl) Tryd.func4 (by kernel_rfl)
    (of_decide_eq_true (by kernel_rfl)) (by unfold Func.isWrapper; first | (rw [if_pos (by decide +kernel)]; kernel_rfl) | (rw [if_neg (by decide +kernel)]; exact ⟨rfl, rfl⟩))
    (fun os started H enc _ => lifted os started H enc)
theorem row_holds : Rows.NatSumsSaid := over
end Go.Proofs.YtfaglcfoamfelaaDoor.natSums
namespace Go.Proofs.YtfaglcfoamfelaaDoor
/-- The statement: the tied card. -/
theorem natSums_holds : Rows.NatSumsCardSaid :=
  Claim7.holds_tied_plain_at .later [] [.data] true _ false
    natSums.row_holds (fun _ h => by cases h) (by kernel_rfl) (fun _ h => by cases h) natSums_row_tie rfl ⟨rfl, rfl⟩ (by kernel_rfl) rfl
    (fun f fn hf hfn => by
      obtain rfl : f = 4 := Option.some.inj ((show Tryd.prog.funcNamed "bushel/bushellaw02.NatSums" = some 4 by kernel_rfl).symm.trans hf) |>.symm
      obtain rfl : fn = Tryd.f4 := (Option.some.inj (Tryd.func4.symm.trans hfn)).symm
      exact ⟨by kernel_rfl, fun j t ht => by
        rw [Tryd.params4] at ht
        have hm : t ∈ [22, 22] := by simpa using Array.mem_of_getElem? ht
        have hall : ([22, 22].all fun u => !Tryd.prog.wantsStandIn u) = true := by kernel_rfl
        exact (show Tryd.prog.wantsStandIn t = false by simpa using List.all_eq_true.1 hall t hm)⟩)
    (by kernel_rfl)
#print axioms natSums_holds
end Go.Proofs.YtfaglcfoamfelaaDoor
