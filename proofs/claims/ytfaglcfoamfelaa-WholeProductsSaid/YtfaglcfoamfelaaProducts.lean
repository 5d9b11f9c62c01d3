/- WholeProducts: for every a and b (int64) the statement's function returns true and changes nothing that was there. No condition. -/
import Derived.Test.YtfaglcfoamfelaaRows
import Derived.Test.YtfaglcfoamfelaaAwake1
import Derived.Test.YtfaglcfoamfelaaDivw
import Derived.Test.YtfaglcfoamfelaaWholec
import Derived.WalkKit
import Derived.ProofKit
import Derived.OpenShut
import Derived.Below
namespace Go.Proofs.Ytfaglcfoamfelaa.wholeProducts
open Go.ChangeShapes Go.WideShapes Go.ChangeAt Go.RowKit
set_option linter.unusedVariables false
theorem own : ownKnob Try.prog.godebug = none := by kernel_rfl
/-- What Div answers. -/
def DivAns (q r : Int) (t : Bool) (w1 : World) (e : Ending) (w' : World) : Prop := e = .returned (.tuple #[.int .i64 q, .int .i64 r, .bool t]) ∧ ∃ n, w' = w1.drewN n
theorem div_case (a b : Int) (a1 : -9223372036854775808 ≤ a) (a2 : a ≤ 9223372036854775807) (b1 : -9223372036854775808 ≤ b) (b2 : b ≤ 9223372036854775807) :
    ∃ q r t, (∀ w1, Calls Try.prog 6 #[.int .i64 a, .int .i64 b] w1 (DivAns q r t w1)) ∧
      ((b = 0 ∧ q = 0 ∧ r = 0 ∧ t = false) ∨ (b ≠ 0 ∧ fitB (a.fdiv b) = false ∧ q = 0 ∧ r = 0 ∧ t = false) ∨ (b ≠ 0 ∧ fitB (a.fdiv b) = true ∧ q = a.fdiv b ∧ r = a.fmod b ∧ t = true)) := by
  by_cases h0 : b = 0
  · exact ⟨0, 0, false, fun w1 => div_none a b w1 (.inl h0), .inl ⟨h0, rfl, rfl, rfl⟩⟩
  · by_cases hx : a = -9223372036854775808 ∧ b = -1
    · exact ⟨0, 0, false, fun w1 => div_none a b w1 (.inr hx), .inr (.inl ⟨h0, by rw [hx.1, hx.2]; rfl, rfl, rfl, rfl⟩)⟩
    · have := floor_fits a b a1 a2 h0 hx
      exact ⟨_, _, true, fun w1 => div_any a b a1 a2 b1 b2 h0 hx w1, .inr (.inr ⟨h0, fitB_yes this.1 this.2, rfl, rfl, rfl⟩)⟩
theorem fmod_fits (a b : Int) (b1 : -9223372036854775808 ≤ b) (b2 : b ≤ 9223372036854775807) (h0 : b ≠ 0) : -9223372036854775808 ≤ a.fmod b ∧ a.fmod b ≤ 9223372036854775807 := by
  have h2 := tmod_bounds a b h0
  by_cases ht : a.tmod b = 0 ∨ (a.tmod b < 0 ↔ b < 0)
  · rw [(floor_same a b h0 ht).2]; omega
  · rw [(floor_other a b h0 (fun e => ht (.inl e)) (fun e => ht (.inr e))).2]
    have h3 : a.tmod b ≠ 0 := fun e => ht (.inl e)
    have h4 : ¬ (a.tmod b < 0 ↔ b < 0) := fun e => ht (.inr e)
    omega
theorem fdiv_sized (a b : Int) (a1 : -9223372036854775808 ≤ a) (a2 : a ≤ 9223372036854775807) (b1 : -9223372036854775808 ≤ b) (b2 : b ≤ 9223372036854775807) (h0 : b ≠ 0) : Sized 8 (a.fdiv b) := by
  by_cases hx : a = -9223372036854775808 ∧ b = -1
  · rw [hx.1, hx.2]; exact sized8 (by decide) (by decide)
  · have := floor_fits a b a1 a2 h0 hx
    exact sized8 (by omega) (by omega)
theorem sized_mul8 {a b : Int} (a1 : -9223372036854775808 ≤ a) (a2 : a ≤ 9223372036854775807) (b1 : -9223372036854775808 ≤ b) (b2 : b ≤ 9223372036854775807) : Sized 16 (a * b) := by
  have h : (a * b).natAbs ≤ 9223372036854775808 * 9223372036854775808 := by
    rw [Int.natAbs_mul]; exact Nat.mul_le_mul (by omega) (by omega)
  have e : (1000 : Int) ^ 16 = 1000000000000000000000000000000000000000000000000 := by decide
  unfold Sized
  rw [e]; omega
set_option maxRecDepth 100000 in
set_option maxHeartbeats 1000000 in
theorem walk (a b : Int) (w0 : (Lit.int .i64 a).wf = true) (w1 : (Lit.int .i64 b).wf = true) (w : World) :
    Calls Try.prog 3 #[.int .i64 a, .int .i64 b] w fun e w' => e = .returned (.bool true) ∧ Below w.heap.size w w' := by
  obtain ⟨a1, a2⟩ := bounds_i64 w0
  obtain ⟨b1, b2⟩ := bounds_i64 w1
  clear w0 w1
  have za : Sized 8 a := sized8 (by omega) (by omega)
  have zb : Sized 8 b := sized8 (by omega) (by omega)
  obtain ⟨q, r, t, HD, hcase⟩ := div_case a b a1 a2 b1 b2
  have HD := Lib.hid HD
  have hcase := Lib.hid hcase
  have HO := Lib.hid (fun (x : Int) (w1 : World) (h1 : -9223372036854775808 ≤ x) (h2 : x ≤ 9223372036854775807) => of_any x w1 h1 h2)
  have HM := Lib.hid (fun w1 => mul_any a b a1 a2 b1 b2 w1)
  have NM := Lib.hid (fun w1 u v (hu : IsNum w1 u a) (hv : IsNum w1 v b) => num_mul u v a b 8 w1 hu hv za zb (by decide))
  have ND := Lib.hid (fun (h0 : b ≠ 0) w1 u v (hu : IsNum w1 u a) (hv : IsNum w1 v b) => num_div u v a b 8 w1 hu hv za zb (by decide) h0)
  have IP := Lib.hid (fun w1 v (hv : IsNum w1 v (a * b)) => is_any v _ 16 w1 hv (sized_mul8 a1 a2 b1 b2) (by decide) (by decide))
  have FT := Lib.hid (fun (h0 : b ≠ 0) w1 v (hv : IsNum w1 v (a.fdiv b)) => num_fits v _ 8 w1 hv (fdiv_sized a b a1 a2 b1 b2 h0) (by decide) (by decide))
  have IQ := Lib.hid (fun (h : fitB (a.fdiv b) = true) w1 v (hv : IsNum w1 v (a.fdiv b)) => num_int v _ w1 hv (fitB_iff.1 h).1 (fitB_iff.1 h).2)
  have IR := Lib.hid (fun (h0 : b ≠ 0) w1 v (hv : IsNum w1 v (a.fmod b)) => num_int v _ w1 hv (fmod_fits a b b1 b2 h0).1 (fmod_fits a b b1 b2 h0).2)
  clear za zb
  go_enter Try.func3, Try.ntmps3
  go_wp2_with fail
  refine (HO.out a _ a1 a2).mono ?_; rintro e w2 ⟨x, rfl, hx, hb2⟩
  go_wp2_with fail
  refine (HO.out b _ b1 b2).mono ?_; rintro e w3 ⟨y, rfl, hy, hb3⟩
  have hx := hx.below hb3
  have hE := Lib.hid (hb2.trans (hb3.mono hb2.size))
  clear hb2 hb3
  obtain ⟨xb, xp, xl, xc, rfl⟩ := hx.shape
  obtain ⟨yb, yp, yl, yc, rfl⟩ := hy.shape
  have HX := Lib.hid hx
  have HY := Lib.hid hy
  clear hx hy
  go_wp2_with fail
  refine (HM.out _).mono ?_; rintro e w' ⟨rfl, rfl⟩
  generalize clip (a * b) = c1 at *
  generalize fitB (a * b) = t1 at *
  go_wp2_with fail
  refine (HD.out _).mono ?_; rintro e w' ⟨rfl, n, rfl⟩
  have hb4 := below_drewN (below_two w3 (.cells #[.bool xb, .slice xp xl xc] 24) (.cells #[.bool yb, .slice yp yl yc] 24)) n
  have hE4 := Lib.hid (hE.out.trans (hb4.mono hE.out.size))
  have HX4 := Lib.hid (HX.out.below hb4)
  have HY4 := Lib.hid (HY.out.below hb4)
  clear hb4 HX HY hE
  go_wp2_with fail
  have hF4 : Four w3.heap.size (.bool xb) (.slice xp xl xc) (.bool yb) (.slice yp yl yc) (((w3.alloc (.cells #[.bool xb, .slice xp xl xc] 24)).alloc (.cells #[.bool yb, .slice yp yl yc] 24)).drewN n) := ⟨by simp [go_sem], by simp [go_sem], by simp [go_sem], by simp [go_sem]⟩
  generalize ((w3.alloc (.cells #[.bool xb, .slice xp xl xc] 24)).alloc (.cells #[.bool yb, .slice yp yl yc] 24)).drewN n = w4 at *
  refine (NM.out _ _ _ HX4.out HY4.out).mono ?_; rintro e w5 ⟨s1, rfl, hs1, hb5⟩
  go_wp2_with fail
  refine (IP.out _ _ hs1).mono ?_; rintro e w6 ⟨rfl, hb6⟩
  have hb46 := hb5.trans (hb6.mono hb5.size)
  have hF6 := Four.call hF4 hb46
  have HX6 := Lib.hid (HX4.out.below hb46)
  have HY6 := Lib.hid (HY4.out.below hb46)
  have hE6 := Lib.hid (hE4.out.trans (hb46.mono hE4.out.size))
  clear hb5 hb6 hb46 hs1 hF4 HX4 HY4 hE4 NM IP HM HO HD
  obtain ⟨hx0, hx1, hy0, hy1⟩ := hF6
  rcases hcase.out with ⟨rfl, rfl, rfl, rfl⟩ | ⟨h0, hf, rfl, rfl, rfl⟩ | ⟨h0, hf, rfl, rfl, rfl⟩
  · go_wp2_with (go_at_call 9; refine (awake_any _).mono ?_; rintro e w15 ⟨rfl, hb15⟩)
    go_ret
    exact ⟨ret_bool (by simp), hE6.out.trans (hb15.mono hE6.out.size)⟩
  all_goals
    have FT1 := Lib.hid (FT.out h0)
    have ND1 := Lib.hid (ND.out h0)
    have IR1 := Lib.hid (IR.out h0)
    have IQ1 := Lib.hid (fun h => IQ.out h)
    clear FT ND IR IQ hcase
    have h0b : (b == 0) = false := by simpa using h0
    clear h0
    go_wp2_with fail
    refine (ND1.out _ _ _ HX6.out HY6.out).mono ?_; rintro e w7 ⟨v1, v2, rfl, hv1, hv2, hb7⟩
    obtain ⟨zb, zp, zl, zc, rfl⟩ := hv1.shape
    obtain ⟨kb, kp, kl, kc, rfl⟩ := hv2.shape
    have hb8 := below_two w7 (.cells #[.bool zb, .slice zp zl zc] 24) (.cells #[.bool kb, .slice kp kl kc] 24)
    have HV1 := Lib.hid (hv1.below hb8)
    have HV2 := Lib.hid (hv2.below hb8)
    have hb68 := hb7.trans (hb8.mono hb7.size)
    have hE8 := Lib.hid (hE6.out.trans (hb68.mono hE6.out.size))
    clear hv1 hv2 hb7 hb8 hb68 HX6 HY6 hE6 ND1 hx0 hx1 hy0 hy1
    go_wp2_with fail
    have hG8 : ((w7.alloc (.cells #[.bool zb, .slice zp zl zc] 24)).alloc (.cells #[.bool kb, .slice kp kl kc] 24)).cell? ⟨w7.heap.size, 0, none⟩ = some (.bool zb) ∧ ((w7.alloc (.cells #[.bool zb, .slice zp zl zc] 24)).alloc (.cells #[.bool kb, .slice kp kl kc] 24)).cell? ⟨w7.heap.size, 1, none⟩ = some (.slice zp zl zc) := ⟨by simp [go_sem], by simp [go_sem]⟩
    have hG9 : ((w7.alloc (.cells #[.bool zb, .slice zp zl zc] 24)).alloc (.cells #[.bool kb, .slice kp kl kc] 24)).cell? ⟨w7.heap.size + 1, 0, none⟩ = some (.bool kb) ∧ ((w7.alloc (.cells #[.bool zb, .slice zp zl zc] 24)).alloc (.cells #[.bool kb, .slice kp kl kc] 24)).cell? ⟨w7.heap.size + 1, 1, none⟩ = some (.slice kp kl kc) := ⟨by simp [go_sem], by simp [go_sem]⟩
    generalize (w7.alloc (.cells #[.bool zb, .slice zp zl zc] 24)).alloc (.cells #[.bool kb, .slice kp kl kc] 24) = w8 at *
    refine (FT1.out _ _ HV1.out).mono ?_; rintro e w9 ⟨rfl, hb9⟩
    have hE9 := Lib.hid (hE8.out.trans (hb9.mono hE8.out.size))
    have HV1 := Lib.hid (HV1.out.below hb9)
    have HV2 := Lib.hid (HV2.out.below hb9)
    have hG8 : Four w7.heap.size (.bool zb) (.slice zp zl zc) (.bool kb) (.slice kp kl kc) w9 := Four.call ⟨hG8.1, hG8.2, hG9.1, hG9.2⟩ hb9
    clear hE8 hb9 hG9 FT1
    obtain ⟨g1, g2, g3, g4⟩ := hG8
    rw [hf]
  · clear hf
    go_wp2_with (go_at_call 9; refine (awake_any _).mono ?_; rintro e w15 ⟨rfl, hb15⟩)
    go_ret
    exact ⟨ret_bool (by simp), hE9.out.trans (hb15.mono hE9.out.size)⟩
  · have IQ2 := Lib.hid (IQ1.out hf)
    clear hf IQ1
    go_wp2_with fail
    refine (IQ2.out _ _ HV1.out).mono ?_; rintro e w10 ⟨rfl, hb10⟩
    have hE10 := Lib.hid (hE9.out.trans (hb10.mono hE9.out.size))
    have HV2 := Lib.hid (HV2.out.below hb10)
    have g3 := cell_later hb10 g3
    have g4 := cell_later hb10 g4
    clear hb10 hE9 HV1
    go_wp2_with fail
    refine (IR1.out _ _ HV2.out).mono ?_; rintro e w11 ⟨rfl, hb11⟩
    have hE11 := Lib.hid (hE10.out.trans (hb11.mono hE10.out.size))
    clear hb11 hE10 g3 g4 HV2
    go_wp2_with (go_at_call 9; refine (awake_any _).mono ?_; rintro e w15 ⟨rfl, hb15⟩)
    go_ret
    exact ⟨ret_bool (by simp), hE11.out.trans (hb15.mono hE11.out.size)⟩
set_option maxRecDepth 100000 in
theorem lifted (os : Os) (started : os.Started) (H : Type) (enc : TypeId × Value → H) :
    ReturnsInHanded {} Try.checked os 3 .any (Rows.wholeProductsSpec.pre6 enc Try.prog Try.f3 Rows.wholeProductsRow.domain false) (Rows.wholeProductsSpec.post enc Try.prog Try.f3 false true false false) := by
  refine returnsInHanded_of_change (C := Try.checked) own started (by kernel_rfl) Try.func3
    (ChangeSpec.witness6 (enc := enc) (C := Try.checked) false ⟨#[], #[.int .i64 0, .int .i64 0], []⟩ 8 (by kernel_rfl) (by kernel_rfl) (by kernel_rfl) (by kernel_rfl)) ?_
  intro W base args ds gs before hval0 hW hcnd _
  have hval : ∀ (j : Nat) t v, Try.f3.params[j]? = some t → args[j]? = some v → Value.okWide Try.prog W .any base t v := hval0
  have hW' := hW
  obtain ⟨p, q, hA0, hV, rfl, hfz, hnd⟩ := hW
  have hA : DataW.TrodAll enc Try.prog W 0 (fun _ => true) true Try.f3.params.toList args.toList ds p := hA0
  rw [Try.params3] at hA hval
  obtain ⟨v0, vs0, d0, ds0, p0, q0, hargs, rfl, rfl, h0, r0⟩ := trodAll_cons hA
  obtain ⟨v1, vs1, d1, ds1, p1, q1, rfl, rfl, rfl, h1, r1⟩ := trodAll_cons r0
  obtain ⟨rfl, rfl, rfl⟩ := trodAll_nil r1
  obtain rfl : args = #[v0, v1] := by cases args; simp_all
  obtain ⟨rfl, rfl⟩ := trodVars_none hV
  obtain ⟨a0, rfl, rfl, rfl, w0⟩ := open_int Try.underlying2 (hval 0 2 v0 rfl rfl) h0
  obtain ⟨a1, rfl, rfl, rfl, w1⟩ := open_int Try.underlying2 (hval 1 2 v1 rfl rfl) h1
  clear hA0 hval0
  simp only [List.append_nil] at hW'
  refine (walk a0 a1 w0 w1 W).mono fun e W' ⟨he, bel⟩ => ?_
  subst he
  exact ⟨_, rfl, _, _, _, [], _, [], hW', trodAll_mk1 (shut_bool Try.underlying4 _), (trodAll_cons_mk (shut_int Try.underlying2 w0) (trodAll_cons_mk (shut_int Try.underlying2 w1) trodAll_mk0)), rfl, bel.frame _, fun h => by cases h⟩

theorem over : Rows.wholeProductsRow.holds Try.pinned (OpenSpec.ofChange Rows.wholeProductsSpec) :=
  OpenClaim.holds_of_wide 3 Try.f3 rfl rfl rfl rfl rfl rfl rfl ⟨rfl, rfl, rfl, rfl, rfl⟩ rfl rfl rfl rfl rfl (by kernel_rfl) Try.func3 (by kernel_rfl)
    (of_decide_eq_true (by kernel_rfl)) (by unfold Func.isWrapper; first | (rw [if_pos (by decide +kernel)]; kernel_rfl) | (rw [if_neg (by decide +kernel)]; exact ⟨rfl, rfl⟩))
    (fun os started H enc _ => lifted os started H enc)
end Go.Proofs.Ytfaglcfoamfelaa.wholeProducts
namespace Go.Proofs.Ytfaglcfoamfelaa
/-- The statement. -/
theorem wholeProducts_holds : Rows.WholeProductsSaid := wholeProducts.over
#print axioms wholeProducts_holds
end Go.Proofs.Ytfaglcfoamfelaa
