/- FloSteps: for any two floats the statement's function returns true and changes nothing that was there. No condition; the row lists the two tables of math/bits as the program's text lays them. -/
import Derived.Test.YtpfcacjcikhamaaDoorRows
import Derived.Test.YtpfcacjcikhamaaDoorCards
import Derived.Test.YtpfcacjcikhamaaDoorTie
import Derived.Test.YtpfcacjcikhamaaDoorFlon
import Derived.SevenTiedAt
namespace Go.Proofs.YtpfcacjcikhamaaDoor.floSteps
set_option maxRecDepth 100000
open Go.ChangeShapes Go.WideShapes Go.ChangeAt Go.RowKit
set_option linter.unusedVariables false
theorem w64_of {a : Nat} (h : (Lit.float .f64 a).wf = true) : W64 a := by
  simpa [Lit.wf, W64] using h
theorem up_w64 (x : Nat) : W64 (upN x) := by
  unfold upN
  cases isNaNB (fromN (upK x)) with
  | true => show W64 9221120237041090561; decide
  | false =>
    have h : 0 ≤ upK x ∧ upK x < 18446744073709551616 := by unfold upK; omega
    show W64 (fromN (upK x))
    unfold W64 fromN
    by_cases e : upK x = 18446744073709551615
    · rw [if_pos e]; decide
    · rw [if_neg e]
      by_cases g : 9223372036854775808 ≤ upK x
      · rw [if_pos g]; omega
      · rw [if_neg g]; omega
/-- Behind NaN and behind infinity there is NaN alone. -/
theorem up_nan {x : Nat} (h : isNaNB x = true ∨ x = 9218868437227405312) : isNaNB (upN x) = true := by
  rcases h with h | h
  · have : keyI x = 18446744073709551615 := by unfold keyI; rw [if_pos h]
    unfold upN upK
    rw [this]; decide
  · subst h; decide
/-- The key behind is the next one. -/
theorem up_key {x : Nat} (hx : W64 x) (hn : isNaNB x = false) (hi : x ≠ 9218868437227405312) : isNaNB (upN x) = false ∧ keyI (upN x) = keyI x + 1 ∧ 0 ≤ keyI x ∧ keyI x ≤ 18446744073709551614 := by
  have hkey : keyI x + 1 ≤ 18442240474082181120 ∧ 4503599627370495 ≤ keyI x := by
    rcases key_cases hx with ⟨a1, a2⟩ | ⟨a1, a2, a3, a4, a5, a6, a7⟩ | ⟨a1, a2, a3, a4, a5, a6⟩
    · rw [hn] at a1; cases a1
    · omega
    · omega
  have hk : upK x = keyI x + 1 := by unfold upK; omega
  have hb : isNaNB (fromN (keyI x + 1)) = false := by
    unfold fromN
    rw [if_neg (by omega)]
    by_cases g : 9223372036854775808 ≤ keyI x + 1
    · rw [if_pos g]; unfold isNaNB; simp; omega
    · rw [if_neg g]; unfold isNaNB; simp; omega
  have hu : upN x = fromN (keyI x + 1) := by unfold upN; rw [hk, hb]; rfl
  rw [hu]
  refine ⟨hb, ?_, by omega, by omega⟩
  have hw : W64 (fromN (keyI x + 1)) := by rw [← hu]; exact up_w64 x
  generalize hkk : keyI x + 1 = k at *
  rcases key_cases hw with ⟨a1, a2⟩ | ⟨a1, a2, a3, a4, a5, a6, a7⟩ | ⟨a1, a2, a3, a4, a5, a6⟩
  · rw [hb] at a1; cases a1
  · rw [a6]
    unfold fromN at a4 a5 ⊢
    rw [if_neg (by omega)] at a4 a5 ⊢
    by_cases g : 9223372036854775808 ≤ k
    · rw [if_pos g] at a4 a5 ⊢; omega
    · rw [if_neg g] at a4 a5 ⊢; omega
  · rw [a5]
    unfold fromN at a4 ⊢
    rw [if_neg (by omega)] at a4 ⊢
    by_cases g : 9223372036854775808 ≤ k
    · rw [if_pos g] at a4 ⊢; omega
    · rw [if_neg g] at a4 ⊢; omega
set_option maxHeartbeats 4000000 in
theorem walk (x y : Nat) (wx : (Lit.float .f64 x).wf = true) (wy : (Lit.float .f64 y).wf = true) (w : World) (hT : Tab w) (hT2 : Tab64 w) :
    Calls Tryd.prog 9 #[.float .f64 x, .float .f64 y] w fun e w' => e = .returned (.bool true) ∧ Below w.heap.size w w' := by
  have hx := w64_of wx
  have hy := w64_of wy
  have U := Lib.hid (fun w => up_any x w hx)
  have K := Lib.hid (fun w => rkind_any x w hx)
  have KU := Lib.hid (fun w => rkind_any (upN x) w (up_w64 x))
  have HA : Hid (∀ w1, Drawn w w1 → Calls Tryd.prog 34 #[] w1 fun e w' => e = .returned (.bool true) ∧ Below w.heap.size w w') := Lib.hid (fun w1 h => (awake3_any w1 (hT.call h.below) (hT2.call h.below)).mono (fun e w' ⟨h1, h2⟩ => ⟨h1, h.below.trans (h2.mono h.below.size)⟩))
  have k3 := kind_nan x
  have ku := kind_nan (upN x)
  clear wx wy hT hT2
  have hend : (isNaNB x = true ∨ x = 9218868437227405312) ∨ (isNaNB x = false ∧ x ≠ 9218868437227405312) := by
    by_cases e : x = 9218868437227405312
    · exact .inl (.inr e)
    · cases h : isNaNB x with
      | true => exact .inl (.inl rfl)
      | false => exact .inr ⟨rfl, e⟩
  rcases hend with hend | ⟨hn, hi⟩
  · have hun := up_nan hend
    rw [hun] at ku
    have hcase : (kindI x == 3) = true ∨ ((kindI x == 3) = false ∧ (kindI x == 2) = true ∧ (FloatKind.f64.format.order x 0 == some .gt) = true) := by
      rcases hend with h | h
      · exact .inl (by rw [k3, h])
      · subst h; exact .inr ⟨by decide, by decide, by decide +kernel⟩
    generalize upN x = u at *
    generalize kindI x = kx at *
    generalize kindI u = kU at *
    clear k3 hun hend hx hy
    rcases hcase with hc | ⟨hc1, hc2, hc3⟩
    all_goals
      go_enter Tryd.func9, Tryd.ntmps9
      go_wp2_with (first
        | ((with_reducible refine (U.out _).mono ?_); rintro e w' ⟨rfl, rfl⟩)
        | ((with_reducible refine (K.out _).mono ?_); rintro e w' ⟨rfl, n, rfl⟩)
        | ((with_reducible refine (KU.out _).mono ?_); rintro e w' ⟨rfl, n, rfl⟩)
        | ((with_reducible refine (HA.out _ (by repeat (first | exact Drawn.refl _ | apply Drawn.next))).mono ?_); rintro e w' ⟨rfl, hE⟩))
      go_ret
      exact ⟨rfl, hE⟩
  · obtain ⟨hu1, hu2, hp0, hp1⟩ := up_key hx hn hi
    rw [hu1] at ku
    have ku2 : (kindI (upN x) != 3) = true := bne_of ku
    rw [hn] at k3
    have L1 := Lib.hid (fun w => rless_any x (upN x) w hx (up_w64 x))
    have L2 := Lib.hid (fun w => rless_any x y w hx hy)
    have L3 := Lib.hid (fun w => rless_any y (upN x) w hy (up_w64 x))
    have R1 := Lib.hid (fun w => rkey_any (upN x) w (up_w64 x))
    have R2 := Lib.hid (fun w => rkey_any x w hx)
    have e1 : lessB x (upN x) = true := by unfold lessB; rw [hu2]; simp; omega
    have e23 : lessB x y = false ∨ (lessB x y = true ∧ lessB y (upN x) = false) := by
      unfold lessB; rw [hu2]
      by_cases h : keyI x < keyI y
      · exact .inr ⟨by simpa using h, by simp; omega⟩
      · exact .inl (by simpa using h)
    rw [e1] at L1
    rw [hu2] at R1
    have hcase : (kindI x == 2) = false ∨ ((kindI x == 2) = true ∧ (FloatKind.f64.format.order x 0 == some .gt) = false) := by
      cases h : (kindI x == 2) with
      | false => exact .inl rfl
      | true =>
        refine .inr ⟨rfl, ?_⟩
        rw [ord_gt (notNan_of hx hn) (y := 0) ⟨by decide, by decide⟩, skey_pos (x := 0) (by omega)]
        have h2 : isInfB x = true := by
          unfold kindI at h
          rw [hn] at h
          cases hh : isInfB x with
          | true => rfl
          | false => rw [hh] at h; cases hz : isZeroB x <;> rw [hz] at h <;> simp at h
        unfold isInfB at h2
        simp only [decide_eq_true_eq] at h2
        unfold W64 at hx
        have : 9223372036854775808 ≤ x := by omega
        rw [skey_neg this]; simp; omega
    generalize lessB x y = l2 at *
    generalize lessB y (upN x) = l3 at *
    generalize upN x = u at *
    generalize kindI x = kx at *
    generalize kindI u = kU at *
    generalize keyI x = p at *
    clear hu1 hu2 hn hi hx hy e1 ku
    rcases hcase with hc2 | ⟨hc2, hc3⟩ <;> rcases e23 with rfl | ⟨rfl, rfl⟩
    all_goals
      go_enter Tryd.func9, Tryd.ntmps9
      go_wp2_with (first
        | ((with_reducible refine (U.out _).mono ?_); rintro e w' ⟨rfl, rfl⟩)
        | ((with_reducible refine (K.out _).mono ?_); rintro e w' ⟨rfl, n, rfl⟩)
        | ((with_reducible refine (KU.out _).mono ?_); rintro e w' ⟨rfl, n, rfl⟩)
        | ((with_reducible refine (L1.out _).mono ?_); rintro e w' ⟨rfl, n, rfl⟩)
        | ((with_reducible refine (L2.out _).mono ?_); rintro e w' ⟨rfl, n, rfl⟩)
        | ((with_reducible refine (L3.out _).mono ?_); rintro e w' ⟨rfl, n, rfl⟩)
        | ((with_reducible refine (R1.out _).mono ?_); rintro e w' ⟨rfl, n, rfl⟩)
        | ((with_reducible refine (R2.out _).mono ?_); rintro e w' ⟨rfl, n, rfl⟩)
        | ((with_reducible refine (HA.out _ (by repeat (first | exact Drawn.refl _ | apply Drawn.next))).mono ?_); rintro e w' ⟨rfl, hE⟩))
      go_ret
      exact ⟨rfl, hE⟩
set_option maxRecDepth 100000 in
theorem lifted (os : Os) (started : os.Started) (H : Type) (enc : TypeId × Value → H) :
    ReturnsInHanded {} Tryd.checked os 9 .any (fun w args => (Rows.floStepsSpec.pre enc Tryd.prog Tryd.f9 [] false w args ∧ laidMetH Tryd.prog laid3 w) ∧ sizedMet enc Tryd.prog Tryd.f9 (OpenSpec.ofChange Rows.floStepsSpec) false w args)
      (Rows.floStepsSpec.post enc Tryd.prog Tryd.f9 false true false false) := by
  refine returnsInHanded_of_change_and (C := Tryd.checked) (X := fun w _ => laidMetH Tryd.prog laid3 w) (fun _ _ _ hh h => h.of_heap hh) own2 started (by kernel_rfl) Tryd.func9
    (ChangeSpec.witness_shaped (enc := enc) (C := Tryd.checked) (os := os) (X := fun w _ => laidMetH Tryd.prog laid3 w) false (World.doorLaid Tryd.prog 800 os) #[.float .f64 0, .float .f64 0] 8 rfl (World.shaped_of_RefB (by kernel_rfl) (by kernel_rfl)) (by kernel_rfl) (by kernel_rfl) (by kernel_rfl) (door_met3 os _)) ?_
  intro W base args ds gs before hval0 hW _ _ hL _
  have hTab := tab_of3 hL
  have hTab64 := tab64_of3 hL
  have hval : ∀ (j : Nat) t v, Tryd.f9.params[j]? = some t → args[j]? = some v → Value.okWide Tryd.prog W .any base t v := hval0
  have hW' := hW
  obtain ⟨p, q, hA0, hV, rfl, hfz, hnd⟩ := hW
  have hA : DataW.TrodAll enc Tryd.prog W 0 (fun _ => true) true Tryd.f9.params.toList args.toList ds p := hA0
  rw [Tryd.params9] at hA hval
  obtain ⟨v0, vs0, d0, ds0, p0, q0, hargs, rfl, rfl, h0, r0⟩ := trodAll_cons hA
  obtain ⟨v1, vs1, d1, ds1, p1, q1, rfl, rfl, rfl, h1, r1⟩ := trodAll_cons r0
  obtain ⟨rfl, rfl, rfl⟩ := trodAll_nil r1
  obtain rfl : args = #[v0, v1] := by cases args; simp_all
  obtain ⟨rfl, rfl⟩ := trodVars_none hV
  obtain ⟨a0, rfl, rfl, rfl, w0⟩ := open_float Tryd.underlying53 (hval 0 53 v0 rfl rfl) h0
  obtain ⟨a1, rfl, rfl, rfl, w1⟩ := open_float Tryd.underlying53 (hval 1 53 v1 rfl rfl) h1
  clear hA0 hval0
  simp only [List.append_nil] at hW'
  refine (walk a0 a1 w0 w1 W hTab hTab64).mono fun e W' ⟨he, bel⟩ => ?_
  subst he
  exact ⟨_, rfl, _, _, _, [], _, [], hW', trodAll_mk1 (shut_bool Tryd.underlying4 _), (trodAll_cons_mk (shut_float Tryd.underlying53 w0) (trodAll_cons_mk (shut_float Tryd.underlying53 w1) trodAll_mk0)), rfl, bel.frame _, fun h => by cases h⟩

theorem over : Rows.floStepsRow.holds Tryd.pinned (OpenSpec.ofChange Rows.floStepsSpec) :=
  OpenClaim.holds_of_wide 9 Tryd.f9 rfl rfl rfl rfl rfl rfl rfl ⟨rfl, rfl, rfl, rfl, rfl⟩ rfl rfl rfl rfl rfl (by kernel_rfl) Tryd.func9 (by kernel_rfl)
    (of_decide_eq_true (by kernel_rfl)) (by unfold Func.isWrapper; first | (rw [if_pos (by decide +kernel)]; kernel_rfl) | (rw [if_neg (by decide +kernel)]; exact ⟨rfl, rfl⟩))
    (fun os started H enc _ => lifted os started H enc)
theorem row_holds : Rows.FloStepsSaid := over
end Go.Proofs.YtpfcacjcikhamaaDoor.floSteps
namespace Go.Proofs.YtpfcacjcikhamaaDoor
/-- The statement: the tied card. -/
theorem floSteps_holds : Rows.FloStepsCardSaid :=
  Claim7.holds_tied_plain_at .later [] [.data, .data] true _ false
    floSteps.row_holds (fun _ h => by cases h) (by kernel_rfl) (fun _ h => by cases h) floSteps_row_tie rfl ⟨rfl, rfl⟩ (by kernel_rfl) rfl
    (fun f fn hf hfn => by
      obtain rfl : f = 9 := Option.some.inj ((show Tryd.prog.funcNamed "bushel/bushellaw03.FloSteps" = some 9 by kernel_rfl).symm.trans hf) |>.symm
      obtain rfl : fn = Tryd.f9 := (Option.some.inj (Tryd.func9.symm.trans hfn)).symm
      exact ⟨by kernel_rfl, fun j t ht => by
        rw [Tryd.params9] at ht
        have hm : t ∈ [53, 53] := by simpa using Array.mem_of_getElem? ht
        have hall : ([53, 53].all fun u => !Tryd.prog.wantsStandIn u) = true := by kernel_rfl
        exact (show Tryd.prog.wantsStandIn t = false by simpa using List.all_eq_true.1 hall t hm)⟩)
    (by kernel_rfl)
#print axioms floSteps_holds
end Go.Proofs.YtpfcacjcikhamaaDoor
