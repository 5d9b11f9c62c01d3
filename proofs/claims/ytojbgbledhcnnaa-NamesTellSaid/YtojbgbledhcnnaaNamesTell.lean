/- NamesTell: for any text the statement's function returns true and changes nothing that was there. No condition. -/
import Derived.Test.YtojbgbledhcnnaaNamh
import Derived.ProofKit
import Derived.ChangeMaps5
namespace Go.Proofs.Ytojbgbledhcnnaa.namesTell
set_option maxRecDepth 100000
open Go.ChangeShapes Go.WideShapes Go.ChangeAt Go.RowKit
set_option linter.unusedVariables false
theorem own : ownKnob Try.prog.godebug = none := by kernel_rfl
theorem laidOut : laidOutB Try.prog = true := by kernel_rfl
set_option maxHeartbeats 2000000 in
theorem walk (s : ByteArray) (w : World) (hs : s.size ≤ maxLen) :
    Calls Try.prog 3 #[.string s] w fun e w' => e = .returned (.bool true) ∧ Below w.heap.size w w' := by
  have HA := Lib.hid (fun w => awake10_any w)
  have HI := Lib.hid (fun w => is_any s w hs)
  have HJ := Lib.hid (fun w => ris_any s w hs)
  have HW := Lib.hid (fun w => word_any s w)
  have HX := Lib.hid (fun w => rwords_any w)
  have HY := Lib.hid (fun w => words_any w)
  have HP := Lib.hid (fun v w h => rplace_any v wordsL s w h)
  have HS := Lib.hid (fun u v w hu hv => rsame_any u v wordsL w hu hv)
  unfold NewList at HX HY
  generalize nameB s = r at *
  generalize placeL wordsL s = p at *
  generalize wordsL = l at *
  have q1 : (r == r) = true := by simp
  have q2 : (decide (0 ≤ p) == decide (0 ≤ p)) = true := by simp
  go_enter Try.func3, Try.ntmps3
  go_wp2_with fail
  refine (HI.out _).mono ?_; rintro e w1 ⟨rfl, b1⟩
  have B1 := Lib.hid b1
  clear b1
  go_wp2_with fail
  refine (HJ.out _).mono ?_; rintro e w2 ⟨rfl, b1⟩
  have B2 := Lib.hid (below_then B1.out b1)
  clear b1
  go_wp2_with fail
  refine (HW.out _).mono ?_; rintro e w3 ⟨rfl, b1⟩
  have B3 := Lib.hid (below_then B2.out b1)
  clear b1
  go_wp2_with fail
  refine (HX.out _).mono ?_; rintro e w4 ⟨v, rfl, hv, b1⟩
  have B4 := Lib.hid (below_then B3.out b1)
  have HC := Lib.hid (HP.out _ _ hv)
  obtain ⟨a, cap, rfl, -⟩ := hv
  clear b1
  go_wp2_with fail
  refine (HC.out).mono ?_; rintro e w5 ⟨rfl, rfl⟩
  go_wp2_with fail
  refine (HY.out _).mono ?_; rintro e w6 ⟨v, rfl, hv, b1⟩
  have B6 := Lib.hid (below_then B4.out b1)
  have HV := Lib.hid hv
  clear b1
  obtain ⟨a', cap', rfl, -⟩ := hv
  go_wp2_with fail
  refine (HX.out _).mono ?_; rintro e w7 ⟨v, rfl, hv, b1⟩
  have B7 := Lib.hid (below_then B6.out b1)
  have HC2 := Lib.hid (HS.out _ _ _ (HV.out.below b1) hv)
  obtain ⟨a'', cap'', rfl, -⟩ := hv
  clear b1
  go_wp2_with fail
  refine (HC2.out).mono ?_; rintro e w8 ⟨rfl, b1⟩
  have B8 := Lib.hid (below_then B7.out b1.below)
  clear b1
  go_wp2_with fail
  refine (HA.out _).mono ?_; rintro e w9 ⟨rfl, b1⟩
  have B9 := Lib.hid (below_then B8.out b1)
  clear b1
  go_wp2_with fail
  go_ret
  exact ⟨rfl, B9.out⟩
set_option maxRecDepth 100000 in
theorem lifted (os : Os) (started : os.Started) (H : Type) (enc : TypeId × Value → H) :
    ReturnsInHanded {} Try.checked os 3 .any (Rows.namesTellSpec.pre6 enc Try.prog Try.f3 Rows.namesTellRow.domain false) (Rows.namesTellSpec.post enc Try.prog Try.f3 false true false false) := by
  refine returnsInHanded_of_change (C := Try.checked) own started (by kernel_rfl) Try.func3
    (ChangeSpec.witness6 (enc := enc) (C := Try.checked) false ⟨#[], #[.string ByteArray.empty], []⟩ 8 (by kernel_rfl) (by kernel_rfl) (by kernel_rfl) (by kernel_rfl)) ?_
  intro W base args ds gs before hval0 hW hcnd _
  have hval : ∀ (j : Nat) t v, Try.f3.params[j]? = some t → args[j]? = some v → Value.okWide Try.prog W .any base t v := hval0
  have hW' := hW
  obtain ⟨p, q, hA0, hV, rfl, hfz, hnd⟩ := hW
  have hA : DataW.TrodAll enc Try.prog W 0 (fun _ => true) true Try.f3.params.toList args.toList ds p := hA0
  rw [Try.params3] at hA hval
  obtain ⟨v0, vs0, d0, ds0, p0, q0, hargs, rfl, rfl, h0, r0⟩ := trodAll_cons hA
  obtain ⟨rfl, rfl, rfl⟩ := trodAll_nil r0
  obtain rfl : args = #[v0] := by cases args; simp_all
  obtain ⟨rfl, rfl⟩ := trodVars_none hV
  obtain ⟨a0, rfl, rfl, rfl, w0⟩ := Go.ChangeMaps.open_string Try.underlying9 (hval 0 9 v0 rfl rfl) h0
  clear hA0 hval0
  refine (walk a0 W w0).mono fun e W' ⟨he, bel⟩ => ?_
  subst he
  exact ⟨_, rfl, _, _, _, [], _, [], hW', trodAll_mk1 (shut_bool Try.underlying4 _), (trodAll_cons_mk (Go.ChangeMaps.shut_string Try.underlying9 w0) trodAll_mk0), rfl, bel.frame _, fun h => by cases h⟩

theorem over : Rows.namesTellRow.holds Try.pinned (OpenSpec.ofChange Rows.namesTellSpec) :=
  OpenClaim.holds_of_wide 3 Try.f3 rfl rfl rfl rfl rfl rfl rfl ⟨rfl, rfl, rfl, rfl, rfl⟩ rfl rfl rfl rfl rfl (by kernel_rfl) Try.func3 (by kernel_rfl)
    (of_decide_eq_true (by kernel_rfl)) (by unfold Func.isWrapper; first | (rw [if_pos (by decide +kernel)]; kernel_rfl) | (rw [if_neg (by decide +kernel)]; exact ⟨rfl, rfl⟩))
    (fun os started H enc _ => lifted os started H enc)
end Go.Proofs.Ytojbgbledhcnnaa.namesTell
namespace Go.Proofs.Ytojbgbledhcnnaa
/-- The statement. -/
theorem namesTell_holds : Rows.NamesTellSaid := namesTell.over
#print axioms namesTell_holds
end Go.Proofs.Ytojbgbledhcnnaa
