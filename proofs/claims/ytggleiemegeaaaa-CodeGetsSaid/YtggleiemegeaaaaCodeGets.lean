/- CodeGets: for any slice of bytes the statement's function returns true and changes nothing that was there. No condition. -/
import Derived.Test.YtggleiemegeaaaaRows
import Derived.Test.YtggleiemegeaaaaCodeo
import Derived.Test.YtggleiemegeaaaaCodel
import Derived.WalkKit
import Derived.ProofKit
import Derived.OpenShut
import Derived.Below
namespace Go.Proofs.Ytggleiemegeaaaa.codeGets
set_option maxRecDepth 100000
open Go.ChangeShapes Go.WideShapes Go.ChangeAt Go.RowKit
set_option linter.unusedVariables false
theorem own : ownKnob Try.prog.godebug = none := by kernel_rfl
theorem laidOut : laidOutB Try.prog = true := by kernel_rfl
set_option maxHeartbeats 8000000 in
theorem walk (a0 : Option Addr) (len0 cap0 : Nat) (z0 : List Int) (w : World) (w0 : Given .u8 w (.slice a0 len0 cap0) z0) :
    Calls Try.prog 5 #[.slice a0 len0 cap0] w fun e w' => e = .returned (.bool true) ∧ Below w.heap.size w w' := by
  have HA := Lib.hid (fun w => awake7_any w)
  have l0 := len_max w0
  by_cases h0 : 300 < len0
  · have i0 : (300 : Int) < (len0 : Int) := by omega
    go_enter Try.func5, Try.ntmps5
    go_wp2_with fail
    refine (HA.out _).mono ?_; rintro e w1 ⟨rfl, hb⟩
    have HB := Lib.hid hb
    clear hb
    go_wp2_with fail
    go_ret
    exact ⟨rfl, HB.out⟩
  · have i0 : ¬ (300 : Int) < (len0 : Int) := by omega
    have HU := Lib.hid (fun w1 (h : Below w.heap.size w w1) => pgetU_any _ z0 w1 (w0.1.below h) w0.byt (by omega))
    have HU2 := Lib.hid (fun w1 (h : Below w.heap.size w w1) => rgetU_any _ z0 w1 (w0.1.below h) w0.byt (by omega))
    have HI := Lib.hid (fun w1 (h : Below w.heap.size w w1) => pgetI_any _ z0 w1 (w0.1.below h) w0.byt (by omega))
    have HI2 := Lib.hid (fun w1 (h : Below w.heap.size w w1) => rgetI_any _ z0 w1 (w0.1.below h) w0.byt (by omega))
    have HF := Lib.hid (fun w1 (h : Below w.heap.size w w1) => pgetF_any _ z0 w1 (w0.1.below h) w0.byt (by omega))
    have HF2 := Lib.hid (fun w1 (h : Below w.heap.size w w1) => rgetF_any _ z0 w1 (w0.1.below h) w0.byt (by omega))
    have HT := Lib.hid (fun w1 (h : Below w.heap.size w w1) => pgetT_any _ z0 w1 (w0.1.below h) w0.byt (by omega))
    have HT2 := Lib.hid (fun w1 (h : Below w.heap.size w w1) => rgetT_any _ z0 w1 (w0.1.below h) w0.byt (by omega))
    have HK := Lib.hid (fun h => keyed_from (getF_keyed (b := z0) h))
    generalize getU z0 = ru at *
    generalize getI z0 = ri at *
    generalize getF z0 = rf at *
    generalize getT z0 [] 0 = rt at *
    obtain ⟨xu, nu, eu⟩ := ru
    obtain ⟨xi, ni, ei⟩ := ri
    obtain ⟨kf, ef⟩ := rf
    obtain ⟨st, nt, et⟩ := rt
    unfold tripT at HT HT2
    simp only at HT HT2 HK
    generalize strB st = S at *
    clear w0
    go_enter Try.func5, Try.ntmps5
    go_wp2_with fail
    refine (HU.out _ (Below.refl _ _)).mono ?_; rintro e w1 ⟨rfl, hb⟩
    have HB1 := Lib.hid hb
    clear hb
    unfold trip
    go_wp2_with fail
    refine (HU2.out _ HB1.out).mono ?_; rintro e w2 ⟨rfl, rfl⟩
    unfold trip
    go_wp2_with fail
    refine (HI.out _ HB1.out).mono ?_; rintro e w2 ⟨rfl, hb⟩
    have HB2 := Lib.hid (below_then HB1.out hb)
    clear hb
    unfold tripI
    go_wp2_with fail
    refine (HI2.out _ HB2.out).mono ?_; rintro e w3 ⟨rfl, hb⟩
    have HB3 := Lib.hid (below_then HB2.out hb)
    clear hb
    unfold tripI
    go_wp2_with fail
    refine (HF.out _ HB3.out).mono ?_; rintro e w4 ⟨rfl, hb⟩
    have HB4 := Lib.hid (below_then HB3.out hb)
    clear hb
    by_cases he : ef = 0
    · subst he
      obtain ⟨k1, k2, k3, k4, k5⟩ := HK.out rfl
      unfold tripF
      simp only [if_true]
      have HKy := Lib.hid (fun w => rkey_any (fromN kf) w k1)
      rw [k2] at HKy
      generalize fromN kf = xf at *
      clear k1 k2 k3 k4 k5
      go_wp2_with fail
      refine (HF2.out _ HB4.out).mono ?_; rintro e w5 ⟨rfl, hd⟩
      have HB4 := Lib.hid (below_then HB4.out hd.below)
      clear hd
      unfold pairF
      go_wp2_with fail
      refine (HKy.out _).mono ?_; rintro e w5 ⟨rfl, hd⟩
      have HB5 := Lib.hid (below_then HB4.out hd.below)
      clear hd
      go_wp2_with fail
      refine (HT.out _ HB5.out).mono ?_; rintro e w6 ⟨rfl, hb⟩
      have HB6 := Lib.hid (below_then HB5.out hb)
      clear hb
      go_wp2_with fail
      refine (HT2.out _ HB6.out).mono ?_; rintro e w7 ⟨rfl, rfl⟩
      go_wp2_with fail
      refine (HA.out _).mono ?_; rintro e w8 ⟨rfl, hb⟩
      have HB7 := Lib.hid (below_then HB6.out hb)
      clear hb
      go_wp2_with fail
      go_ret
      exact ⟨rfl, HB7.out⟩
    · have hne : ((ef : Int) == 0) = false := by simp; omega
      unfold tripF
      simp only [he, if_false]
      have HSm := Lib.hid (fun w => rsame_any 0 0 w (by unfold W64; decide) (by unfold W64; decide))
      rw [show sameB 0 0 = true by decide] at HSm
      go_wp2_with fail
      refine (HF2.out _ HB4.out).mono ?_; rintro e w5 ⟨rfl, hd⟩
      have HB4 := Lib.hid (below_then HB4.out hd.below)
      clear hd
      unfold pairF
      go_wp2_with fail
      refine (HSm.out _).mono ?_; rintro e w5 ⟨rfl, hd⟩
      have HB5 := Lib.hid (below_then HB4.out hd.below)
      clear hd
      go_wp2_with fail
      refine (HT.out _ HB5.out).mono ?_; rintro e w6 ⟨rfl, hb⟩
      have HB6 := Lib.hid (below_then HB5.out hb)
      clear hb
      go_wp2_with fail
      refine (HT2.out _ HB6.out).mono ?_; rintro e w7 ⟨rfl, rfl⟩
      go_wp2_with fail
      refine (HA.out _).mono ?_; rintro e w8 ⟨rfl, hb⟩
      have HB7 := Lib.hid (below_then HB6.out hb)
      clear hb
      go_wp2_with fail
      go_ret
      exact ⟨rfl, HB7.out⟩
set_option maxRecDepth 100000 in
theorem lifted (os : Os) (started : os.Started) (H : Type) (enc : TypeId × Value → H) :
    ReturnsInHanded {} Try.checked os 5 .any (Rows.codeGetsSpec.pre6 enc Try.prog Try.f5 Rows.codeGetsRow.domain false) (Rows.codeGetsSpec.post enc Try.prog Try.f5 false true false false) := by
  refine returnsInHanded_of_change (C := Try.checked) own started (by kernel_rfl) Try.func5
    (ChangeSpec.witness6 (enc := enc) (C := Try.checked) false ⟨#[], #[.slice none 0 0], []⟩ 8 (by kernel_rfl) (by kernel_rfl) (by kernel_rfl) (by kernel_rfl)) ?_
  intro W base args ds gs before hval0 hW hcnd _
  have hval : ∀ (j : Nat) t v, Try.f5.params[j]? = some t → args[j]? = some v → Value.okWide Try.prog W .any base t v := hval0
  have hW' := hW
  obtain ⟨p, q, hA0, hV, rfl, hfz, hnd⟩ := hW
  have hA : DataW.TrodAll enc Try.prog W 0 (fun _ => true) true Try.f5.params.toList args.toList ds p := hA0
  rw [Try.params5] at hA hval
  obtain ⟨v0, vs0, d0, ds0, p0, q0, hargs, rfl, rfl, h0, r0⟩ := trodAll_cons hA
  obtain ⟨rfl, rfl, rfl⟩ := trodAll_nil r0
  obtain rfl : args = #[v0] := by cases args; simp_all
  obtain ⟨rfl, rfl⟩ := trodVars_none hV
  obtain ⟨a0, len0, cap0, rfl⟩ := okWide_slice Try.underlying26 (hval 0 26 v0 rfl rfl)
  have k0 := h0
  have lt0 : ∀ x ∈ p0, x.block < W.heap.size := by obtain ⟨m, hm⟩ := k0; exact DataW.trod_lt m _ _ _ hm
  obtain ⟨z0, w0⟩ : ∃ zs, Given .u8 W (.slice a0 len0 cap0) zs := by
    obtain ⟨fuel, hf⟩ := h0
    rcases open_ints Try.underlying26 Try.underlying5 (by kernel_rfl) hf with ⟨hcs, _⟩ | ⟨x, l, c, zs, hcs, _, hl, hm, hz, _, hcell, hwz⟩
    · simp [Value.cells] at hcs
      obtain ⟨rfl, rfl, rfl⟩ := hcs
      exact ⟨[], given_nil⟩
    · simp [Value.cells] at hcs
      obtain ⟨rfl, rfl, rfl⟩ := hcs
      exact ⟨_, given_row hl (by simpa using hz) hcell hwz⟩
  clear hA0 hval0
  refine (walk a0 len0 cap0 z0 W w0).mono fun e W' ⟨he, bel⟩ => ?_
  subst he
  exact ⟨_, rfl, _, _, _, [], _, [], hW', trodAll_mk1 (shut_bool Try.underlying4 _), (trodAll_cons_mk (Below.trod laidOut (by kernel_rfl) (of_decide_eq_true (by kernel_rfl)) k0 bel lt0) trodAll_mk0), rfl, bel.frame _, fun h => by cases h⟩

theorem over : Rows.codeGetsRow.holds Try.pinned (OpenSpec.ofChange Rows.codeGetsSpec) :=
  OpenClaim.holds_of_wide 5 Try.f5 rfl rfl rfl rfl rfl rfl rfl ⟨rfl, rfl, rfl, rfl, rfl⟩ rfl rfl rfl rfl rfl (by kernel_rfl) Try.func5 (by kernel_rfl)
    (of_decide_eq_true (by kernel_rfl)) (by unfold Func.isWrapper; first | (rw [if_pos (by decide +kernel)]; kernel_rfl) | (rw [if_neg (by decide +kernel)]; exact ⟨rfl, rfl⟩))
    (fun os started H enc _ => lifted os started H enc)
end Go.Proofs.Ytggleiemegeaaaa.codeGets
namespace Go.Proofs.Ytggleiemegeaaaa
/-- The statement. -/
theorem codeGets_holds : Rows.CodeGetsSaid := codeGets.over
#print axioms codeGets_holds
end Go.Proofs.Ytggleiemegeaaaa
