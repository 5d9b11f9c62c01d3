/- LatticeTells: for any two sets the statement's function returns true and changes nothing that was there. No condition. -/
import Derived.Test.YtdopgpijbilffaaRows
import Derived.Test.YtdopgpijbilffaaLatp
import Derived.WalkKit
import Derived.ProofKit
import Derived.OpenShut
import Derived.Below
namespace Go.Proofs.Ytdopgpijbilffaa.latticeTells
set_option maxRecDepth 100000
open Go.ChangeShapes Go.WideShapes Go.ChangeAt Go.RowKit
set_option linter.unusedVariables false
theorem own : ownKnob Try.prog.godebug = none := by kernel_rfl
theorem laidOut : laidOutB Try.prog = true := by kernel_rfl
theorem nat_of32 {x : Int} (h : (Lit.int .u32 x).wf = true) : ∃ n : Nat, x = n ∧ n < 4294967296 := by
  have := wf_u32 h
  exact ⟨x.toNat, by omega, by omega⟩
set_option maxHeartbeats 8000000 in
theorem walk (a0 a1 : Int) (w : World) (w0 : (Lit.int .u32 a0).wf = true) (w1 : (Lit.int .u32 a1).wf = true) :
    Calls Try.prog 3 #[.int .u32 a0, .int .u32 a1] w fun e w' => e = .returned (.bool true) ∧ Below w.heap.size w w' := by
  have HA := Lib.hid (fun w => awake17_any w)
  obtain ⟨a, rfl, ha⟩ := nat_of32 w0
  obtain ⟨b, rfl, hb⟩ := nat_of32 w1
  clear w0 w1
  have HP := Lib.hid (pbetween_any w a b ha hb)
  have HS := Lib.hid (fun w => rsub17_any w a b ha hb)
  have HS2 := Lib.hid (fun w => psub_any w a b ha hb)
  have HC := Lib.hid (fun w => pcount_any w a ha)
  have HC2 := Lib.hid (fun w => rcount_any w a ha)
  have HC3 := Lib.hid (fun w => rcount_any w b hb)
  by_cases hs : subN a b = true
  · have hmn := cnt_minus 32 a b hs
    by_cases hc : cntN 32 (b - a) ≤ 12
    · have HR := Lib.hid (fun w => rbetween_any w a b ha hb hs hc)
      have HM := Lib.hid (fun w u v l hu hv hl => masks17_any u v l w hu hv hl)
      have HBL := Lib.hid (show (betN a b).length ≤ 1000000 by rw [bet_len]; exact Nat.le_trans (pow12 hc) (by decide))
      rw [betP_ok hs hc] at HP
      rw [hs] at HS HS2
      generalize betN a b = Z at *
      generalize cntN 32 (b - a) = c at *
      have hk : cntN 32 b = c + cntN 32 a := hmn.symm
      rw [hk] at HC3
      generalize cntN 32 a = na at *
      have hna : ((na : Int) != (na : Int)) = false := by simp
      have h12 : ¬ (12 : Int) < ((c + na : Nat) : Int) - (na : Int) := by omega
      have hct : c ≤ 12 := hc
      have hwr : wrap64 (((c + na : Nat) : Int) - (na : Int)) = (c : Int) := by rw [show ((c + na : Nat) : Int) - (na : Int) = (c : Int) by omega]; unfold wrap64; omega
      have hc' : ¬ (12 : Int) < (c : Int) := by omega
      clear hs hmn hk hc
      go_enter Try.func3, Try.ntmps3
      go_wp2_with fail
      refine Calls.mono HP.out ?_; rintro e w1 ⟨⟨v, rfl, ⟨pa, pc, rfl⟩, hv⟩, hb1⟩
      have HV := Lib.hid hv
      have HB1 := Lib.hid hb1
      clear hv hb1 HP
      go_wp2_with fail
      refine Calls.mono (HS.out _) ?_; rintro e w2 ⟨rfl, rfl⟩
      go_wp2_with fail
      refine Calls.mono (HS2.out _) ?_; rintro e w2 ⟨rfl, rfl⟩
      go_wp2_with fail
      refine Calls.mono (HC.out _) ?_; rintro e w2 ⟨rfl, hd⟩
      have HB2 := Lib.hid (below_then HB1.out hd.below)
      have HV2 := Lib.hid (HV.out.below hd.below)
      clear hd HB1 HV
      go_wp2_with fail
      refine Calls.mono (HC2.out _) ?_; rintro e w3 ⟨rfl, rfl⟩
      go_wp2_with fail
      refine Calls.mono (HC3.out _) ?_; rintro e w3 ⟨rfl, rfl⟩
      go_wp2_with fail
      refine Calls.mono (HC2.out _) ?_; rintro e w3 ⟨rfl, rfl⟩
      go_wp2_with fail
      refine Calls.mono (HR.out _) ?_; rintro e w4 ⟨⟨u, rfl, hu⟩, hb4⟩
      have HB4 := Lib.hid (below_then HB2.out hb4)
      have HM4 := Lib.hid (HM.out w4 _ _ Z (HV2.out.below hb4) hu HBL.out)
      obtain ⟨qa, qc, rfl⟩ := hu.len
      clear hu hb4 HB2 HV2 HM HR
      go_wp2_with fail
      refine Calls.mono HM4.out ?_; rintro e w5 ⟨rfl, hb5⟩
      have HB5 := Lib.hid (below_then HB4.out hb5)
      clear hb5 HB4 HM4
      go_wp2_with fail
      refine (HA.out _).mono ?_; rintro e w6 ⟨rfl, hb⟩
      have HZ := Lib.hid (below_then HB5.out hb)
      clear hb
      go_wp2_with fail
      go_ret
      exact ⟨rfl, HZ.out⟩
    · rw [betP_many hs hc] at HP
      rw [hs] at HS HS2
      generalize cntN 32 (b - a) = c at *
      have hk : cntN 32 b = c + cntN 32 a := hmn.symm
      have hcl := cnt_le 32 b
      rw [hk] at HC3 hcl
      generalize cntN 32 a = na at *
      have hna : ((na : Int) != (na : Int)) = false := by simp
      have hwr : wrap64 (((c + na : Nat) : Int) - (na : Int)) = (c : Int) := by rw [show ((c + na : Nat) : Int) - (na : Int) = (c : Int) by omega]; unfold wrap64; omega
      have h12 : (12 : Int) < ((c + na : Nat) : Int) - (na : Int) := by omega
      have hc' : (12 : Int) < (c : Int) := by omega
      clear hs hmn hk hc
      go_enter Try.func3, Try.ntmps3
      go_wp2_with fail
      refine Calls.mono HP.out ?_; rintro e w1 ⟨rfl, hb1⟩
      have HB1 := Lib.hid hb1
      clear hb1 HP
      go_wp2_with fail
      refine Calls.mono (HS.out _) ?_; rintro e w2 ⟨rfl, rfl⟩
      go_wp2_with fail
      refine Calls.mono (HS2.out _) ?_; rintro e w2 ⟨rfl, rfl⟩
      go_wp2_with fail
      refine Calls.mono (HC.out _) ?_; rintro e w2 ⟨rfl, hd⟩
      have HB2 := Lib.hid (below_then HB1.out hd.below)
      clear hd HB1
      go_wp2_with fail
      refine Calls.mono (HC2.out _) ?_; rintro e w3 ⟨rfl, rfl⟩
      go_wp2_with fail
      refine Calls.mono (HC3.out _) ?_; rintro e w3 ⟨rfl, rfl⟩
      go_wp2_with fail
      refine Calls.mono (HC2.out _) ?_; rintro e w3 ⟨rfl, rfl⟩
      go_wp2_with fail
      refine (HA.out _).mono ?_; rintro e w6 ⟨rfl, hb⟩
      have HZ := Lib.hid (below_then HB2.out hb)
      clear hb
      go_wp2_with fail
      go_ret
      exact ⟨rfl, HZ.out⟩
  · rw [betP_no hs] at HP
    rw [eq_false_of_ne_true hs] at HS HS2
    generalize cntN 32 a = na at *
    have hna : ((na : Int) != (na : Int)) = false := by simp
    clear hs HC3
    go_enter Try.func3, Try.ntmps3
    go_wp2_with fail
    refine Calls.mono HP.out ?_; rintro e w1 ⟨rfl, hb1⟩
    have HB1 := Lib.hid hb1
    clear hb1 HP
    go_wp2_with fail
    refine Calls.mono (HS.out _) ?_; rintro e w2 ⟨rfl, rfl⟩
    go_wp2_with fail
    refine Calls.mono (HS2.out _) ?_; rintro e w2 ⟨rfl, rfl⟩
    go_wp2_with fail
    refine Calls.mono (HC.out _) ?_; rintro e w2 ⟨rfl, hd⟩
    have HB2 := Lib.hid (below_then HB1.out hd.below)
    clear hd HB1
    go_wp2_with fail
    refine Calls.mono (HC2.out _) ?_; rintro e w3 ⟨rfl, rfl⟩
    go_wp2_with fail
    refine (HA.out _).mono ?_; rintro e w6 ⟨rfl, hb⟩
    have HZ := Lib.hid (below_then HB2.out hb)
    clear hb
    go_wp2_with fail
    go_ret
    exact ⟨rfl, HZ.out⟩
set_option maxRecDepth 100000 in
theorem lifted (os : Os) (started : os.Started) (H : Type) (enc : TypeId × Value → H) :
    ReturnsInHanded {} Try.checked os 3 .any (Rows.latticeTellsSpec.pre6 enc Try.prog Try.f3 Rows.latticeTellsRow.domain false) (Rows.latticeTellsSpec.post enc Try.prog Try.f3 false true false false) := by
  refine returnsInHanded_of_change (C := Try.checked) own started (by kernel_rfl) Try.func3
    (ChangeSpec.witness6 (enc := enc) (C := Try.checked) false ⟨#[], #[.int .u32 0, .int .u32 0], []⟩ 8 (by kernel_rfl) (by kernel_rfl) (by kernel_rfl) (by kernel_rfl)) ?_
  intro W base args ds gs before hval0 hW hcnd _
  have hval : ∀ (j : Nat) t v, Try.f3.params[j]? = some t → args[j]? = some v → Value.okWide Try.prog W .any base t v := hval0
  have hW' := hW
  obtain ⟨p, q, hA0, hV, rfl, hfz, hnd⟩ := hW
  have hA : DataW.TrodAll enc Try.prog W 0 (fun _ => true) true Try.f3.params.toList args.toList ds p := hA0
  rw [Try.params3] at hA hval
  obtain ⟨v0, vs0, d0, ds0, p0, q0, hargs, rfl, rfl, h0, r0⟩ := trodAll_cons hA
  obtain ⟨v1, vs1, d1, ds1, p1, q1, rfl, rfl, rfl, h1, r1⟩ := trodAll_cons r0
  obtain ⟨rfl, rfl, rfl⟩ := trodAll_nil r1
  obtain rfl : args = #[v0, v1] := by cases args; simp_all
  obtain ⟨rfl, rfl⟩ := trodVars_none hV
  obtain ⟨a0, rfl, rfl, rfl, w0⟩ := open_int Try.underlying22 (hval 0 22 v0 rfl rfl) h0
  obtain ⟨a1, rfl, rfl, rfl, w1⟩ := open_int Try.underlying22 (hval 1 22 v1 rfl rfl) h1
  clear hA0 hval0
  refine (walk a0 a1 W w0 w1).mono fun e W' ⟨he, bel⟩ => ?_
  subst he
  exact ⟨_, rfl, _, _, _, [], _, [], hW', trodAll_mk1 (shut_bool Try.underlying4 _), (trodAll_cons_mk (shut_int Try.underlying22 w0) (trodAll_cons_mk (shut_int Try.underlying22 w1) trodAll_mk0)), rfl, bel.frame _, fun h => by cases h⟩

theorem over : Rows.latticeTellsRow.holds Try.pinned (OpenSpec.ofChange Rows.latticeTellsSpec) :=
  OpenClaim.holds_of_wide 3 Try.f3 rfl rfl rfl rfl rfl rfl rfl ⟨rfl, rfl, rfl, rfl, rfl⟩ rfl rfl rfl rfl rfl (by kernel_rfl) Try.func3 (by kernel_rfl)
    (of_decide_eq_true (by kernel_rfl)) (by unfold Func.isWrapper; first | (rw [if_pos (by decide +kernel)]; kernel_rfl) | (rw [if_neg (by decide +kernel)]; exact ⟨rfl, rfl⟩))
    (fun os started H enc _ => lifted os started H enc)
end Go.Proofs.Ytdopgpijbilffaa.latticeTells
namespace Go.Proofs.Ytdopgpijbilffaa
/-- The statement. -/
theorem latticeTells_holds : Rows.LatticeTellsSaid := latticeTells.over
#print axioms latticeTells_holds
end Go.Proofs.Ytdopgpijbilffaa

