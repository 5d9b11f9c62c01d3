/- ExactNobody: for any float the statement's function returns true and changes nothing that was there. No condition; the row lists the two tables of math/bits as the program's text lays them. -/
import Derived.Test.YtboinjkeaffboaaDoorRows
import Derived.Test.YtboinjkeaffboaaDoorCards
import Derived.Test.YtboinjkeaffboaaDoorTie
import Derived.Test.YtboinjkeaffboaaDoorExk
import Derived.SevenTiedAt
namespace Go.Proofs.YtboinjkeaffboaaDoor.exactNobody
set_option maxRecDepth 100000
open Go.ChangeShapes Go.WideShapes Go.ChangeAt Go.RowKit
set_option linter.unusedVariables false
set_option maxHeartbeats 4000000 in
theorem walk (x : Nat) (wx : (Lit.float .f64 x).wf = true) (w : World) (hT : Tab w) (hT2 : Tab64 w) :
    Calls Tryd.prog 8 #[.float .f64 x] w fun r w' => r = .returned (.bool true) ∧ Below w.heap.size w w' := by
  have HX := Lib.hid (show W64 x by simpa [Lit.wf, W64] using wx)
  have HT := Lib.hid (fun w1 (h : Below w.heap.size w w1) => And.intro (hT.call h) (hT2.call h))
  have HA := Lib.hid (fun w1 (h : Below w.heap.size w w1) => awake5_any w1 (hT.call h) (hT2.call h))
  have hS := rsame_any 0 0
  rw [same_self] at hS
  have HS := Lib.hid (fun w3 => hS w3 (by decide) (by decide))
  clear hT hT2 wx hS
  go_enter Tryd.func8, Tryd.ntmps8
  go_wp2_with fail
  go_loopw [3] (fun i wr => ∃ k : Nat, k ≤ 2 ∧ i = .int .i64 k ∧ Hid (Below w.heap.size w wr)) (fun i _ => 2 - (intOf i).toNat)
  case atStart => exact ⟨0, by decide, rfl, Lib.hid (Below.refl _ _)⟩
  case round =>
    obtain ⟨k, hk, rfl, hb⟩ := hrel
    have hcase : k = 0 ∨ k = 1 ∨ k = 2 := by omega
    rcases hcase with rfl | rfl | rfl
    · have HNo := Lib.hid (noSum_nil wr)
      have HW := hb
      generalize wr = W at *
      go_wp2_with fail
      refine (xnew_any _).mono ?_; rintro e w1 ⟨rfl, rfl⟩
      have hO := sum_new W
      have hBo := below_one W (.cells #[.slice none 0 0, .bool false, .int .u8 0, .bool true] 60)
      have HWb := Lib.hid (below_then HW.out hBo)
      have hNo := HNo.out.below hBo
      have hne : W.heap.size < (W.alloc (.cells #[.slice none 0 0, .bool false, .int .u8 0, .bool true] 60)).heap.size := by simp
      generalize hWW : W.alloc (.cells #[.slice none 0 0, .bool false, .int .u8 0, .bool true] 60) = W1 at *
      have HO1 := Lib.hid hO
      have HNo1 := Lib.hid hNo
      clear hO hBo hNo hne hWW HNo HW
      go_wp2_with fail
      refine (add_no W1 none x HNo1.out HX.out (HT.out W1 HWb.out).2).mono ?_; rintro e w2 ⟨rfl, hb2⟩
      have HWb2 := Lib.hid (below_then HWb.out hb2)
      have HO2 := Lib.hid (HO1.out.below hb2)
      have HNo2 := Lib.hid (HNo1.out.below hb2)
      clear hb2 HWb HO1 HNo1
      go_wp2_with fail
      refine (join_no1 w2 none (some ⟨W.heap.size, 0, none⟩) HNo2.out).mono ?_; rintro e w3 ⟨rfl, rfl⟩
      go_wp2_with fail
      refine (join_no2 w2 W.heap.size 0 0 none HO2.out HNo2.out).mono ?_; rintro e w3 ⟨rfl, rfl⟩
      go_wp2_with fail
      refine (value_no w2 none HNo2.out).mono ?_; rintro e w3 ⟨rfl, rfl⟩
      go_wp2_with fail
      refine (HS.out w2).mono ?_; rintro e w3 ⟨rfl, hd⟩
      have HWb3 := Lib.hid (below_then HWb2.out hd.below)
      have HO3 := Lib.hid (HO2.out.below hd.below)
      have HNo3 := Lib.hid (HNo2.out.below hd.below)
      clear hd HWb2 HO2 HNo2
      go_wp2_with fail
      refine (mean_no w3 none HNo3.out).mono ?_; rintro e w4 ⟨rfl, rfl⟩
      go_wp2_with fail
      refine (HS.out w3).mono ?_; rintro e w4 ⟨rfl, hd⟩
      have HWb4 := Lib.hid (below_then HWb3.out hd.below)
      have HO4 := Lib.hid (HO3.out.below hd.below)
      have HNo4 := Lib.hid (HNo3.out.below hd.below)
      clear hd HWb3 HO3 HNo3
      go_wp2_with fail
      refine (bytes_no w4 none HNo4.out).mono ?_; rintro e w5 ⟨rfl, rfl⟩
      go_wp2_with fail
      refine (pbytes_any w4 W.heap.size 0 0 [0, 0, 0] HO4.out enc_zero (HT.out w4 HWb4.out).1).mono ?_; rintro e w5 ⟨⟨v, rfl, ho⟩, hb5⟩
      have HWb5 := Lib.hid (below_then HWb4.out hb5)
      obtain ⟨pa, pc, rfl⟩ := own_slice ho
      clear ho hb5 HWb4 HO4 HNo4
      go_wp2_with fail
      go_roundw
      case rel => exact ⟨1, by decide, rfl, HWb5⟩
      case measure => simp [intOf]
    · have HNo := Lib.hid (noSum_made (wr.alloc (.cells #[.slice none 0 0, .bool false, .int .u8 0, .bool false] 60)) wr.heap.size (.slice none 0 0) false 0 (Cells4.new wr _ _ _ _))
      have HW := Lib.hid (below_then hb.out (below_one wr (.cells #[.slice none 0 0, .bool false, .int .u8 0, .bool false] 60)))
      go_wp2_with fail
      generalize wr.heap.size = N0 at *
      generalize wr.alloc (.cells #[.slice none 0 0, .bool false, .int .u8 0, .bool false] 60) = W at *
      go_wp2_with fail
      refine (xnew_any _).mono ?_; rintro e w1 ⟨rfl, rfl⟩
      have hO := sum_new W
      have hBo := below_one W (.cells #[.slice none 0 0, .bool false, .int .u8 0, .bool true] 60)
      have HWb := Lib.hid (below_then HW.out hBo)
      have hNo := HNo.out.below hBo
      have hne : W.heap.size < (W.alloc (.cells #[.slice none 0 0, .bool false, .int .u8 0, .bool true] 60)).heap.size := by simp
      generalize hWW : W.alloc (.cells #[.slice none 0 0, .bool false, .int .u8 0, .bool true] 60) = W1 at *
      have HO1 := Lib.hid hO
      have HNo1 := Lib.hid hNo
      clear hO hBo hNo hne hWW HNo HW
      go_wp2_with fail
      refine (add_no W1 (some ⟨N0, 0, none⟩) x HNo1.out HX.out (HT.out W1 HWb.out).2).mono ?_; rintro e w2 ⟨rfl, hb2⟩
      have HWb2 := Lib.hid (below_then HWb.out hb2)
      have HO2 := Lib.hid (HO1.out.below hb2)
      have HNo2 := Lib.hid (HNo1.out.below hb2)
      clear hb2 HWb HO1 HNo1
      go_wp2_with fail
      refine (join_no1 w2 (some ⟨N0, 0, none⟩) (some ⟨W.heap.size, 0, none⟩) HNo2.out).mono ?_; rintro e w3 ⟨rfl, rfl⟩
      go_wp2_with fail
      refine (join_no2 w2 W.heap.size 0 0 (some ⟨N0, 0, none⟩) HO2.out HNo2.out).mono ?_; rintro e w3 ⟨rfl, rfl⟩
      go_wp2_with fail
      refine (value_no w2 (some ⟨N0, 0, none⟩) HNo2.out).mono ?_; rintro e w3 ⟨rfl, rfl⟩
      go_wp2_with fail
      refine (HS.out w2).mono ?_; rintro e w3 ⟨rfl, hd⟩
      have HWb3 := Lib.hid (below_then HWb2.out hd.below)
      have HO3 := Lib.hid (HO2.out.below hd.below)
      have HNo3 := Lib.hid (HNo2.out.below hd.below)
      clear hd HWb2 HO2 HNo2
      go_wp2_with fail
      refine (mean_no w3 (some ⟨N0, 0, none⟩) HNo3.out).mono ?_; rintro e w4 ⟨rfl, rfl⟩
      go_wp2_with fail
      refine (HS.out w3).mono ?_; rintro e w4 ⟨rfl, hd⟩
      have HWb4 := Lib.hid (below_then HWb3.out hd.below)
      have HO4 := Lib.hid (HO3.out.below hd.below)
      have HNo4 := Lib.hid (HNo3.out.below hd.below)
      clear hd HWb3 HO3 HNo3
      go_wp2_with fail
      refine (bytes_no w4 (some ⟨N0, 0, none⟩) HNo4.out).mono ?_; rintro e w5 ⟨rfl, rfl⟩
      go_wp2_with fail
      refine (pbytes_any w4 W.heap.size 0 0 [0, 0, 0] HO4.out enc_zero (HT.out w4 HWb4.out).1).mono ?_; rintro e w5 ⟨⟨v, rfl, ho⟩, hb5⟩
      have HWb5 := Lib.hid (below_then HWb4.out hb5)
      obtain ⟨pa, pc, rfl⟩ := own_slice ho
      clear ho hb5 HWb4 HO4 HNo4
      go_wp2_with fail
      go_roundw
      case rel => exact ⟨2, by decide, rfl, HWb5⟩
      case measure => simp [intOf]
    · have HA2 := Lib.hid (HA.out wr hb.out)
      go_wp2_with fail
      refine (HA2.out).mono ?_; rintro e w2 ⟨rfl, hb2⟩
      have HE := Lib.hid (below_then hb.out hb2)
      clear hb2 HA2
      go_wp2_with fail
      go_ret
      exact ⟨rfl, HE.out⟩
set_option maxRecDepth 100000 in
theorem lifted (os : Os) (started : os.Started) (H : Type) (enc : TypeId × Value → H) :
    ReturnsInHanded {} Tryd.checked os 8 .any (fun w args => (Rows.exactNobodySpec.pre enc Tryd.prog Tryd.f8 [] false w args ∧ laidMetH Tryd.prog laid3 w) ∧ sizedMet enc Tryd.prog Tryd.f8 (OpenSpec.ofChange Rows.exactNobodySpec) false w args)
      (Rows.exactNobodySpec.post enc Tryd.prog Tryd.f8 false true false false) := by
  refine returnsInHanded_of_change_and (C := Tryd.checked) (X := fun w _ => laidMetH Tryd.prog laid3 w) (fun _ _ _ hh h => h.of_heap hh) own2 started (by kernel_rfl) Tryd.func8
    (ChangeSpec.witness_shaped (enc := enc) (C := Tryd.checked) (os := os) (X := fun w _ => laidMetH Tryd.prog laid3 w) false (World.doorLaid Tryd.prog 800 os) #[.float .f64 0] 8 rfl (World.shaped_of_RefB (by kernel_rfl) (by kernel_rfl)) (by kernel_rfl) (by kernel_rfl) (by kernel_rfl) (door_met3 os _)) ?_
  intro W base args ds gs before hval0 hW _ _ hL _
  have hTab := tab_of3 hL
  have hTab64 := tab64_of3 hL
  have hval : ∀ (j : Nat) t v, Tryd.f8.params[j]? = some t → args[j]? = some v → Value.okWide Tryd.prog W .any base t v := hval0
  have hW' := hW
  obtain ⟨p, q, hA0, hV, rfl, hfz, hnd⟩ := hW
  have hA : DataW.TrodAll enc Tryd.prog W 0 (fun _ => true) true Tryd.f8.params.toList args.toList ds p := hA0
  rw [Tryd.params8] at hA hval
  obtain ⟨v0, vs0, d0, ds0, p0, q0, hargs, rfl, rfl, h0, r0⟩ := trodAll_cons hA
  obtain ⟨rfl, rfl, rfl⟩ := trodAll_nil r0
  obtain rfl : args = #[v0] := by cases args; simp_all
  obtain ⟨rfl, rfl⟩ := trodVars_none hV
  obtain ⟨a0, rfl, rfl, rfl, w0⟩ := open_float Tryd.underlying33 (hval 0 33 v0 rfl rfl) h0
  clear hA0 hval0
  simp only [List.append_nil] at hW'
  refine (walk a0 w0 W hTab hTab64).mono fun e W' ⟨he, bel⟩ => ?_
  subst he
  exact ⟨_, rfl, _, _, _, [], _, [], hW', trodAll_mk1 (shut_bool Tryd.underlying4 _), (trodAll_cons_mk (shut_float Tryd.underlying33 w0) trodAll_mk0), rfl, bel.frame _, fun h => by cases h⟩

theorem over : Rows.exactNobodyRow.holds Tryd.pinned (OpenSpec.ofChange Rows.exactNobodySpec) :=
  OpenClaim.holds_of_wide 8 Tryd.f8 rfl rfl rfl rfl rfl rfl rfl ⟨rfl, rfl, rfl, rfl, rfl⟩ rfl rfl rfl rfl rfl (by kernel_rfl) Tryd.func8 (by kernel_rfl)
    (of_decide_eq_true (by kernel_rfl)) (by unfold Func.isWrapper; first | (rw [if_pos (by decide +kernel)]; kernel_rfl) | (rw [if_neg (by decide +kernel)]; exact ⟨rfl, rfl⟩))
    (fun os started H enc _ => lifted os started H enc)
theorem row_holds : Rows.ExactNobodySaid := over
end Go.Proofs.YtboinjkeaffboaaDoor.exactNobody
namespace Go.Proofs.YtboinjkeaffboaaDoor
/-- The statement: the tied card. -/
theorem exactNobody_holds : Rows.ExactNobodyCardSaid :=
  Claim7.holds_tied_plain_at .later [] [.data, .data] true _ false
    exactNobody.row_holds (fun _ h => by cases h) (by kernel_rfl) (fun _ h => by cases h) exactNobody_row_tie rfl ⟨rfl, rfl⟩ (by kernel_rfl) rfl
    (fun f fn hf hfn => by
      obtain rfl : f = 8 := Option.some.inj ((show Tryd.prog.funcNamed "bushel/bushellaw05.ExactNobody" = some 8 by kernel_rfl).symm.trans hf) |>.symm
      obtain rfl : fn = Tryd.f8 := (Option.some.inj (Tryd.func8.symm.trans hfn)).symm
      exact ⟨by kernel_rfl, fun j t ht => by
        rw [Tryd.params8] at ht
        have hm : t ∈ [33] := by simpa using Array.mem_of_getElem? ht
        have hall : ([33].all fun u => !Tryd.prog.wantsStandIn u) = true := by kernel_rfl
        exact (show Tryd.prog.wantsStandIn t = false by simpa using List.all_eq_true.1 hall t hm)⟩)
    (by kernel_rfl)
#print axioms exactNobody_holds
end Go.Proofs.YtboinjkeaffboaaDoor
