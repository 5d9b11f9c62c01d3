/- ExactReads: for any bytes the statement's function returns true and changes nothing that was there. No condition; the row lists the two tables of math/bits as the program's text lays them. -/
import Derived.Test.YtflhicfbojmjbaaDoorRows
import Derived.Test.YtflhicfbojmjbaaDoorCards
import Derived.Test.YtflhicfbojmjbaaDoorTie
import Derived.Test.YtflhicfbojmjbaaDoorExy
import Derived.Test.YtflhicfbojmjbaaDoorExjn
import Derived.SevenTiedAt
import Derived.Deep.RegionWith
namespace Go.Proofs.YtflhicfbojmjbaaDoor.exactReads
set_option maxRecDepth 100000
open Go.ChangeShapes Go.WideShapes Go.ChangeAt Go.RowKit
set_option linter.unusedVariables false
attribute [local go_sem ↓] Go.wp_at_zero Go.wp_at_succ
set_option maxHeartbeats 4000000 in
theorem walk_bad (p : Option Addr) (L c : Nat) (l : List Int) (w : World) (hv : Ints .u8 w (.slice p L c) l) (hb : Bt l) (hL : L ≤ 400) (h0 : errN l ≠ 0) (hT : Tab w) (hT2 : Tab64 w) :
    Calls Tryd.prog 3 #[.slice p L c] w fun r w' => r = .returned (.bool true) ∧ Below w.heap.size w w' := by
  have HP := pread_any p L c l w hv hb
  have HR := fun w1 (h : Below w.heap.size w w1) => rsread_any p L c l w1 (hv.below h) hb
  unfold ReadP at HP
  unfold RReadP5 at HR
  have HP := Lib.hid HP
  have HR := Lib.hid HR
  have HA := Lib.hid (fun w1 (h : Below w.heap.size w w1) => awake5_any w1 (hT.call h) (hT2.call h))
  have H0 := Lib.hid h0
  have e1 : (((errN l : Nat) : Int) == 0) = false := by rw [beq_eq_false_iff_ne]; omega
  have e2 : (((errN l : Nat) : Int) != 0) = true := by rw [bne_iff_ne]; omega
  clear hv hb hT hT2 h0
  generalize errN l = E at *
  go_enter Tryd.func3, Tryd.ntmps3
  go_wp2_with fail
  refine (HP.out).mono ?_; rintro e w1 (⟨-, rfl, hb1⟩ | ⟨h, -⟩)
  · have HB1 := Lib.hid hb1
    have HR1 := Lib.hid (HR.out w1 hb1)
    clear HP HR hb1
    go_wp2_with fail
    refine (HR1.out).mono ?_; rintro e w2 (⟨-, rfl, hb2⟩ | ⟨h, -⟩)
    · have HB2 := Lib.hid (below_then (below_then HB1.out hb2) (below_one w2 zeroObj))
      have HA2 := Lib.hid (HA.out _ HB2.out)
      clear hb2 HA HB1 HR1
      go_wp2_with fail
      refine (HA2.out).mono ?_; rintro e w3 ⟨rfl, hb3⟩
      go_wp2_with fail
      go_ret
      exact ⟨rfl, below_then HB2.out hb3⟩
    · exact absurd h H0.out
  · exact absurd h H0.out
set_option maxHeartbeats 8000000 in
theorem walk_good (p : Option Addr) (L c : Nat) (l : List Int) (w : World) (hv : Ints .u8 w (.slice p L c) l) (hb : Bt l) (hL : L ≤ 400) (h0 : errN l = 0) (hT : Tab w) (hT2 : Tab64 w) :
    Calls Tryd.prog 3 #[.slice p L c] w fun r w' => r = .returned (.bool true) ∧ Below w.heap.size w w' := by
  have HP := pread_any p L c l w hv hb
  have HR := fun w1 (h : Below w.heap.size w w1) => rsread_any p L c l w1 (hv.below h) hb
  unfold ReadP at HP
  unfold RReadP5 at HR
  have HP := Lib.hid HP
  have HR := Lib.hid HR
  have HA := Lib.hid (fun w1 (h : Below w.heap.size w w1) => awake5_any w1 (hT.call h) (hT2.call h))
  have HT := Lib.hid (fun w1 (h : Below w.heap.size w w1) => hT.call h)
  have H0 := Lib.hid h0
  have hne : l ≠ [] := by
    intro e
    have := (err_zero h0).1
    rw [e] at this; simp at this
  have HCB := Lib.hid (fun w1 (h : Below w.heap.size w w1) => conv_ints (hv.below h) hne hb)
  have HEn := Lib.hid (read_enc hb h0)
  have HCv := Lib.hid (fun w3 B v (ho : BOwn w3 B v l) => conv_own ho (err_zero h0).1 hb w3 (Aft.refl w3))
  clear hv hb hT hT2 h0 hne
  go_enter Tryd.func3, Tryd.ntmps3
  go_wp2_with fail
  refine (HP.out).mono ?_; rintro e w1 (⟨h, -⟩ | ⟨-, N, rfl, hN, hs, hb1⟩)
  · exact absurd H0.out h
  have HB1 := Lib.hid hb1
  have HR1 := Lib.hid (HR.out w1 hb1)
  have HS1 := Lib.hid hs
  clear HP HR hb1 hN hs
  go_wp2_with fail
  refine (HR1.out).mono ?_; rintro e w2 (⟨h, -⟩ | ⟨-, v, rfl, hsv, hb2⟩)
  · exact absurd H0.out h
  obtain ⟨nb, sp, sl, sc, rfl, hn, hg⟩ := hsv
  have hsv : SumV w2 (.agg #[.bool (bitB (readF l) 0), .bool (bitB (readF l) 1), .bool (bitB (readF l) 2), .bool (bitB (readF l) 3), .bool (bitB (readF l) 4), .bool nb, .slice sp sl sc]) (readF l) (readT l) := ⟨nb, sp, sl, sc, rfl, hn, hg⟩
  have HS2 := HS1.out.below hb2
  have HB2 := Lib.hid (below_then HB1.out hb2)
  have HIs := Lib.hid (fun w1 (h : Below w2.heap.size w2 w1) => is_any w1 N _ _ _ (HS2.below h) (hsv.below h) (HT.out w1 (below_then HB2.out h)))
  have HBy := fun w1 (h : Below w2.heap.size w2 w1) => pbytes_any w1 N _ _ l (HS2.below h) HEn.out (HT.out w1 (below_then HB2.out h))
  unfold BytesP at HBy
  have HBy := Lib.hid HBy
  clear hsv HS2 hn hg hb2 HR1 HS1 HB1 HEn H0
  generalize bitB (readF l) 0 = x0 at *
  generalize bitB (readF l) 1 = x1 at *
  generalize bitB (readF l) 2 = x2 at *
  generalize bitB (readF l) 3 = x3 at *
  generalize bitB (readF l) 4 = x4 at *
  generalize strB l = S at *
  have hB0 := below_one w2 (.cells #[.bool x0, .bool x1, .bool x2, .bool x3, .bool x4, .bool nb, .slice sp sl sc] 32)
  have hW0 := heap_alloc_new w2 (.cells #[.bool x0, .bool x1, .bool x2, .bool x3, .bool x4, .bool nb, .slice sp sl sc] 32)
  have HB0 := Lib.hid hB0
  have HW0 := Lib.hid hW0
  clear hB0 hW0
  go_upto_region 7 with fail
  obtain ⟨⟨k0, k1, k2, k3, k4, k5, k6⟩, -⟩ := seven_at HW0.out
  have HK := Lib.hid (show SevenAt w2.heap.size x0 x1 x2 x3 x4 nb (.slice sp sl sc) _ from ⟨k0, k1, k2, k3, k4, k5, k6⟩)
  clear k0 k1 k2 k3 k4 k5 k6 HW0
  generalize w2.alloc (.cells #[.bool x0, .bool x1, .bool x2, .bool x3, .bool x4, .bool nb, .slice sp sl sc] 32) = W at *
  have hk : SevenAt w2.heap.size x0 x1 x2 x3 x4 nb (.slice sp sl sc) W.drew := HK.out.call (Below.refl _ _).drew
  have hBw : Below W.heap.size W W.drew := (Below.refl _ _).drew
  go_region_with
    (first
      | (go_at_call 8; refine (HIs.out _ (below_then HB0.out hBw)).mono ?_; rintro e wn ⟨rfl, hbn⟩; have hk := SevenAt.call hk hbn; have hBw := below_then hBw hbn; have hcb := HCB.out _ (below_then HB2.out (below_then HB0.out hBw)); clear hbn)
      | (go_at_call 9; refine (HBy.out _ (below_then HB0.out hBw)).mono ?_; rintro e wn ⟨⟨v, rfl, ho⟩, hbn⟩; have hcv := HCv.out _ _ _ ho; have hk := SevenAt.call hk hbn; have hBw := below_then hBw hbn; have hcb := HCB.out _ (below_then HB2.out (below_then HB0.out hBw)); obtain ⟨pa, pl, pc, rfl⟩ := own_slice3 ho; clear ho hbn)
      | (go_at_call 5; refine (HA.out _ (below_then HB2.out (below_then HB0.out hBw))).mono ?_; rintro e wn ⟨rfl, hbn⟩; have hk := SevenAt.call hk hbn; have hBw := below_then hBw hbn; clear hbn))
  all_goals
    have HE := Lib.hid (below_then HB2.out (below_then HB0.out hBw))
    clear hk hBw
    go_wp2_with fail
    go_ret
    exact ⟨rfl, HE.out⟩
theorem given_bt {w : World} {v : Value} {zs : List Int} (h : Given .u8 w v zs) : Bt zs := fun x hx => by
  have := h.2 x hx; simp [Lit.wf, IntKind.min, IntKind.max, IntKind.signed, IntKind.bits] at this; omega
theorem walk (a0 : Option Addr) (len0 cap0 : Nat) (z0 : List Int) (w : World) (g0 : Given .u8 w (.slice a0 len0 cap0) z0) (m0 : len0 ≤ 9223372036854775807) (hT : Tab w) (hT2 : Tab64 w) :
    Calls Tryd.prog 3 #[.slice a0 len0 cap0] w fun e w' => e = .returned (.bool true) ∧ Below w.heap.size w w' := by
  by_cases h : len0 ≤ 400
  · by_cases h0 : errN z0 = 0
    · exact walk_good a0 len0 cap0 z0 w g0.1 (given_bt g0) h h0 hT hT2
    · exact walk_bad a0 len0 cap0 z0 w g0.1 (given_bt g0) h h0 hT hT2
  · have HA := Lib.hid (awake5_any w hT hT2)
    have b1 : (400 : Int) < (len0 : Int) := by omega
    clear g0 hT hT2 h
    go_enter Tryd.func3, Tryd.ntmps3
    go_wp2_with fail
    refine (HA.out).mono ?_; rintro r w1 ⟨rfl, hb⟩
    go_wp2_with fail
    go_ret
    exact ⟨rfl, hb⟩
set_option maxRecDepth 100000 in
theorem lifted (os : Os) (started : os.Started) (H : Type) (enc : TypeId × Value → H) :
    ReturnsInHanded {} Tryd.checked os 3 .any (fun w args => (Rows.exactReadsSpec.pre enc Tryd.prog Tryd.f3 [] false w args ∧ laidMetH Tryd.prog laid3 w) ∧ sizedMet enc Tryd.prog Tryd.f3 (OpenSpec.ofChange Rows.exactReadsSpec) false w args)
      (Rows.exactReadsSpec.post enc Tryd.prog Tryd.f3 false true false false) := by
  refine returnsInHanded_of_change_and (C := Tryd.checked) (X := fun w _ => laidMetH Tryd.prog laid3 w) (fun _ _ _ hh h => h.of_heap hh) own2 started (by kernel_rfl) Tryd.func3
    (ChangeSpec.witness_shaped (enc := enc) (C := Tryd.checked) (os := os) (X := fun w _ => laidMetH Tryd.prog laid3 w) false (World.doorLaid Tryd.prog 800 os) #[.slice none 0 0] 8 rfl (World.shaped_of_RefB (by kernel_rfl) (by kernel_rfl)) (by kernel_rfl) (by kernel_rfl) (by kernel_rfl) (door_met3 os _)) ?_
  intro W base args ds gs before hval0 hW _ _ hL _
  have hTab := tab_of3 hL
  have hTab64 := tab64_of3 hL
  have hval : ∀ (j : Nat) t v, Tryd.f3.params[j]? = some t → args[j]? = some v → Value.okWide Tryd.prog W .any base t v := hval0
  have hW' := hW
  obtain ⟨p, q, hA0, hV, rfl, hfz, hnd⟩ := hW
  have hA : DataW.TrodAll enc Tryd.prog W 0 (fun _ => true) true Tryd.f3.params.toList args.toList ds p := hA0
  rw [Tryd.params3] at hA hval
  obtain ⟨v0, vs0, d0, ds0, p0, q0, hargs, rfl, rfl, h0, r0⟩ := trodAll_cons hA
  obtain ⟨rfl, rfl, rfl⟩ := trodAll_nil r0
  obtain rfl : args = #[v0] := by cases args; simp_all
  obtain ⟨rfl, rfl⟩ := trodVars_none hV
  obtain ⟨a0, len0, cap0, rfl⟩ := okWide_slice Tryd.underlying22 (hval 0 22 v0 rfl rfl)
  have k0 := h0
  have lt0 : ∀ x ∈ p0, x.block < W.heap.size := by obtain ⟨m, hm⟩ := k0; exact DataW.trod_lt m _ _ _ hm
  obtain ⟨z0, w0, m0⟩ : ∃ zs, Given .u8 W (.slice a0 len0 cap0) zs ∧ len0 ≤ 9223372036854775807 := by
    obtain ⟨fuel, hf⟩ := h0
    rcases open_ints Tryd.underlying22 Tryd.underlying5 (by kernel_rfl) hf with ⟨hcs, _⟩ | ⟨x, l, c, zs, hcs, _, hl, hm, hz, _, hcell, hwz⟩
    · simp [Value.cells] at hcs
      obtain ⟨rfl, rfl, rfl⟩ := hcs
      exact ⟨[], given_nil, by decide⟩
    · simp [Value.cells] at hcs
      obtain ⟨rfl, rfl, rfl⟩ := hcs
      exact ⟨_, given_row hl (by simpa using hz) hcell hwz, by unfold maxLen at hm; omega⟩
  clear hA0 hval0
  refine (walk a0 len0 cap0 z0 W w0 m0 hTab hTab64).mono fun e W' ⟨he, bel⟩ => ?_
  subst he
  exact ⟨_, rfl, _, _, _, [], _, [], hW', trodAll_mk1 (shut_bool Tryd.underlying4 _), (trodAll_cons_mk (Below.trod laidOut2 (by kernel_rfl) (of_decide_eq_true (by kernel_rfl)) k0 bel lt0) trodAll_mk0), rfl, bel.frame _, fun h => by cases h⟩

theorem over : Rows.exactReadsRow.holds Tryd.pinned (OpenSpec.ofChange Rows.exactReadsSpec) :=
  OpenClaim.holds_of_wide 3 Tryd.f3 rfl rfl rfl rfl rfl rfl rfl ⟨rfl, rfl, rfl, rfl, rfl⟩ rfl rfl rfl rfl rfl (by kernel_rfl) Tryd.func3 (by kernel_rfl)
    (of_decide_eq_true (by kernel_rfl)) (by unfold Func.isWrapper; first | (rw [if_pos (by decide +kernel)]; kernel_rfl) | (rw [if_neg (by decide +kernel)]; exact ⟨rfl, rfl⟩))
    (fun os started H enc _ => lifted os started H enc)
theorem row_holds : Rows.ExactReadsSaid := over
end Go.Proofs.YtflhicfbojmjbaaDoor.exactReads
namespace Go.Proofs.YtflhicfbojmjbaaDoor
/-- The statement: the tied card. -/
theorem exactReads_holds : Rows.ExactReadsCardSaid :=
  Claim7.holds_tied_plain_at .later [] [.data, .data] true _ false
    exactReads.row_holds (fun _ h => by cases h) (by kernel_rfl) (fun _ h => by cases h) exactReads_row_tie rfl ⟨rfl, rfl⟩ (by kernel_rfl) rfl
    (fun f fn hf hfn => by
      obtain rfl : f = 3 := Option.some.inj ((show Tryd.prog.funcNamed "bushel/bushellaw05.ExactReads" = some 3 by kernel_rfl).symm.trans hf) |>.symm
      obtain rfl : fn = Tryd.f3 := (Option.some.inj (Tryd.func3.symm.trans hfn)).symm
      exact ⟨by kernel_rfl, fun j t ht => by
        rw [Tryd.params3] at ht
        have hm : t ∈ [22] := by simpa using Array.mem_of_getElem? ht
        have hall : ([22].all fun u => !Tryd.prog.wantsStandIn u) = true := by kernel_rfl
        exact (show Tryd.prog.wantsStandIn t = false by simpa using List.all_eq_true.1 hall t hm)⟩)
    (by kernel_rfl)
#print axioms exactReads_holds
end Go.Proofs.YtflhicfbojmjbaaDoor
