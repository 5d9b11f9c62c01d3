/- ExactSums: for any list of floats the statement's function returns true and changes nothing that was there. No condition; the row lists the two tables of math/bits as the program's text lays them. -/
import Derived.Test.YtboinjkeaffboaaDoorRows
import Derived.Test.YtboinjkeaffboaaDoorCards
import Derived.Test.YtboinjkeaffboaaDoorTie
import Derived.Test.YtboinjkeaffboaaDoorExy
import Derived.SevenTiedAt
import Derived.Deep.RegionLaw
import Derived.Deep.RegionHeld3
namespace Go.Proofs.YtboinjkeaffboaaDoor.exactSums
set_option maxRecDepth 100000
open Go.ChangeShapes Go.WideShapes Go.ChangeAt Go.RowKit
set_option linter.unusedVariables false
attribute [local go_sem ↓] Go.wp_at_zero Go.wp_at_succ
set_option maxHeartbeats 8000000 in
theorem walk_short (p : Option Addr) (n c : Nat) (xs : List Nat) (w : World) (g : Flts w (.slice p n c) xs) (hn : n ≤ 40) (hT : Tab w) (hT2 : Tab64 w) :
    Calls Tryd.prog 3 #[.slice p n c] w fun r w' => r = .returned (.bool true) ∧ Below w.heap.size w w' := by
  have hnl := flts_len g
  have HXs := Lib.hid (w64_list g.2)
  have HG := Lib.hid (fun w1 (h : Below w.heap.size w w1) => g.below h)
  have HCell := Lib.hid (fun (k : Nat) (hk : k < n) => g.cell (i := k) (by omega))
  have HT := Lib.hid (fun w1 (h : Below w.heap.size w w1) => And.intro (hT.call h) (hT2.call h))
  have HA := Lib.hid (fun w1 (h : Below w.heap.size w w1) => awake5_any w1 (hT.call h) (hT2.call h))
  have HL := Lib.hid hnl
  have hn' : (n : Int) ≤ 40 := by omega
  have h1 := below_one w (.cells #[.slice none 0 0, .bool false, .int .u8 0, .bool true] 60)
  have h2 := sum_new w
  have h3 := box_new (w.alloc (.cells #[.slice none 0 0, .bool false, .int .u8 0, .bool true] 60))
  have h4 := below_one (w.alloc (.cells #[.slice none 0 0, .bool false, .int .u8 0, .bool true] 60)) (.cells #[.bool false, .bool false, .bool false, .bool false, .bool false, .bool false, .slice none 0 0] 30)
  have H0 := Lib.hid (And.intro (h2.below h4) (And.intro (show SumBox _ (w.heap.size + 1) 0 0 by simpa using h3) (below_then h1 h4)))
  clear g hT hT2 hnl h1 h2 h3 h4
  go_enter Tryd.func3, Tryd.ntmps3
  go_wp2_with (first | ((with_reducible refine (xnew_any _).mono ?_); rintro e w1 ⟨rfl, rfl⟩))
  go_loopw [5] (fun i wr => ∃ k : Nat, k ≤ n ∧ i = .int .i64 k ∧ Hid (SumAt wr w.heap.size (totF (xs.take k)) (totT (xs.take k))) ∧ Hid (SumBox wr (w.heap.size + 1) (totF (xs.take k)) (totT (xs.take k))) ∧ Hid (Below w.heap.size w wr)) (fun i _ => n - (intOf i).toNat)
  case atStart => exact ⟨0, Nat.zero_le _, rfl, Lib.hid (by rw [List.take_zero]; exact H0.out.1), Lib.hid (by rw [List.take_zero]; exact H0.out.2.1), Lib.hid H0.out.2.2⟩
  case round =>
    obtain ⟨k, hk, rfl, hsa, hsb, hb⟩ := hrel
    clear H0
    by_cases hlt : k < n
    · obtain ⟨b, off, hp, hbl, hcell0⟩ := HCell.out k hlt
      have hcell := (hb.out.cell (p := ⟨b, off + k, none⟩) hbl).trans hcell0
      have hfe := few_list (mem_take64 HXs.out (k + 1))
      rw [List.length_take] at hfe
      have ht := take_snocN xs k (by rw [HL.out]; omega)
      have hx : W64 (xs.getD k 0) := list_w64 HXs.out k
      generalize xs.getD k 0 = x at *
      rw [ht, totT_snoc] at hfe
      have hfit := hfe.fits (by omega)
      obtain ⟨nb, q, ql, qc, hh, hnum, hg⟩ := hsb.out
      have HA1 := Lib.hid (fun w1 (h : Below wr.heap.size wr w1) => radd_any w1 (.agg #[.bool (bitB (totF (xs.take k)) 0), .bool (bitB (totF (xs.take k)) 1), .bool (bitB (totF (xs.take k)) 2), .bool (bitB (totF (xs.take k)) 3), .bool (bitB (totF (xs.take k)) 4), .bool nb, .slice q ql qc]) (totF (xs.take k)) x (totT (xs.take k)) ⟨nb, q, ql, qc, rfl, hnum.below h, hg⟩ hx hfit)
      have HP := Lib.hid (fun w1 (h : SumAt w1 w.heap.size (totF (xs.take k)) (totT (xs.take k))) (hb : Below w.heap.size w w1) => padd_fit w1 w.heap.size _ x _ h hx (HT.out w1 hb).2 hfit)
      rw [← totF_snoc, ← totT_snoc, ← ht] at HA1 HP
      unfold RJoinP at HA1
      unfold JoinP at HP
      obtain ⟨⟨a0, a1, a2, a3, a4, a5, a6⟩, -⟩ := seven_at hh
      subst hp
      generalize hf5 : totF (xs.take k) = F5 at *
      generalize hf6 : totF (xs.take (k + 1)) = F6 at *
      generalize hf7 : totT (xs.take k) = T5 at *
      generalize hf8 : totT (xs.take (k + 1)) = T6 at *
      have HF6 := Lib.hid (And.intro hf6 hf8)
      have HH := Lib.hid hh
      have HBl := Lib.hid (And.intro hbl hcell0)
      clear hfe hfit ht hh hnum hg hx hf5 hf6 hf7 hf8 hbl hcell0
      go_upto_region 8 with fail
      have e0 : wr.drew.cell? ⟨w.heap.size + 1, 0, none⟩ = some (.bool (bitB F5 0)) := by simp [a0]
      have e1 : wr.drew.cell? ⟨w.heap.size + 1, 1, none⟩ = some (.bool (bitB F5 1)) := by simp [a1]
      have e2 : wr.drew.cell? ⟨w.heap.size + 1, 2, none⟩ = some (.bool (bitB F5 2)) := by simp [a2]
      have e3 : wr.drew.cell? ⟨w.heap.size + 1, 3, none⟩ = some (.bool (bitB F5 3)) := by simp [a3]
      have e4 : wr.drew.cell? ⟨w.heap.size + 1, 4, none⟩ = some (.bool (bitB F5 4)) := by simp [a4]
      have e5 : wr.drew.cell? ⟨w.heap.size + 1, 5, none⟩ = some (.bool nb) := by simp [a5]
      have e6 : wr.drew.cell? ⟨w.heap.size + 1, 6, none⟩ = some (.slice q ql qc) := by simp [a6]
      have ec : wr.drew.cell? ⟨b, off + k, none⟩ = some (.float .f64 x) := by simp [hcell]
      have hBw : Below wr.heap.size wr wr.drew := (Below.refl _ _).drew
      go_region_law (first
        | (go_simp; go_at_call 11; refine (HA1.out _ hBw).mono ?_; rintro e w2 ⟨⟨rv, rfl, nb2, q2, l2, c2, rfl, hn2, hg2⟩, hb2⟩; have hbd := below_then hBw hb2; obtain ⟨⟨c0, c1', c2', c3', c4', c5', c6'⟩, f0, f1, f2, f3, f4, f5, f6⟩ := seven_at (heap_then HH.out hbd)))
      all_goals
        have hput := SumBox.put (hsb.out.below hbd) hn2 hg2
        have hg7 := grown7 w2 (w.heap.size + 1) (.bool (bitB F6 0)) (.bool (bitB F6 1)) (.bool (bitB F6 2)) (.bool (bitB F6 3)) (.bool (bitB F6 4)) (.bool nb2) (.slice q2 l2 c2)
        have hS := (hsa.out.below hbd).box (heap_then HH.out hbd) hg7
        have hBB := (below_then hb.out hbd).grown hg7 (below_then hb.out hbd).size (fun k hk => by simp only [Option.some.injEq] at hk; omega)
        have hc3 := (hBB.cell (p := ⟨b, off + k, none⟩) HBl.out.1).trans HBl.out.2
        have HPut := Lib.hid hput
        have HP2 := Lib.hid (HP.out _ hS hBB)
        have HS2 := Lib.hid (And.intro hS hBB)
        clear hput hg7 hS hBB hn2 hg2 hb2 hbd HA1 e0 e1 e2 e3 e4 e5 e6 ec a0 a1 a2 a3 a4 a5 a6 c0 c1' c2' c3' c4' c5' c6' f0 f1 f2 f3 f4 f5 f6 HP hcell
        generalize (((((((w2.setCell ⟨w.heap.size + 1, 0, none⟩ (.bool (bitB F6 0))).setCell ⟨w.heap.size + 1, 1, none⟩ (.bool (bitB F6 1))).setCell ⟨w.heap.size + 1, 2, none⟩ (.bool (bitB F6 2))).setCell ⟨w.heap.size + 1, 3, none⟩ (.bool (bitB F6 3))).setCell ⟨w.heap.size + 1, 4, none⟩ (.bool (bitB F6 4))).setCell ⟨w.heap.size + 1, 5, none⟩ (.bool nb2)).setCell ⟨w.heap.size + 1, 6, none⟩ (.slice q2 l2 c2)) = W at *
        go_wp2_with fail
        refine (HP2.out).mono ?_; rintro e w3 ⟨rfl, h1, h2⟩
        have H1 := Lib.hid h1
        have H2 := Lib.hid (HPut.out.sum HS2.out.1 h2)
        have H3 := Lib.hid (HS2.out.2.grown h2 HS2.out.2.size (fun j hj => by simp only [Option.some.injEq] at hj; omega))
        clear h1 h2 HP2 HPut HS2 hc3
        go_wp2_with fail
        go_roundw
        case rel => exact ⟨k + 1, by omega, by go_num, Lib.hid (by rw [HF6.out.1, HF6.out.2]; exact H1.out), Lib.hid (by rw [HF6.out.1, HF6.out.2]; exact H2.out), H3⟩
        case measure => simp [intOf]; omega
    · obtain rfl : k = n := by omega
      have htk : xs.take k = xs := List.take_of_length_le (by rw [HL.out]; omega)
      have hst := hsa.out
      have hbt := hsb.out
      rw [htk] at hst hbt
      obtain ⟨nb, q, ql, qc, hh, hnum, hg⟩ := hbt
      have hSV := Lib.hid (fun w1 (h : Below wr.heap.size wr w1) => show SumV w1 (.agg #[.bool (bitB (totF xs) 0), .bool (bitB (totF xs) 1), .bool (bitB (totF xs) 2), .bool (bitB (totF xs) 3), .bool (bitB (totF xs) 4), .bool nb, .slice q ql qc]) (totF xs) (totT xs) from ⟨nb, q, ql, qc, rfl, hnum.below h, hg⟩)
      have hIS := Lib.hid (fun w1 (h : Below wr.heap.size wr w1) => is_any w1 w.heap.size (totF xs) (totT xs) _ (hst.below h) (hSV.out w1 h) (HT.out w1 (below_then hb.out h)).1)
      have hTo := Lib.hid (fun w1 (h : Below wr.heap.size wr w1) => ptotal_any (.slice p k c) xs w1 (HG.out w1 (below_then hb.out h)) (by rw [HL.out]; omega) (HT.out w1 (below_then hb.out h)).1 (HT.out w1 (below_then hb.out h)).2)
      have hVR := Lib.hid (fun w1 (h : Below wr.heap.size wr w1) => rvalue_any w1 _ (totF xs) (totT xs) (hSV.out w1 h))
      have hAw := Lib.hid (fun w1 (h : Below wr.heap.size wr w1) => HA.out w1 (below_then hb.out h))
      have hR := valueW_w64 (totF xs) (totT xs)
      have HS := Lib.hid (fun w3 X (hX : W64 X) (hs : sameB (valueW (totF xs) (totT xs)) X = true) => show Calls Tryd.prog 14 #[.float .f64 (valueW (totF xs) (totT xs)), .float .f64 X] w3 (fun e w' => e = .returned (.bool true) ∧ Drawn w3 w') by have h := rsame_any (valueW (totF xs) (totT xs)) X w3 hR hX; rw [hs] at h; exact h)
      unfold ValueP at hTo
      unfold RValP at hVR
      generalize valueW (totF xs) (totT xs) = R at *
      obtain ⟨⟨k0, k1, k2, k3, k4, k5, k6⟩, -⟩ := seven_at hh
      generalize bitB (totF xs) 0 = x0 at *
      generalize bitB (totF xs) 1 = x1 at *
      generalize bitB (totF xs) 2 = x2 at *
      generalize bitB (totF xs) 3 = x3 at *
      generalize bitB (totF xs) 4 = x4 at *
      have HK := Lib.hid (show SevenAt (w.heap.size + 1) x0 x1 x2 x3 x4 nb (.slice q ql qc) wr from ⟨k0, k1, k2, k3, k4, k5, k6⟩)
      have HB := Lib.hid hb.out
      clear hst hsa hsb hh hnum hg hSV hR htk HXs HG HCell HL HT HA k0 k1 k2 k3 k4 k5 k6 hb
      go_upto_region 11 with fail
      have hk : SevenAt (w.heap.size + 1) x0 x1 x2 x3 x4 nb (.slice q ql qc) wr.drew := HK.out.call (Below.refl _ _).drew
      have hBw : Below wr.heap.size wr wr.drew := (Below.refl _ _).drew
      go_region_held3 (SevenAt (w.heap.size + 1) x0 x1 x2 x3 x4 nb (.slice q ql qc)) (with_reducible exact hk)
        (first
          | (go_at_call 13; refine (hIS.out _ hBw).mono ?_; rintro e wn ⟨rfl, hbn⟩; have hk := SevenAt.call hk hbn; have hBw := below_then hBw hbn; clear hbn)
          | (go_at_call 15; refine (hTo.out _ hBw).mono ?_; rintro e wn ⟨rfl, hbn⟩; have hk := SevenAt.call hk hbn; have hBw := below_then hBw hbn; clear hbn)
          | (go_at_call 16; refine (hVR.out _ hBw).mono ?_; rintro e wn ⟨⟨X, hX1, hX2, rfl⟩, hbn⟩; have HX := Lib.hid (And.intro hX1 hX2); have hk := SevenAt.call hk hbn; have hBw := below_then hBw hbn; clear hbn hX1 hX2)
          | (go_at_call 14; refine (HS.out _ _ HX.out.1 HX.out.2).mono ?_; rintro e wn ⟨rfl, hd⟩; have hk := SevenAt.call hk hd.below; have hBw := below_then hBw hd.below; clear hd)
          | (go_at_call 9; refine (hAw.out _ hBw).mono ?_; rintro e wn ⟨rfl, hbn⟩; have hk := SevenAt.call hk hbn; have hBw := below_then hBw hbn; clear hbn))
      all_goals
        have HE := Lib.hid (below_then HB.out hBw)
        clear hk hBw
        go_wp2_with fail
        go_ret
        exact ⟨rfl, HE.out⟩
theorem walk (p : Option Addr) (n c : Nat) (xs : List Nat) (w : World) (g : Flts w (.slice p n c) xs) (hm : n ≤ 9223372036854775807) (hT : Tab w) (hT2 : Tab64 w) :
    Calls Tryd.prog 3 #[.slice p n c] w fun r w' => r = .returned (.bool true) ∧ Below w.heap.size w w' := by
  by_cases hn : n ≤ 40
  · exact walk_short p n c xs w g hn hT hT2
  · have HA := Lib.hid (awake5_any w hT hT2)
    have b1 : (40 : Int) < (n : Int) := by omega
    clear g hT hT2 hn
    go_enter Tryd.func3, Tryd.ntmps3
    go_wp2_with fail
    refine (HA.out).mono ?_; rintro r w1 ⟨rfl, hb⟩
    go_wp2_with fail
    go_ret
    exact ⟨rfl, hb⟩
set_option maxRecDepth 100000 in
theorem lifted (os : Os) (started : os.Started) (H : Type) (enc : TypeId × Value → H) :
    ReturnsInHanded {} Tryd.checked os 3 .any (fun w args => (Rows.exactSumsSpec.pre enc Tryd.prog Tryd.f3 [] false w args ∧ laidMetH Tryd.prog laid3 w) ∧ sizedMet enc Tryd.prog Tryd.f3 (OpenSpec.ofChange Rows.exactSumsSpec) false w args)
      (Rows.exactSumsSpec.post enc Tryd.prog Tryd.f3 false true false false) := by
  refine returnsInHanded_of_change_and (C := Tryd.checked) (X := fun w _ => laidMetH Tryd.prog laid3 w) (fun _ _ _ hh h => h.of_heap hh) own2 started (by kernel_rfl) Tryd.func3
    (ChangeSpec.witness_shaped (enc := enc) (C := Tryd.checked) (os := os) (X := fun w _ => laidMetH Tryd.prog laid3 w) false (World.doorLaid Tryd.prog 800 os) #[.slice none 0 0] 8 rfl (World.shaped_of_RefB (by kernel_rfl) (by kernel_rfl)) (by kernel_rfl) (by kernel_rfl) (by kernel_rfl) (door_met3 os _)) ?_
  intro W base args ds gs before hval0 hW _ _ hL _
  have hTab := tab_of3 hL
  have hTab64 := tab64_of3 hL
  have hval : ∀ (j : Nat) t v, Tryd.f3.params[j]? = some t → args[j]? = some v → Value.okWide Tryd.prog W .any base t v := hval0
  have hW' := hW
  obtain ⟨p, q, hA0, hV, rfl, hfz, hnd⟩ := hW
  have hA : DataW.TrodAll enc Tryd.prog W 0 (fun _ => true) true Tryd.f3.params.toList args.toList ds p := hA0
  rw [Tryd.params3] at hA hval
  obtain ⟨v0, vs0, d0, ds0, p0, q0, hargs, rfl, rfl, h0, r0⟩ := trodAll_cons hA
  obtain ⟨rfl, rfl, rfl⟩ := trodAll_nil r0
  obtain rfl : args = #[v0] := by cases args; simp_all
  obtain ⟨rfl, rfl⟩ := trodVars_none hV
  obtain ⟨a0, len0, cap0, rfl⟩ := okWide_slice Tryd.underlying22 (hval 0 22 v0 rfl rfl)
  have k0 := h0
  have lt0 : ∀ x ∈ p0, x.block < W.heap.size := by obtain ⟨m, hm⟩ := k0; exact DataW.trod_lt m _ _ _ hm
  obtain ⟨z0, w0, m0⟩ : ∃ xs, Flts W (.slice a0 len0 cap0) xs ∧ len0 ≤ 9223372036854775807 := by
    obtain ⟨fuel, hf⟩ := h0
    obtain ⟨x, l, c, xs, hcs, hF, hm⟩ := open_flts Tryd.underlying22 Tryd.underlying33 (by kernel_rfl) hf
    simp [Value.cells] at hcs
    obtain ⟨rfl, rfl, rfl⟩ := hcs
    exact ⟨xs, hF, hm⟩
  clear hA0 hval0
  refine (walk a0 len0 cap0 z0 W w0 m0 hTab hTab64).mono fun e W' ⟨he, bel⟩ => ?_
  subst he
  exact ⟨_, rfl, _, _, _, [], _, [], hW', trodAll_mk1 (shut_bool Tryd.underlying4 _), (trodAll_cons_mk (Below.trod laidOut2 (by kernel_rfl) (of_decide_eq_true (by kernel_rfl)) k0 bel lt0) trodAll_mk0), rfl, bel.frame _, fun h => by cases h⟩

theorem over : Rows.exactSumsRow.holds Tryd.pinned (OpenSpec.ofChange Rows.exactSumsSpec) :=
  OpenClaim.holds_of_wide 3 Tryd.f3 rfl rfl rfl rfl rfl rfl rfl ⟨rfl, rfl, rfl, rfl, rfl⟩ rfl rfl rfl rfl rfl (by kernel_rfl) Tryd.func3 (by kernel_rfl)
    (of_decide_eq_true (by kernel_rfl)) (by unfold Func.isWrapper; first | (rw [if_pos (by decide +kernel)]; kernel_rfl) | (rw [if_neg (by decide +kernel)]; exact ⟨rfl, rfl⟩))
    (fun os started H enc _ => lifted os started H enc)
theorem row_holds : Rows.ExactSumsSaid := over
end Go.Proofs.YtboinjkeaffboaaDoor.exactSums
namespace Go.Proofs.YtboinjkeaffboaaDoor
/-- The statement: the tied card. -/
theorem exactSums_holds : Rows.ExactSumsCardSaid :=
  Claim7.holds_tied_plain_at .later [] [.data, .data] true _ false
    exactSums.row_holds (fun _ h => by cases h) (by kernel_rfl) (fun _ h => by cases h) exactSums_row_tie rfl ⟨rfl, rfl⟩ (by kernel_rfl) rfl
    (fun f fn hf hfn => by
      obtain rfl : f = 3 := Option.some.inj ((show Tryd.prog.funcNamed "bushel/bushellaw05.ExactSums" = some 3 by kernel_rfl).symm.trans hf) |>.symm
      obtain rfl : fn = Tryd.f3 := (Option.some.inj (Tryd.func3.symm.trans hfn)).symm
      exact ⟨by kernel_rfl, fun j t ht => by
        rw [Tryd.params3] at ht
        have hm : t ∈ [22] := by simpa using Array.mem_of_getElem? ht
        have hall : ([22].all fun u => !Tryd.prog.wantsStandIn u) = true := by kernel_rfl
        exact (show Tryd.prog.wantsStandIn t = false by simpa using List.all_eq_true.1 hall t hm)⟩)
    (by kernel_rfl)
#print axioms exactSums_holds
end Go.Proofs.YtboinjkeaffboaaDoor
