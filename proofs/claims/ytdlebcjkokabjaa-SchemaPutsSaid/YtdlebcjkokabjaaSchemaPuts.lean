/- SchemaPuts: for any schema the statement's function returns true and changes nothing that was there. No condition. -/
import Derived.Test.YtdlebcjkokabjaaScif
import Derived.ProofKit
import Derived.Deep.RegionLaw
namespace Go.Proofs.Ytdlebcjkokabjaa.schemaPuts
set_option maxRecDepth 100000
open Go.ChangeShapes Go.WideShapes Go.ChangeAt Go.RowKit
set_option linter.unusedVariables false
theorem own : ownKnob Try.prog.godebug = none := by kernel_rfl
theorem laidOut : laidOutB Try.prog = true := by kernel_rfl
set_option maxHeartbeats 8000000 in
theorem walk_no (D I M V : Value) (S : Sc) (w : World) (h : Sch4 w D I M V S) (hw : SWf S) (hc : checkL S ≠ 0) :
    Calls Try.prog 4 #[SchV D I M V] w fun e w' => e = .returned (.bool true) ∧ Below w.heap.size w w' := by
  have HA := Lib.hid (fun w => awake_any w)
  have HB0 := Lib.hid (below_one w (SchO D I M V))
  have HX := Lib.hid (box_new w D I M V)
  have HL := Lib.hid (fun w1 (hb : Below w.heap.size w w1) => light_any w1 D I M V S (h.below hb))
  have HP := Lib.hid (fun w1 (hb : Below w.heap.size w w1) => put_any_no w1 D I M V S (h.below hb) hw hc)
  have HR := Lib.hid (fun w1 (hb : Below w.heap.size w w1) => rcheck_any w1 D I M V S (h.below hb) hw)
  obtain ⟨⟨a, c, rfl⟩, ⟨a2, c2, rfl⟩, ⟨a3, c3, rfl⟩, a4, c4, rfl⟩ := h.slices
  have hc2 : ((checkL S : Int) != 0) = true := by simp; omega
  have hc3 : ((checkL S : Int) == (checkL S : Int)) = true := by simp
  generalize (checkL S : Int) = ck at *
  clear h hw hc
  go_enter Try.func4, Try.ntmps4
  go_wp2_with fail
  refine (HL.out _ HB0.out).mono ?_; rintro e w1 ⟨⟨bl, rfl⟩, hb⟩
  have HB1 := Lib.hid (below_then HB0.out hb)
  obtain ⟨x0, x1, x2, x3⟩ := (HX.out.below hb).reads
  clear hb
  cases bl with
  | false =>
    go_wp2_with fail
    refine (HA.out _).mono ?_; rintro e w2 ⟨rfl, hb⟩
    have HB2 := Lib.hid (below_then HB1.out hb)
    clear hb
    go_wp2_with fail
    go_ret
    exact ⟨rfl, HB2.out⟩
  | true =>
    go_wp2_with fail
    refine (HP.out _ HB1.out).mono ?_; rintro e w2 ⟨rfl, hb⟩
    have HB2 := Lib.hid (below_then HB1.out hb)
    obtain ⟨y0, y1, y2, y3⟩ := quad_hold hb ⟨x0, x1, x2, x3⟩
    clear hb x0 x1 x2 x3
    go_wp2_with fail
    refine (HR.out _ HB2.out).mono ?_; rintro e w3 ⟨rfl, hb⟩
    have HB3 := Lib.hid (below_then HB2.out hb)
    clear hb y0 y1 y2 y3
    go_wp2_with fail
    refine (HA.out _).mono ?_; rintro e w4 ⟨rfl, hb⟩
    have HB4 := Lib.hid (below_then HB3.out hb)
    clear hb
    go_wp2_with fail
    go_ret
    exact ⟨rfl, HB4.out⟩
set_option maxHeartbeats 8000000 in
theorem walk_yes (D I M V : Value) (S : Sc) (w : World) (h : Sch4 w D I M V S) (hw : SWf S) (hc : checkL S = 0) :
    Calls Try.prog 4 #[SchV D I M V] w fun e w' => e = .returned (.bool true) ∧ Below w.heap.size w w' := by
  have hf := fit_of hc hw
  obtain ⟨hbt, hln⟩ := encS_bt hf
  obtain ⟨he, hs⟩ := get_enc hc hw
  have HA := Lib.hid (fun w => awake_any w)
  have HB0 := Lib.hid (below_one w (SchO D I M V))
  have HX := Lib.hid (box_new w D I M V)
  have HH := Lib.hid h
  have HL := Lib.hid (fun w1 (hb : Below w.heap.size w w1) => light_any w1 D I M V S (h.below hb))
  have HP := Lib.hid (fun w1 (hb : Below w.heap.size w w1) => put_any_yes w1 D I M V S (h.below hb) hw hc)
  have HR := Lib.hid (fun w1 (hb : Below w.heap.size w w1) => rcheck_any w1 D I M V S (h.below hb) hw)
  have HQ := Lib.hid (fun w1 (hb : Below w.heap.size w w1) => rput_any w1 D I M V S (h.below hb) hf)
  have HG := Lib.hid (fun w1 v (hv : Ints .u8 w1 v (encS S)) => get_any w1 v (encS S) hv hbt hln)
  have HS := Lib.hid (fun w1 D' I' M' V' (hb : Below w.heap.size w w1) (h' : Sch4 w1 D' I' M' V' S) => schsame_any w1 D I M V D' I' M' V' S (h.below hb) h' (by have := hf.cnt; omega))
  have HC := Lib.hid (fun w1 v (hv : Ints .u8 w1 v (encS S)) => conv_ints hv hbt)
  unfold GotS at HG
  rw [he, hs] at HG
  unfold BytesP at HQ
  rw [hc] at HR
  have hq : ((strB (encS S)).toList == (strB (encS S)).toList) = true := by simp
  have hw0 : ∀ x : Int, x = ((0 : Nat) : Int) → (x == 0) = true := by intro x h; subst h; rfl
  obtain ⟨⟨a, c, rfl⟩, ⟨a2, c2, rfl⟩, ⟨a3, c3, rfl⟩, a4, c4, rfl⟩ := h.slices
  generalize strB (encS S) = sb at *
  generalize encS S = b at *
  clear h hw hc hf hbt hln he hs hw0
  go_enter Try.func4, Try.ntmps4
  go_wp2_with fail
  refine (HL.out _ HB0.out).mono ?_; rintro e w1 ⟨⟨bl, rfl⟩, hb⟩
  have HB1 := Lib.hid (below_then HB0.out hb)
  obtain ⟨x0, x1, x2, x3⟩ := (HX.out.below hb).reads
  clear hb
  cases bl with
  | false =>
    go_wp2_with fail
    refine (HA.out _).mono ?_; rintro e w2 ⟨rfl, hb⟩
    have HB2 := Lib.hid (below_then HB1.out hb)
    clear hb
    go_wp2_with fail
    go_ret
    exact ⟨rfl, HB2.out⟩
  | true =>
    go_wp2_with fail
    refine (HP.out _ HB1.out).mono ?_; rintro e w2 ⟨⟨v, rfl, ho⟩, hb⟩
    have HB2 := Lib.hid (below_then HB1.out hb)
    have HO2 := Lib.hid ho
    obtain ⟨y0, y1, y2, y3⟩ := quad_hold hb ⟨x0, x1, x2, x3⟩
    obtain ⟨pa, pl, pc, rfl⟩ := own_slice3 ho
    clear hb ho x0 x1 x2 x3
    go_wp2_with fail
    refine (HR.out _ HB2.out).mono ?_; rintro e w3 ⟨rfl, hb⟩
    have HB3 := Lib.hid (below_then HB2.out hb)
    have HO3 := Lib.hid (own_stay HO2.out hb)
    obtain ⟨x0, x1, x2, x3⟩ := quad_hold hb ⟨y0, y1, y2, y3⟩
    clear hb y0 y1 y2 y3
    go_wp2_with fail
    refine (HG.out _ _ (Ints.own HO3.out)).mono ?_; rintro e w4 ⟨D', I', M', V', rfl, hs, hb⟩
    obtain ⟨⟨b1, d1, rfl⟩, ⟨b2, d2, rfl⟩, ⟨b3, d3, rfl⟩, b4, d4, rfl⟩ := hs.slices
    have hb5 := below_then hb (below_one w4 (SchO (.slice b1 S.ds.length d1) (.slice b2 S.is.length d2) (.slice b3 S.ns.length d3) (.slice b4 S.vs.length d4)))
    have hx5 := box_new w4 (.slice b1 S.ds.length d1) (.slice b2 S.is.length d2) (.slice b3 S.ns.length d3) (.slice b4 S.vs.length d4)
    have hs5 := hs.below (below_one w4 (SchO (.slice b1 S.ds.length d1) (.slice b2 S.is.length d2) (.slice b3 S.ns.length d3) (.slice b4 S.vs.length d4)))
    have ho5 := own_stay HO3.out hb5
    have hB5 := below_then HB3.out hb5
    have hk5 := quad_hold hb5 ⟨x0, x1, x2, x3⟩
    have HZ := Lib.hid (show w4.heap.size < w4.heap.size + 1 from by omega)
    clear hb hs hb5 x0 x1 x2 x3
    go_upto_region 8 with fail
    generalize hW : w4.alloc (.cells #[.slice b1 S.ds.length d1, .slice b2 S.is.length d2, .slice b3 S.ns.length d3, .slice b4 S.vs.length d4] 26) = W at *
    have hd := (Below.refl W.heap.size W).drew
    have HO5 := Lib.hid (own_stay ho5 hd)
    have HS5 := Lib.hid (hs5.below hd)
    have hBw : Below w.heap.size w W.drew := hB5.drew
    have hBd : Below W.drew.heap.size W.drew W.drew := Below.refl _ _
    obtain ⟨x0, x1, x2, x3⟩ := quad_hold hd hk5
    obtain ⟨y0, y1, y2, y3⟩ := quad_hold hd hx5.reads
    have hc := HC.out _ _ (Ints.own HO5.out)
    clear hW hx5 hs5 ho5 hB5 hk5 hd HZ
    go_region_law (first
        | (go_simp; go_at_call 20; refine (HQ.out _ hBw).mono ?_; rintro r w5 ⟨⟨d, rfl, ho⟩, hb2⟩; obtain ⟨x0, x1, x2, x3⟩ := quad_hold hb2 ⟨x0, x1, x2, x3⟩; obtain ⟨y0, y1, y2, y3⟩ := quad_hold hb2 ⟨y0, y1, y2, y3⟩; have hBw := below_then hBw hb2; have hBd := below_then hBd hb2; have hc := HC.out _ _ (Ints.own (own_stay HO5.out hBd)); have hc2 := HC.out _ _ (Ints.own ho); obtain ⟨da, dl, dc, rfl⟩ := own_slice3 ho; clear ho hb2)
        | (go_simp; go_at_call 21; refine (HS.out _ _ _ _ _ hBw (HS5.out.below hBd)).mono ?_; rintro r w6 ⟨rfl, hb2⟩; obtain ⟨x0, x1, x2, x3⟩ := quad_hold hb2 ⟨x0, x1, x2, x3⟩; obtain ⟨y0, y1, y2, y3⟩ := quad_hold hb2 ⟨y0, y1, y2, y3⟩; have hBw := below_then hBw hb2; have hBd := below_then hBd hb2; clear hb2)
        | (go_simp; go_at_call 7; refine (HA.out _).mono ?_; rintro r w7 ⟨rfl, hb2⟩; have hBw := below_then hBw hb2; have hBd := below_then hBd hb2; clear hb2))
    all_goals (go_wp2_with fail; go_ret; exact ⟨rfl, hBw⟩)
theorem walk (D I M V : Value) (S : Sc) (w : World) (h : Sch4 w D I M V S) (hw : SWf S) :
    Calls Try.prog 4 #[SchV D I M V] w fun e w' => e = .returned (.bool true) ∧ Below w.heap.size w w' := by
  by_cases hc : checkL S = 0
  · exact walk_yes D I M V S w h hw hc
  · exact walk_no D I M V S w h hw hc
set_option maxRecDepth 100000 in
theorem lifted (os : Os) (started : os.Started) (H : Type) (enc : TypeId × Value → H) :
    ReturnsInHanded {} Try.checked os 4 .any (Rows.schemaPutsSpec.pre6 enc Try.prog Try.f4 Rows.schemaPutsRow.domain false) (Rows.schemaPutsSpec.post enc Try.prog Try.f4 false true false false) := by
  refine returnsInHanded_of_change (C := Try.checked) own started (by kernel_rfl) Try.func4
    (ChangeSpec.witness6 (enc := enc) (C := Try.checked) false ⟨#[], #[.agg #[.slice none 0 0, .slice none 0 0, .slice none 0 0, .slice none 0 0]], []⟩ 8 (by kernel_rfl) (by kernel_rfl) (by kernel_rfl) (by kernel_rfl)) ?_
  intro W base args ds gs before hval0 hW hcnd _
  have hval : ∀ (j : Nat) t v, Try.f4.params[j]? = some t → args[j]? = some v → Value.okWide Try.prog W .any base t v := hval0
  have hW' := hW
  obtain ⟨p, q, hA0, hV, rfl, hfz, hnd⟩ := hW
  have hA : DataW.TrodAll enc Try.prog W 0 (fun _ => true) true Try.f4.params.toList args.toList ds p := hA0
  rw [Try.params4] at hA hval
  obtain ⟨v0, vs0, d0, ds0, p0, q0, hargs, rfl, rfl, h0, r0⟩ := trodAll_cons hA
  obtain ⟨rfl, rfl, rfl⟩ := trodAll_nil r0
  obtain rfl : args = #[v0] := by cases args; simp_all
  obtain ⟨rfl, rfl⟩ := trodVars_none hV
  have k0 := h0
  have lt0 : ∀ x ∈ p0, x.block < W.heap.size := by obtain ⟨m, hm⟩ := k0; exact DataW.trod_lt m _ _ _ hm
  obtain ⟨D0, I0, N0, V0, S0, rfl, s0, w0⟩ := schema_of (hval 0 26 v0 rfl rfl) h0
  clear hA0 hval0
  refine (walk D0 I0 N0 V0 S0 W s0 w0).mono fun e W' ⟨he, bel⟩ => ?_
  subst he
  exact ⟨_, rfl, _, _, _, [], _, [], hW', trodAll_mk1 (shut_bool Try.underlying4 _), (trodAll_cons_mk (Below.trod laidOut (by kernel_rfl) (of_decide_eq_true (by kernel_rfl)) k0 bel lt0) trodAll_mk0), rfl, bel.frame _, fun h => by cases h⟩

theorem over : Rows.schemaPutsRow.holds Try.pinned (OpenSpec.ofChange Rows.schemaPutsSpec) :=
  OpenClaim.holds_of_wide 4 Try.f4 rfl rfl rfl rfl rfl rfl rfl ⟨rfl, rfl, rfl, rfl, rfl⟩ rfl rfl rfl rfl rfl (by kernel_rfl) Try.func4 (by kernel_rfl)
    (of_decide_eq_true (by kernel_rfl)) (by unfold Func.isWrapper; first | (rw [if_pos (by decide +kernel)]; kernel_rfl) | (rw [if_neg (by decide +kernel)]; exact ⟨rfl, rfl⟩))
    (fun os started H enc _ => lifted os started H enc)
end Go.Proofs.Ytdlebcjkokabjaa.schemaPuts
namespace Go.Proofs.Ytdlebcjkokabjaa
/-- The statement. -/
theorem schemaPuts_holds : Rows.SchemaPutsSaid := schemaPuts.over
#print axioms schemaPuts_holds
end Go.Proofs.Ytdlebcjkokabjaa
