/- SchemaChecks: for any schema and any set the statement's function returns true and changes nothing that was there. No condition. -/
import Derived.Test.YtdlebcjkokabjaaSchm
import Derived.ProofKit
namespace Go.Proofs.Ytdlebcjkokabjaa.schemaChecks
set_option maxRecDepth 100000
open Go.ChangeShapes Go.WideShapes Go.ChangeAt Go.RowKit
set_option linter.unusedVariables false
theorem own : ownKnob Try.prog.godebug = none := by kernel_rfl
theorem laidOut : laidOutB Try.prog = true := by kernel_rfl
set_option maxHeartbeats 8000000 in
theorem walk (D I M V : Value) (S : Sc) (m : Int) (w : World) (h : Sch4 w D I M V S) (hw : SWf S) (hm : (Lit.int .u32 m).wf = true) :
    Calls Try.prog 3 #[SchV D I M V, .int .u32 m] w fun e w' => e = .returned (.bool true) ∧ Below w.heap.size w w' := by
  obtain ⟨m0, m1⟩ : 0 ≤ m ∧ m ≤ 4294967295 := by
    simp [Lit.wf, IntKind.min, IntKind.max, IntKind.signed, IntKind.bits] at hm; omega
  have HA := Lib.hid (fun w => awake_any w)
  have HB0 := Lib.hid (below_one w (SchO D I M V))
  have HX := Lib.hid (box_new w D I M V)
  have HH := Lib.hid h
  have HL := Lib.hid (fun w1 (hb : Below w.heap.size w w1) => light_any w1 D I M V S (h.below hb))
  have HK := Lib.hid (fun w1 (hb : Below w.heap.size w w1) => keys_any w1 D I M V S m (h.below hb) hw m0 m1)
  have HR := Lib.hid (fun w1 (hb : Below w.heap.size w w1) => rcheck_any w1 D I M V S (h.below hb) hw)
  have HC := Lib.hid (fun w1 (hb : Below w.heap.size w w1) => check_any w1 D I M V S (h.below hb) hw)
  have HF := Lib.hid (fun w1 (hb : Below w.heap.size w w1) => full_any w1 D I M V S (h.below hb) hw)
  have HV := Lib.hid (fun w1 (hb : Below w.heap.size w w1) => views_any w1 D I M V S (h.below hb) hw)
  obtain ⟨⟨a, c, rfl⟩, ⟨a2, c2, rfl⟩, ⟨a3, c3, rfl⟩, a4, c4, rfl⟩ := h.slices
  by_cases hc : checkL S = 0
  · have hck := check_cnt hc
    have hcn := cnt_iff.1 hck.1
    simp only [if_pos hc] at HF HV
    rw [hc] at HR HC
    have HRF := Lib.hid (fun w1 (hb : Below w.heap.size w w1) => rfull_any w1 _ _ _ _ S (h.below hb) hcn.2.1)
    have HRV := Lib.hid (fun w1 (hb : Below w.heap.size w w1) => rviews_any w1 _ _ _ _ S (h.below hb) hck.1)
    have HRK := Lib.hid (fun w1 (hb : Below w.heap.size w w1) => rkeys_any w1 _ _ _ _ S m (h.below hb) hcn.2.1 hck.2.1 m0 m1)
    have HMa := Lib.hid (fun w1 u v hu hv => masks_any u v (fullL S.ds :: S.vs) w1 hu hv (by simp; omega))
    have HSu := Lib.hid (fun w1 => sub_any w1 m S.ds.length hcn.2.1 m0 m1)
    have hfe : (2 : Int) ^ S.ds.length - 1 = fullL S.ds := rfl
    have hp2 : (2 : Int) ^ S.ds.length = fullL S.ds + 1 := by omega
    rw [hfe, hp2] at HSu
    have hfu : (fullL S.ds != fullL S.ds) = false := by simp
    have hkk : (keysL S.ds m S.ds.length == keysL S.ds m S.ds.length) = true := by simp
    have hkc : ((if checkL S = 0 ∧ m ≤ fullL S.ds then keysL S.ds m S.ds.length else 0 : Int) = if m ≤ fullL S.ds then keysL S.ds m S.ds.length else 0) := by simp [hc]
    have hkd : decide (checkL S = 0 ∧ m ≤ fullL S.ds) = decide (m ≤ fullL S.ds) := by simp [hc]
    rw [hkc, hkd] at HK
    have hls : decide (m < fullL S.ds + 1) = decide (m ≤ fullL S.ds) := by by_cases q : m ≤ fullL S.ds <;> simp [q] <;> omega
    rw [hls] at HSu
    clear hkc hkd hls hp2 hfe hck hcn hm h hw m0 m1 hc
    generalize fullL S.ds = fu at *
    generalize keysL S.ds m S.ds.length = ky at *
    by_cases hm : m ≤ fu
    · rw [if_pos hm, decide_eq_true hm] at HK
      rw [decide_eq_true hm] at HSu
      clear hm
      go_enter Try.func3, Try.ntmps3
      go_wp2_with fail
      refine (HL.out _ HB0.out).mono ?_; rintro e w1 ⟨⟨bl, rfl⟩, hb⟩
      have HB1 := Lib.hid (below_then HB0.out hb)
      obtain ⟨x0, x1, x2, x3⟩ := (HX.out.below hb).reads
      clear hb
      cases bl with
      | false =>
        go_wp2_with fail
        refine (HA.out _).mono ?_; rintro e w2 ⟨rfl, hb⟩
        have HB2 := Lib.hid (below_then HB1.out hb)
        clear hb
        go_wp2_with fail
        go_ret
        exact ⟨rfl, HB2.out⟩
      | true =>
        go_wp2_with fail
        refine (HK.out _ HB1.out).mono ?_; rintro e w2 ⟨rfl, hb⟩
        have HB2 := Lib.hid (below_then HB1.out hb)
        obtain ⟨y0, y1, y2, y3⟩ := quad_hold hb ⟨x0, x1, x2, x3⟩
        clear hb x0 x1 x2 x3
        go_wp2_with fail
        refine (HR.out _ HB2.out).mono ?_; rintro e w3 ⟨rfl, hb⟩
        have HB3 := Lib.hid (below_then HB2.out hb)
        obtain ⟨x0, x1, x2, x3⟩ := quad_hold hb ⟨y0, y1, y2, y3⟩
        clear hb y0 y1 y2 y3
        go_upto_region 7 with fail
        have hk : w3.drew.cell? ⟨w.heap.size, 0, none⟩ = some (.slice a S.ds.length c) ∧ w3.drew.cell? ⟨w.heap.size, 1, none⟩ = some (.slice a2 S.is.length c2) ∧ w3.drew.cell? ⟨w.heap.size, 2, none⟩ = some (.slice a3 S.ns.length c3) ∧ w3.drew.cell? ⟨w.heap.size, 3, none⟩ = some (.slice a4 S.vs.length c4) := ⟨by simp [x0], by simp [x1], by simp [x2], by simp [x3]⟩
        have hBw : Below w.heap.size w w3.drew := HB3.out.drew
        clear x0 x1 x2 x3
        go_region_held3 (fun w' => w'.cell? ⟨w.heap.size, 0, none⟩ = some (.slice a S.ds.length c) ∧ w'.cell? ⟨w.heap.size, 1, none⟩ = some (.slice a2 S.is.length c2) ∧ w'.cell? ⟨w.heap.size, 2, none⟩ = some (.slice a3 S.ns.length c3) ∧ w'.cell? ⟨w.heap.size, 3, none⟩ = some (.slice a4 S.vs.length c4)) (with_reducible exact hk)
          (first
            | (go_at_call 10; refine (HC.out _ hBw).mono ?_; rintro r w4 ⟨rfl, hb2⟩; have hk := quad_hold hb2 hk; have hBw := below_then hBw hb2; clear hb2)
            | (go_at_call 11; refine (HF.out _ hBw).mono ?_; rintro r w4 ⟨rfl, hb2⟩; have hk := quad_hold hb2 hk; have hBw := below_then hBw hb2; clear hb2)
            | (go_at_call 13; refine (HRF.out _ hBw).mono ?_; rintro r w4 ⟨rfl, hb2⟩; have hk := quad_hold hb2 hk; have hBw := below_then hBw hb2; clear hb2)
            | (go_at_call 12; refine (HV.out _ hBw).mono ?_; rintro r w5 ⟨⟨v, rfl, hv⟩, hb2⟩; have hV1 := hv; obtain ⟨pa, pc, rfl, -, -⟩ := hv; have hk := quad_hold hb2 hk; have hBw := below_then hBw hb2; clear hb2)
            | (go_at_call 15; refine (HRV.out _ hBw).mono ?_; rintro r w6 ⟨⟨v, rfl, hv⟩, hb2⟩; have hV1 := hV1.below hb2; have hV2 := hv; obtain ⟨pa2, pc2, rfl, -, -⟩ := hv; have hk := quad_hold hb2 hk; have hBw := below_then hBw hb2; clear hb2)
            | (go_at_call 14; refine (HMa.out _ _ _ hV1 hV2).mono ?_; rintro r w7 ⟨rfl, hd⟩; have hk := quad_hold hd.below hk; have hBw := below_then hBw hd.below; clear hd))
        have HB7 := Lib.hid hBw
        obtain ⟨y0, y1, y2, y3⟩ := hk
        clear hBw hV1 hV2
        go_wp2_with fail
        refine (HRF.out _ HB7.out).mono ?_; rintro e w8 ⟨rfl, hb⟩
        have HB8 := Lib.hid (below_then HB7.out hb)
        obtain ⟨x0, x1, x2, x3⟩ := quad_hold hb ⟨y0, y1, y2, y3⟩
        clear hb y0 y1 y2 y3
        go_wp2_with fail
        refine (HSu.out _).mono ?_; rintro e w9 ⟨rfl, rfl⟩
        go_wp2_with fail
        refine (HRK.out _ HB8.out).mono ?_; rintro e w10 ⟨rfl, hb⟩
        have HB10 := Lib.hid (below_then HB8.out hb)
        clear hb x0 x1 x2 x3
        go_wp2_with fail
        refine (HA.out _).mono ?_; rintro e w11 ⟨rfl, hb⟩
        have HB11 := Lib.hid (below_then HB10.out hb)
        clear hb
        go_wp2_with fail
        go_ret
        exact ⟨rfl, HB11.out⟩
    · rw [if_neg hm, decide_eq_false hm] at HK
      rw [decide_eq_false hm] at HSu
      clear hm
      go_enter Try.func3, Try.ntmps3
      go_wp2_with fail
      refine (HL.out _ HB0.out).mono ?_; rintro e w1 ⟨⟨bl, rfl⟩, hb⟩
      have HB1 := Lib.hid (below_then HB0.out hb)
      obtain ⟨x0, x1, x2, x3⟩ := (HX.out.below hb).reads
      clear hb
      cases bl with
      | false =>
        go_wp2_with fail
        refine (HA.out _).mono ?_; rintro e w2 ⟨rfl, hb⟩
        have HB2 := Lib.hid (below_then HB1.out hb)
        clear hb
        go_wp2_with fail
        go_ret
        exact ⟨rfl, HB2.out⟩
      | true =>
        go_wp2_with fail
        refine (HK.out _ HB1.out).mono ?_; rintro e w2 ⟨rfl, hb⟩
        have HB2 := Lib.hid (below_then HB1.out hb)
        obtain ⟨y0, y1, y2, y3⟩ := quad_hold hb ⟨x0, x1, x2, x3⟩
        clear hb x0 x1 x2 x3
        go_wp2_with fail
        refine (HR.out _ HB2.out).mono ?_; rintro e w3 ⟨rfl, hb⟩
        have HB3 := Lib.hid (below_then HB2.out hb)
        obtain ⟨x0, x1, x2, x3⟩ := quad_hold hb ⟨y0, y1, y2, y3⟩
        clear hb y0 y1 y2 y3
        go_upto_region 7 with fail
        have hk : w3.drew.cell? ⟨w.heap.size, 0, none⟩ = some (.slice a S.ds.length c) ∧ w3.drew.cell? ⟨w.heap.size, 1, none⟩ = some (.slice a2 S.is.length c2) ∧ w3.drew.cell? ⟨w.heap.size, 2, none⟩ = some (.slice a3 S.ns.length c3) ∧ w3.drew.cell? ⟨w.heap.size, 3, none⟩ = some (.slice a4 S.vs.length c4) := ⟨by simp [x0], by simp [x1], by simp [x2], by simp [x3]⟩
        have hBw : Below w.heap.size w w3.drew := HB3.out.drew
        clear x0 x1 x2 x3
        go_region_held3 (fun w' => w'.cell? ⟨w.heap.size, 0, none⟩ = some (.slice a S.ds.length c) ∧ w'.cell? ⟨w.heap.size, 1, none⟩ = some (.slice a2 S.is.length c2) ∧ w'.cell? ⟨w.heap.size, 2, none⟩ = some (.slice a3 S.ns.length c3) ∧ w'.cell? ⟨w.heap.size, 3, none⟩ = some (.slice a4 S.vs.length c4)) (with_reducible exact hk)
          (first
            | (go_at_call 10; refine (HC.out _ hBw).mono ?_; rintro r w4 ⟨rfl, hb2⟩; have hk := quad_hold hb2 hk; have hBw := below_then hBw hb2; clear hb2)
            | (go_at_call 11; refine (HF.out _ hBw).mono ?_; rintro r w4 ⟨rfl, hb2⟩; have hk := quad_hold hb2 hk; have hBw := below_then hBw hb2; clear hb2)
            | (go_at_call 13; refine (HRF.out _ hBw).mono ?_; rintro r w4 ⟨rfl, hb2⟩; have hk := quad_hold hb2 hk; have hBw := below_then hBw hb2; clear hb2)
            | (go_at_call 12; refine (HV.out _ hBw).mono ?_; rintro r w5 ⟨⟨v, rfl, hv⟩, hb2⟩; have hV1 := hv; obtain ⟨pa, pc, rfl, -, -⟩ := hv; have hk := quad_hold hb2 hk; have hBw := below_then hBw hb2; clear hb2)
            | (go_at_call 15; refine (HRV.out _ hBw).mono ?_; rintro r w6 ⟨⟨v, rfl, hv⟩, hb2⟩; have hV1 := hV1.below hb2; have hV2 := hv; obtain ⟨pa2, pc2, rfl, -, -⟩ := hv; have hk := quad_hold hb2 hk; have hBw := below_then hBw hb2; clear hb2)
            | (go_at_call 14; refine (HMa.out _ _ _ hV1 hV2).mono ?_; rintro r w7 ⟨rfl, hd⟩; have hk := quad_hold hd.below hk; have hBw := below_then hBw hd.below; clear hd))
        have HB7 := Lib.hid hBw
        obtain ⟨y0, y1, y2, y3⟩ := hk
        clear hBw hV1 hV2
        go_wp2_with fail
        refine (HRF.out _ HB7.out).mono ?_; rintro e w8 ⟨rfl, hb⟩
        have HB8 := Lib.hid (below_then HB7.out hb)
        clear hb y0 y1 y2 y3
        go_wp2_with fail
        refine (HSu.out _).mono ?_; rintro e w9 ⟨rfl, rfl⟩
        go_wp2_with fail
        refine (HA.out _).mono ?_; rintro e w11 ⟨rfl, hb⟩
        have HB11 := Lib.hid (below_then HB8.out hb)
        clear hb
        go_wp2_with fail
        go_ret
        exact ⟨rfl, HB11.out⟩
  · have e1 : ¬ (checkL S = 0 ∧ m ≤ fullL S.ds) := fun h => hc h.1
    simp only [if_neg e1, decide_eq_false e1] at HK
    simp only [if_neg hc] at HF HV
    have hc2 : ((checkL S : Int) != 0) = true := by simp; omega
    have hc3 : ((checkL S : Int) == (checkL S : Int)) = true := by simp
    generalize (checkL S : Int) = ck at *
    clear hc e1 hm h hw m0 m1
    go_enter Try.func3, Try.ntmps3
    go_wp2_with fail
    refine (HL.out _ HB0.out).mono ?_; rintro e w1 ⟨⟨bl, rfl⟩, hb⟩
    have HB1 := Lib.hid (below_then HB0.out hb)
    obtain ⟨x0, x1, x2, x3⟩ := (HX.out.below hb).reads
    clear hb
    cases bl with
    | false =>
      go_wp2_with fail
      refine (HA.out _).mono ?_; rintro e w2 ⟨rfl, hb⟩
      have HB2 := Lib.hid (below_then HB1.out hb)
      clear hb
      go_wp2_with fail
      go_ret
      exact ⟨rfl, HB2.out⟩
    | true =>
      go_wp2_with fail
      refine (HK.out _ HB1.out).mono ?_; rintro e w2 ⟨rfl, hb⟩
      have HB2 := Lib.hid (below_then HB1.out hb)
      obtain ⟨y0, y1, y2, y3⟩ := quad_hold hb ⟨x0, x1, x2, x3⟩
      clear hb x0 x1 x2 x3
      go_wp2_with fail
      refine (HR.out _ HB2.out).mono ?_; rintro e w3 ⟨rfl, hb⟩
      have HB3 := Lib.hid (below_then HB2.out hb)
      obtain ⟨x0, x1, x2, x3⟩ := quad_hold hb ⟨y0, y1, y2, y3⟩
      clear hb y0 y1 y2 y3
      go_wp2_with fail
      refine (HC.out _ HB3.out).mono ?_; rintro e w4 ⟨rfl, hb⟩
      have HB4 := Lib.hid (below_then HB3.out hb)
      obtain ⟨y0, y1, y2, y3⟩ := quad_hold hb ⟨x0, x1, x2, x3⟩
      clear hb x0 x1 x2 x3
      go_wp2_with fail
      refine (HF.out _ HB4.out).mono ?_; rintro e w5 ⟨rfl, hb⟩
      have HB5 := Lib.hid (below_then HB4.out hb)
      obtain ⟨x0, x1, x2, x3⟩ := quad_hold hb ⟨y0, y1, y2, y3⟩
      clear hb y0 y1 y2 y3
      go_wp2_with fail
      refine (HV.out _ HB5.out).mono ?_; rintro e w6 ⟨⟨v, rfl, hv⟩, hb⟩
      have HB6 := Lib.hid (below_then HB5.out hb)
      obtain ⟨pa, pc, rfl, -, -⟩ := hv
      clear hb x0 x1 x2 x3
      go_wp2_with fail
      refine (HA.out _).mono ?_; rintro e w7 ⟨rfl, hb⟩
      have HB7 := Lib.hid (below_then HB6.out hb)
      clear hb
      go_wp2_with fail
      go_ret
      exact ⟨rfl, HB7.out⟩
set_option maxRecDepth 100000 in
theorem lifted (os : Os) (started : os.Started) (H : Type) (enc : TypeId × Value → H) :
    ReturnsInHanded {} Try.checked os 3 .any (Rows.schemaChecksSpec.pre6 enc Try.prog Try.f3 Rows.schemaChecksRow.domain false) (Rows.schemaChecksSpec.post enc Try.prog Try.f3 false true false false) := by
  refine returnsInHanded_of_change (C := Try.checked) own started (by kernel_rfl) Try.func3
    (ChangeSpec.witness6 (enc := enc) (C := Try.checked) false ⟨#[], #[.agg #[.slice none 0 0, .slice none 0 0, .slice none 0 0, .slice none 0 0], .int .u32 0], []⟩ 8 (by kernel_rfl) (by kernel_rfl) (by kernel_rfl) (by kernel_rfl)) ?_
  intro W base args ds gs before hval0 hW hcnd _
  have hval : ∀ (j : Nat) t v, Try.f3.params[j]? = some t → args[j]? = some v → Value.okWide Try.prog W .any base t v := hval0
  have hW' := hW
  obtain ⟨p, q, hA0, hV, rfl, hfz, hnd⟩ := hW
  have hA : DataW.TrodAll enc Try.prog W 0 (fun _ => true) true Try.f3.params.toList args.toList ds p := hA0
  rw [Try.params3] at hA hval
  obtain ⟨v0, vs0, d0, ds0, p0, q0, hargs, rfl, rfl, h0, r0⟩ := trodAll_cons hA
  obtain ⟨v1, vs1, d1, ds1, p1, q1, rfl, rfl, rfl, h1, r1⟩ := trodAll_cons r0
  obtain ⟨rfl, rfl, rfl⟩ := trodAll_nil r1
  obtain rfl : args = #[v0, v1] := by cases args; simp_all
  obtain ⟨rfl, rfl⟩ := trodVars_none hV
  have k0 := h0
  have lt0 : ∀ x ∈ p0, x.block < W.heap.size := by obtain ⟨m, hm⟩ := k0; exact DataW.trod_lt m _ _ _ hm
  obtain ⟨D0, I0, N0, V0, S0, rfl, s0, w0⟩ := schema_of (hval 0 26 v0 rfl rfl) h0
  obtain ⟨a1, rfl, rfl, rfl, w1⟩ := open_int Try.underlying27 (hval 1 27 v1 rfl rfl) h1
  clear hA0 hval0
  refine (walk D0 I0 N0 V0 S0 a1 W s0 w0 w1).mono fun e W' ⟨he, bel⟩ => ?_
  subst he
  exact ⟨_, rfl, _, _, _, [], _, [], hW', trodAll_mk1 (shut_bool Try.underlying4 _), (trodAll_cons_mk (Below.trod laidOut (by kernel_rfl) (of_decide_eq_true (by kernel_rfl)) k0 bel lt0) (trodAll_cons_mk (shut_int Try.underlying27 w1) trodAll_mk0)), rfl, bel.frame _, fun h => by cases h⟩

theorem over : Rows.schemaChecksRow.holds Try.pinned (OpenSpec.ofChange Rows.schemaChecksSpec) :=
  OpenClaim.holds_of_wide 3 Try.f3 rfl rfl rfl rfl rfl rfl rfl ⟨rfl, rfl, rfl, rfl, rfl⟩ rfl rfl rfl rfl rfl (by kernel_rfl) Try.func3 (by kernel_rfl)
    (of_decide_eq_true (by kernel_rfl)) (by unfold Func.isWrapper; first | (rw [if_pos (by decide +kernel)]; kernel_rfl) | (rw [if_neg (by decide +kernel)]; exact ⟨rfl, rfl⟩))
    (fun os started H enc _ => lifted os started H enc)
end Go.Proofs.Ytdlebcjkokabjaa.schemaChecks
namespace Go.Proofs.Ytdlebcjkokabjaa
/-- The statement. -/
theorem schemaChecks_holds : Rows.SchemaChecksSaid := schemaChecks.over
#print axioms schemaChecks_holds
end Go.Proofs.Ytdlebcjkokabjaa
