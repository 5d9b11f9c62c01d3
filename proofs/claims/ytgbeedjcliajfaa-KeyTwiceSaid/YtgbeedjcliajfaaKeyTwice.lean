/- KeyTwice: for any schema, any three sets and any key the statement's function returns true and changes nothing that was there. No condition. -/
import Derived.Test.YtgbeedjcliajfaaKeyj
import Derived.ProofKit
namespace Go.Proofs.Ytgbeedjcliajfaa.keyTwice
set_option maxRecDepth 100000
open Go.ChangeShapes Go.WideShapes Go.ChangeAt Go.RowKit
set_option linter.unusedVariables false
theorem own : ownKnob Try.prog.godebug = none := by kernel_rfl
theorem laidOut : laidOutB Try.prog = true := by kernel_rfl
theorem and_le {a b : Int} (a0 : 0 ≤ a) (a1 : a ≤ 4294967295) (b0 : 0 ≤ b) (b1 : b ≤ 4294967295) : bits .and .u32 a b ≤ a := by
  rw [u32_and a b a0 (by omega) b0 (by omega)]
  have := Nat.and_le_left (n := a.toNat) (m := b.toNat)
  omega
/-- What goes down in two steps comes to the same as in one. -/
theorem two_steps {S : Sc} {a b c k : Int} (a0 : 0 ≤ a) (b0 : 0 ≤ b) (b1 : b ≤ 4294967295) (c0 : 0 ≤ c) (c1 : c ≤ 4294967295) (hba : b ≤ a) (hb : ∀ j, bitG b j = true → bitG a j = true) (hc : ∀ j, bitG c j = true → bitG b j = true) (k0 : 0 ≤ k) :
    downE S a b k = downE S a c k ∧ (downE S a b k ≠ 0 → downL S a b k = 0 ∧ downL S a c k = 0) ∧ (downE S a b k = 0 → 0 ≤ downL S a b k ∧ downL S a b k ≤ 18446744073709551615 ∧ downE S b c (downL S a b k) = 0 ∧ downL S b c (downL S a b k) = downL S a c k) := by
  have s1 : subM b a = true := (sub_iff b0 b1).2 hb
  have s2 : subM c a = true := (sub_iff c0 c1).2 fun j hj => hb j (hc j hj)
  have s3 : subM c b = true := (sub_iff c0 c1).2 hc
  have hE : downE S a b k = downE S a c k := by unfold downE; rw [s1, s2]
  refine ⟨hE, fun h => ⟨by unfold downL; rw [if_neg h], by unfold downL; rw [if_neg (hE ▸ h)]⟩, fun h => ?_⟩
  obtain ⟨n1, -, h3⟩ := down_yes h
  obtain ⟨n2, n3⟩ := num_yes n1
  obtain ⟨-, hz⟩ := sc_few n2
  have n4 : numE S b = 0 := by unfold numE; rw [if_pos n2, if_pos (by omega)]
  have hr := down_range (p := bitG a) (p' := bitG b) (sizes_one hz) (fun j _ => hb j) k
  have hl : downL S a b k = downG (dz S.ds) (bitG a) (bitG b) S.ds.length k := by unfold downL; rw [if_pos h]
  have hl2 : downL S a c k = downG (dz S.ds) (bitG a) (bitG c) S.ds.length k := by unfold downL; rw [if_pos (hE ▸ h)]
  have hk := keys_num S.ds b S.ds.length
  have hkr := keys_range b hz S.ds.length (Nat.le_refl _)
  have hpr := prod_pos hz S.ds.length (Nat.le_refl _)
  have hE2 : downE S b c (downL S a b k) = 0 := by unfold downE; rw [if_pos n4, if_pos s3, if_neg (by rw [hl, hk]; omega)]
  refine ⟨by omega, by omega, hE2, ?_⟩
  rw [hl2, show downL S b c (downL S a b k) = downG (dz S.ds) (bitG b) (bitG c) S.ds.length (downL S a b k) by unfold downL; unfold downL at hE2; rw [if_pos hE2], hl]
  exact down_twice (sizes_one hz) (fun j _ => hb j) (fun j _ => hc j) k
set_option maxHeartbeats 8000000 in
theorem walk (D I M V : Value) (S : Sc) (m0 m1 m2 k : Int) (w : World) (h : Sch4 w D I M V S) (hw : SWf S) (hm0 : 0 ≤ m0 ∧ m0 ≤ 4294967295) (hm1 : 0 ≤ m1 ∧ m1 ≤ 4294967295) (hm2 : 0 ≤ m2 ∧ m2 ≤ 4294967295) (hk : 0 ≤ k ∧ k ≤ 18446744073709551615) :
    Calls Try.prog 5 #[SchV D I M V, .agg #[.int .u32 m0, .int .u32 m1, .int .u32 m2], .int .u64 k] w fun e w' => e = .returned (.bool true) ∧ Below w.heap.size w w' := by
  have HA := Lib.hid (fun w => awake13_any w)
  have hb1 := below_one w (SchO D I M V)
  have hb2 := below_one (w.alloc (SchO D I M V)) (.cells #[.int .u32 m0, .int .u32 m1, .int .u32 m2] 53)
  have HB0 := Lib.hid (below_then hb1 hb2)
  have HX := Lib.hid ((box_new w D I M V).below hb2)
  have HM := Lib.hid (show ((w.alloc (SchO D I M V)).alloc (.cells #[.int .u32 m0, .int .u32 m1, .int .u32 m2] 53)).cell? ⟨w.heap.size + 1, 0, none⟩ = some (.int .u32 m0) ∧ ((w.alloc (SchO D I M V)).alloc (.cells #[.int .u32 m0, .int .u32 m1, .int .u32 m2] 53)).cell? ⟨w.heap.size + 1, 1, none⟩ = some (.int .u32 m1) ∧ ((w.alloc (SchO D I M V)).alloc (.cells #[.int .u32 m0, .int .u32 m1, .int .u32 m2] 53)).cell? ⟨w.heap.size + 1, 2, none⟩ = some (.int .u32 m2) by
    refine ⟨by simp [go_sem], by simp [go_sem], by simp [go_sem]⟩)
  have HL := Lib.hid (fun w1 (hb : Below w.heap.size w w1) => slight_any w1 D I M V S (h.below hb))
  have ab := and_bits hm0.1 hm0.2 hm1.1 hm1.2
  have al := and_le hm0.1 hm0.2 hm1.1 hm1.2
  have ac := and_bits ab.1 ab.2.1 hm2.1 hm2.2
  generalize hA : bits .and .u32 m0 m1 = b at *
  generalize hC : bits .and .u32 b m2 = c at *
  have hT := two_steps (S := S) hm0.1 ab.1 ab.2.1 ac.1 ac.2.1 al (fun j hj => by rw [ab.2.2] at hj; simp at hj; exact hj.1) (fun j hj => by rw [ac.2.2] at hj; simp at hj; exact hj.1) hk.1
  have HD1 := Lib.hid (fun w1 (hb : Below w.heap.size w w1) => down_any w1 D I M V S m0 b k (h.below hb) hw hm0.1 hm0.2 ab.1 ab.2.1 hk.1 hk.2)
  have HD2 := Lib.hid (fun w1 (hb : Below w.heap.size w w1) => down_any w1 D I M V S m0 c k (h.below hb) hw hm0.1 hm0.2 ac.1 ac.2.1 hk.1 hk.2)
  by_cases hE : downE S m0 b k = 0
  · obtain ⟨t0, t1, t2, t3⟩ := hT.2.2 hE
    have HD3 := Lib.hid (fun w1 (hb : Below w.heap.size w w1) => down_any w1 D I M V S b c (downL S m0 b k) (h.below hb) hw ab.1 ab.2.1 ac.1 ac.2.1 t0 t1)
    rw [hE] at HD1
    rw [← hT.1, hE] at HD2
    rw [t2, t3] at HD3
    obtain ⟨⟨p, cc, rfl⟩, ⟨p2, c2, rfl⟩, ⟨p3, c3, rfl⟩, p4, c4, rfl⟩ := h.slices
    generalize downL S m0 b k = x at *
    generalize downL S m0 c k = y at *
    clear hT hE t2 t3 h hw hb1 hb2 ab ac al t0 t1 hm0 hm1 hm2 hk
    go_enter Try.func5, Try.ntmps5
    go_upto_region 1 with fail
    generalize (w.alloc (SchO (.slice p S.ds.length cc) (.slice p2 S.is.length c2) (.slice p3 S.ns.length c3) (.slice p4 S.vs.length c4))).alloc (.cells #[.int .u32 m0, .int .u32 m1, .int .u32 m2] 53) = W at *
    obtain ⟨x0, x1, x2, x3⟩ := HX.out.reads
    go_wp2_with fail
    refine (HL.out _ HB0.out).mono ?_; rintro e w1 ⟨⟨bl, rfl⟩, hb⟩
    have HB1 := Lib.hid (below_then HB0.out hb)
    obtain ⟨y0, y1, y2, y3⟩ := quad_hold hb ⟨x0, x1, x2, x3⟩
    have z0 := cell_later hb HM.out.1
    have z1 := cell_later hb HM.out.2.1
    have z2 := cell_later hb HM.out.2.2
    clear hb x0 x1 x2 x3
    cases bl with
    | false =>
      go_wp2_with fail
      refine (HA.out _).mono ?_; rintro e w2 ⟨rfl, hb⟩
      have HB2 := Lib.hid (below_then HB1.out hb)
      clear hb
      go_wp2_with fail
      go_ret
      exact ⟨rfl, HB2.out⟩
    | true =>
      go_upto_region 3 with fail
      go_quiet (fail)
      have HB2 := Lib.hid (below_drewN HB1.out nq)
      have hb3 : Below w1.heap.size w1 (w1.drewN nq) := below_drewN (Below.refl _ _) nq
      obtain ⟨x0, x1, x2, x3⟩ := quad_hold hb3 ⟨y0, y1, y2, y3⟩
      clear y0 y1 y2 y3 z0 z1 z2 hb3
      generalize w1.drewN nq = W2 at *
      go_wp2_with fail
      refine (HD1.out _ HB2.out).mono ?_; rintro e w3 ⟨rfl, hb⟩
      have HB3 := Lib.hid (below_then HB2.out hb)
      obtain ⟨y0, y1, y2, y3⟩ := quad_hold hb ⟨x0, x1, x2, x3⟩
      clear hb x0 x1 x2 x3
      go_wp2_with fail
      refine (HD2.out _ HB3.out).mono ?_; rintro e w4 ⟨rfl, hb⟩
      have HB4 := Lib.hid (below_then HB3.out hb)
      obtain ⟨x0, x1, x2, x3⟩ := quad_hold hb ⟨y0, y1, y2, y3⟩
      clear hb y0 y1 y2 y3
      go_wp2_with fail
      refine (HD3.out _ HB4.out).mono ?_; rintro e w5 ⟨rfl, hb⟩
      have HB5 := Lib.hid (below_then HB4.out hb)
      clear hb x0 x1 x2 x3
      have hyy : (y == y) = true := by simp
      go_wp2_with fail
      refine (HA.out _).mono ?_; rintro e w6 ⟨rfl, hb⟩
      have HB6 := Lib.hid (below_then HB5.out hb)
      clear hb
      go_wp2_with fail
      go_ret
      exact ⟨rfl, HB6.out⟩
  · obtain ⟨t0, t1⟩ := hT.2.1 hE
    rw [t0] at HD1
    rw [← hT.1, t1] at HD2
    have hne : ((downE S m0 b k : Int) != 0) = true := by simp; omega
    have hee : ((downE S m0 b k : Int) == (downE S m0 b k : Int)) = true := by simp
    obtain ⟨⟨p, cc, rfl⟩, ⟨p2, c2, rfl⟩, ⟨p3, c3, rfl⟩, p4, c4, rfl⟩ := h.slices
    generalize (downE S m0 b k : Int) = ne at *
    clear hT hE t0 t1 h hw hb1 hb2 ab ac al hm0 hm1 hm2 hk
    go_enter Try.func5, Try.ntmps5
    go_upto_region 1 with fail
    generalize (w.alloc (SchO (.slice p S.ds.length cc) (.slice p2 S.is.length c2) (.slice p3 S.ns.length c3) (.slice p4 S.vs.length c4))).alloc (.cells #[.int .u32 m0, .int .u32 m1, .int .u32 m2] 53) = W at *
    obtain ⟨x0, x1, x2, x3⟩ := HX.out.reads
    go_wp2_with fail
    refine (HL.out _ HB0.out).mono ?_; rintro e w1 ⟨⟨bl, rfl⟩, hb⟩
    have HB1 := Lib.hid (below_then HB0.out hb)
    obtain ⟨y0, y1, y2, y3⟩ := quad_hold hb ⟨x0, x1, x2, x3⟩
    have z0 := cell_later hb HM.out.1
    have z1 := cell_later hb HM.out.2.1
    have z2 := cell_later hb HM.out.2.2
    clear hb x0 x1 x2 x3
    cases bl with
    | false =>
      go_wp2_with fail
      refine (HA.out _).mono ?_; rintro e w2 ⟨rfl, hb⟩
      have HB2 := Lib.hid (below_then HB1.out hb)
      clear hb
      go_wp2_with fail
      go_ret
      exact ⟨rfl, HB2.out⟩
    | true =>
      go_upto_region 3 with fail
      go_quiet (fail)
      have HB2 := Lib.hid (below_drewN HB1.out nq)
      have hb3 : Below w1.heap.size w1 (w1.drewN nq) := below_drewN (Below.refl _ _) nq
      obtain ⟨x0, x1, x2, x3⟩ := quad_hold hb3 ⟨y0, y1, y2, y3⟩
      clear y0 y1 y2 y3 z0 z1 z2 hb3
      generalize w1.drewN nq = W2 at *
      go_wp2_with fail
      refine (HD1.out _ HB2.out).mono ?_; rintro e w3 ⟨rfl, hb⟩
      have HB3 := Lib.hid (below_then HB2.out hb)
      obtain ⟨y0, y1, y2, y3⟩ := quad_hold hb ⟨x0, x1, x2, x3⟩
      clear hb x0 x1 x2 x3
      go_wp2_with fail
      refine (HD2.out _ HB3.out).mono ?_; rintro e w4 ⟨rfl, hb⟩
      have HB4 := Lib.hid (below_then HB3.out hb)
      clear hb y0 y1 y2 y3
      go_wp2_with fail
      refine (HA.out _).mono ?_; rintro e w6 ⟨rfl, hb⟩
      have HB6 := Lib.hid (below_then HB4.out hb)
      clear hb
      go_wp2_with fail
      go_ret
      exact ⟨rfl, HB6.out⟩
set_option maxRecDepth 100000 in
theorem lifted (os : Os) (started : os.Started) (H : Type) (enc : TypeId × Value → H) :
    ReturnsInHanded {} Try.checked os 5 .any (Rows.keyTwiceSpec.pre6 enc Try.prog Try.f5 Rows.keyTwiceRow.domain false) (Rows.keyTwiceSpec.post enc Try.prog Try.f5 false true false false) := by
  refine returnsInHanded_of_change (C := Try.checked) own started (by kernel_rfl) Try.func5
    (ChangeSpec.witness6 (enc := enc) (C := Try.checked) false ⟨#[], #[.agg #[.slice none 0 0, .slice none 0 0, .slice none 0 0, .slice none 0 0], .agg #[.int .u32 0, .int .u32 0, .int .u32 0], .int .u64 0], []⟩ 8 (by kernel_rfl) (by kernel_rfl) (by kernel_rfl) (by kernel_rfl)) ?_
  intro W base args ds gs before hval0 hW hcnd _
  have hval : ∀ (j : Nat) t v, Try.f5.params[j]? = some t → args[j]? = some v → Value.okWide Try.prog W .any base t v := hval0
  have hW' := hW
  obtain ⟨p, q, hA0, hV, rfl, hfz, hnd⟩ := hW
  have hA : DataW.TrodAll enc Try.prog W 0 (fun _ => true) true Try.f5.params.toList args.toList ds p := hA0
  rw [Try.params5] at hA hval
  obtain ⟨v0, vs0, d0, ds0, p0, q0, hargs, rfl, rfl, h0, r0⟩ := trodAll_cons hA
  obtain ⟨v1, vs1, d1, ds1, p1, q1, rfl, rfl, rfl, h1, r1⟩ := trodAll_cons r0
  obtain ⟨v2, vs2, d2, ds2, p2, q2, rfl, rfl, rfl, h2, r2⟩ := trodAll_cons r1
  obtain ⟨rfl, rfl, rfl⟩ := trodAll_nil r2
  obtain rfl : args = #[v0, v1, v2] := by cases args; simp_all
  obtain ⟨rfl, rfl⟩ := trodVars_none hV
  have k0 := h0
  have lt0 : ∀ x ∈ p0, x.block < W.heap.size := by obtain ⟨m, hm⟩ := k0; exact DataW.trod_lt m _ _ _ hm
  obtain ⟨D0, I0, N0, V0, S0, rfl, s0, w0⟩ := schema_of (hval 0 26 v0 rfl rfl) h0
  have k1 := h1
  have lt1 : ∀ x ∈ p1, x.block < W.heap.size := by obtain ⟨m, hm⟩ := k1; exact DataW.trod_lt m _ _ _ hm
  obtain ⟨x1, y1, z1, rfl, e1, f1, g1⟩ := sets3_of (hval 1 53 v1 rfl rfl) h1
  obtain ⟨a2, rfl, rfl, rfl, w2⟩ := open_int Try.underlying31 (hval 2 31 v2 rfl rfl) h2
  clear hA0 hval0
  refine (walk D0 I0 N0 V0 S0 x1 y1 z1 a2 W s0 w0 e1 f1 g1 (bounds_u64 w2)).mono fun e W' ⟨he, bel⟩ => ?_
  subst he
  exact ⟨_, rfl, _, _, _, [], _, [], hW', trodAll_mk1 (shut_bool Try.underlying4 _), (trodAll_cons_mk (Below.trod laidOut (by kernel_rfl) (of_decide_eq_true (by kernel_rfl)) k0 bel lt0) (trodAll_cons_mk (Below.trod laidOut (by kernel_rfl) (of_decide_eq_true (by kernel_rfl)) k1 bel lt1) (trodAll_cons_mk (shut_int Try.underlying31 w2) trodAll_mk0))), rfl, bel.frame _, fun h => by cases h⟩

theorem over : Rows.keyTwiceRow.holds Try.pinned (OpenSpec.ofChange Rows.keyTwiceSpec) :=
  OpenClaim.holds_of_wide 5 Try.f5 rfl rfl rfl rfl rfl rfl rfl ⟨rfl, rfl, rfl, rfl, rfl⟩ rfl rfl rfl rfl rfl (by kernel_rfl) Try.func5 (by kernel_rfl)
    (of_decide_eq_true (by kernel_rfl)) (by unfold Func.isWrapper; first | (rw [if_pos (by decide +kernel)]; kernel_rfl) | (rw [if_neg (by decide +kernel)]; exact ⟨rfl, rfl⟩))
    (fun os started H enc _ => lifted os started H enc)
end Go.Proofs.Ytgbeedjcliajfaa.keyTwice
namespace Go.Proofs.Ytgbeedjcliajfaa
/-- The statement. -/
theorem keyTwice_holds : Rows.KeyTwiceSaid := keyTwice.over
#print axioms keyTwice_holds
end Go.Proofs.Ytgbeedjcliajfaa
