/- KeyOrders: for any schema, any set and any two rows of codes the statement's function returns true and changes nothing that was there. No condition. -/
import Derived.Test.YtgbeedjcliajfaaKeyj
import Derived.ProofKit
namespace Go.Proofs.Ytgbeedjcliajfaa.keyOrders
set_option maxRecDepth 100000
open Go.ChangeShapes Go.WideShapes Go.ChangeAt Go.RowKit
set_option linter.unusedVariables false
theorem own : ownKnob Try.prog.godebug = none := by kernel_rfl
theorem laidOut : laidOutB Try.prog = true := by kernel_rfl
set_option maxHeartbeats 8000000 in
theorem walk (D I M V : Value) (S : Sc) (m : Int) (u0 u1 : Value) (l0 l1 : List Int) (w : World) (h : Sch4 w D I M V S) (hw : SWf S) (hm : 0 ≤ m ∧ m ≤ 4294967295) (hu0 : Ints .i64 w u0 l0) (hu1 : Ints .i64 w u1 l1) :
    Calls Try.prog 6 #[SchV D I M V, .int .u32 m, .agg #[u0, u1]] w fun e w' => e = .returned (.bool true) ∧ Below w.heap.size w w' := by
  have HA := Lib.hid (fun w => awake13_any w)
  have hb1 := below_one w (SchO D I M V)
  have hb2 := below_one (w.alloc (SchO D I M V)) (.cells #[u0, u1] 55)
  have HB0 := Lib.hid (below_then hb1 hb2)
  have HX := Lib.hid ((box_new w D I M V).below hb2)
  have HM := Lib.hid (show ((w.alloc (SchO D I M V)).alloc (.cells #[u0, u1] 55)).cell? ⟨w.heap.size + 1, 0, none⟩ = some u0 ∧ ((w.alloc (SchO D I M V)).alloc (.cells #[u0, u1] 55)).cell? ⟨w.heap.size + 1, 1, none⟩ = some u1 by
    refine ⟨by simp [go_sem], by simp [go_sem]⟩)
  have HL := Lib.hid (fun w1 (hb : Below w.heap.size w w1) => slight_any w1 D I M V S (h.below hb))
  have HO0 := Lib.hid (fun w1 (hb : Below w.heap.size w w1) => of_any w1 D I M V u0 S m l0 (h.below hb) hw (hu0.below hb) hm.1 hm.2)
  have HO1 := Lib.hid (fun w1 (hb : Below w.heap.size w w1) => of_any w1 D I M V u1 S m l1 (h.below hb) hw (hu1.below hb) hm.1 hm.2)
  have HI := Lib.hid (fun w k (hk : k ≤ 31) => (rin_any w m k hk hm.1 hm.2).mono fun _ _ h => And.intro h.1 h.2.symm)
  have HU0 := Lib.hid hu0
  have HU1 := Lib.hid hu1
  obtain ⟨⟨p, cc, rfl⟩, ⟨p2, c2, rfl⟩, ⟨p3, c3, rfl⟩, p4, c4, rfl⟩ := h.slices
  obtain ⟨q0, d0, rfl, -, -⟩ := hu0
  obtain ⟨q1, d1, rfl, -, -⟩ := hu1
  by_cases hE : ofE S m l0 = 0 ∧ ofE S m l1 = 0
  · obtain ⟨hE0, hE1⟩ := hE
    obtain ⟨n0, e0, i0⟩ := of_yes hE0
    obtain ⟨-, e1, i1⟩ := of_yes hE1
    obtain ⟨hn6, hz⟩ := sc_few (num_yes n0).1
    rw [hE0, show ofL S m l0 = keyG (dz S.ds) (cz l0) (bitG m) S.ds.length by unfold ofL; rw [if_pos hE0]] at HO0
    rw [hE1, show ofL S m l1 = keyG (dz S.ds) (cz l1) (bitG m) S.ds.length by unfold ofL; rw [if_pos hE1]] at HO1
    have HLt := Lib.hid (fun i (hi : i < S.ds.length) (hp : bitG m i = true) (he : ∀ k, k < i → bitG m k = true → cz l0 k = cz l1 k) (hlt : cz l0 i < cz l1 i) => keyG_less (sizes_one hz) i0 i1 hi hp he hlt)
    have HGt := Lib.hid (fun i (hi : i < S.ds.length) (hp : bitG m i = true) (he : ∀ k, k < i → bitG m k = true → cz l0 k = cz l1 k) (hlt : cz l1 i < cz l0 i) => keyG_less (sizes_one hz) i1 i0 hi hp (fun k hk hb => (he k hk hb).symm) hlt)
    have HEq := Lib.hid (fun (he : ∀ k, k < S.ds.length → bitG m k = true → cz l0 k = cz l1 k) => keyG_congr (d := dz S.ds) he)
    generalize keyG (dz S.ds) (cz l0) (bitG m) S.ds.length = ka at *
    generalize keyG (dz S.ds) (cz l1) (bitG m) S.ds.length = kb at *
    rw [e0] at HO0 HU0 HM HX HB0
    rw [e1] at HO1 HU1 HM HX HB0
    rw [e0, e1]
    clear hE0 hE1 n0 i0 i1 hz h hw hb1 hb2 hm
    go_enter Try.func6, Try.ntmps6
    go_upto_region 1 with fail
    generalize (w.alloc (SchO (.slice p S.ds.length cc) (.slice p2 S.is.length c2) (.slice p3 S.ns.length c3) (.slice p4 S.vs.length c4))).alloc (.cells #[.slice q0 S.ds.length d0, .slice q1 S.ds.length d1] 55) = W at *
    obtain ⟨x0, x1, x2, x3⟩ := HX.out.reads
    go_wp2_with fail
    refine (HL.out _ HB0.out).mono ?_; rintro e w1 ⟨⟨bl, rfl⟩, hb⟩
    have HB1 := Lib.hid hb
    obtain ⟨y0, y1, y2, y3⟩ := quad_hold hb ⟨x0, x1, x2, x3⟩
    have z0 := cell_later hb HM.out.1
    have z1 := cell_later hb HM.out.2
    clear hb x0 x1 x2 x3
    cases bl with
    | false =>
      go_wp2_with fail
      refine (HA.out _).mono ?_; rintro e w2 ⟨rfl, hb⟩
      have HB2 := Lib.hid (below_then HB1.out hb)
      clear hb
      go_wp2_with fail
      go_ret
      exact ⟨rfl, below_then HB0.out HB2.out⟩
    | true =>
      go_wp2_with fail
      refine (HO0.out _ (below_then HB0.out HB1.out)).mono ?_; rintro e w2 ⟨rfl, hb⟩
      have HB2 := Lib.hid (below_then HB1.out hb)
      obtain ⟨x0, x1, x2, x3⟩ := quad_hold hb ⟨y0, y1, y2, y3⟩
      have v0 := cell_later hb z0
      have v1 := cell_later hb z1
      clear hb y0 y1 y2 y3 z0 z1
      go_wp2_with fail
      refine (HO1.out _ (below_then HB0.out HB2.out)).mono ?_; rintro e w3 ⟨rfl, hb⟩
      have HB3 := Lib.hid (below_then HB2.out hb)
      obtain ⟨y0, y1, y2, y3⟩ := quad_hold hb ⟨x0, x1, x2, x3⟩
      have z0 := cell_later hb v0
      have z1 := cell_later hb v1
      clear hb x0 x1 x2 x3 v0 v1
      go_wp2_with fail
      clear y0 y1 y2 y3 z0 z1
      go_loopw [11] (fun i wr => ∃ k : Nat, k ≤ S.ds.length ∧ i = .int .i64 k ∧ Hid (Below W.heap.size W wr) ∧ Hid (∀ j, j < k → bitG m j = true → cz l0 j = cz l1 j)) (fun i _ => S.ds.length - (intOf i).toNat)
      case atStart => exact ⟨0, Nat.zero_le _, rfl, HB3, Lib.hid (fun j hj => by omega)⟩
      case round =>
        obtain ⟨k, hk, rfl, HB, HJ⟩ := hrel
        obtain ⟨x0, x1, x2, x3⟩ := (HX.out.below HB.out).reads
        have z0 := cell_later HB.out HM.out.1
        have z1 := cell_later HB.out HM.out.2
        by_cases hlk : k < S.ds.length
        · have hlk' : (k : Int) < (S.ds.length : Int) := by omega
          have hle : Hid (k + 1 ≤ S.ds.length) := Lib.hid (by omega)
          have HIk := Lib.hid (fun w => HI.out w k (by omega))
          obtain ⟨b0, o0, ha0, hb0, hc0⟩ := HU0.out.cell (i := k) (by omega)
          obtain ⟨b1, o1, ha1, hb1, hc1⟩ := HU1.out.cell (i := k) (by omega)
          subst ha0
          subst ha1
          have hc0 := cell_later (below_then HB0.out HB.out) hc0
          have hc1 := cell_later (below_then HB0.out HB.out) hc1
          have g0 : wr.cell? ⟨b0, o0 + k, none⟩ = some (.int .i64 (cz l0 k)) := hc0
          have g1 : wr.cell? ⟨b1, o1 + k, none⟩ = some (.int .i64 (cz l1 k)) := hc1
          have HNx := Lib.hid (fun (q : bitG m k = true → cz l0 k = cz l1 k) => fun j (hj : j < k + 1) (hb : bitG m j = true) => show cz l0 j = cz l1 j from if e : j = k then e ▸ q (e ▸ hb) else HJ.out j (by omega) hb)
          have hLt := fun hp hlt => HLt.out k hlk hp HJ.out hlt
          have hGt := fun hp hlt => HGt.out k hlk hp HJ.out hlt
          clear hc0 hc1
          generalize cz l0 k = a0 at *
          generalize cz l1 k = a1 at *
          by_cases hbit : bitG m k = true
          · rw [hbit] at HIk
            by_cases hq : a0 = a1
            · subst hq
              have HN2 := Lib.hid (HNx.out (fun _ => rfl))
              have hnn : (a0 != a0) = false := by simp
              clear hLt hGt hbit HNx
              go_upto_region 12 with fail
              go_quiet ((go_at_call 13; exact Calls.quiet_of_same (HIk.out _)))
              have HB4 := Lib.hid (below_drewN HB.out nq)
              go_wp2
              go_roundw
              case rel => exact ⟨k + 1, hle.out, by go_num, HB4, HN2⟩
              case measure => simp [intOf]; omega
            · have hnn : (a0 != a1) = true := by simpa using hq
              have hab : decide (ka < kb) = decide (a0 < a1) ∧ (ka != kb) = true := by
                rcases Int.lt_trichotomy a0 a1 with hlt | he | hgt
                · have := hLt hbit hlt
                  rw [decide_eq_true hlt, decide_eq_true this]
                  exact ⟨rfl, by simp; omega⟩
                · exact absurd he hq
                · have := hGt hbit hgt
                  rw [decide_eq_false (by omega), decide_eq_false (by omega)]
                  exact ⟨rfl, by simp; omega⟩
              obtain ⟨hab1, hab2⟩ := hab
              have hab3 : (decide (ka < kb) == decide (a0 < a1)) = true := by rw [hab1]; simp
              clear hLt hGt hbit HNx hq hab1
              go_upto_region 12 with fail
              go_quiet ((go_at_call 13; exact Calls.quiet_of_same (HIk.out _)))
              have hB4 := below_drewN HB.out nq
              have hb5 : Below wr.heap.size wr (wr.drewN nq) := below_drewN (Below.refl _ _) nq
              have hkk := And.intro (cell_later hb5 z0) (And.intro (cell_later hb5 z1) (And.intro (cell_later hb5 g0) (cell_later hb5 g1)))
              have HB4 := Lib.hid hB4
              clear hb5 hB4 x0 x1 x2 x3 z0 z1 g0 g1
              generalize wr.drewN nq = W5 at *
              go_upto_region 13 with fail
              have hk : W5.drew.cell? ⟨w.heap.size + 1, 0, none⟩ = some (.slice (some ⟨b0, o0, none⟩) S.ds.length d0) ∧ W5.drew.cell? ⟨w.heap.size + 1, 1, none⟩ = some (.slice (some ⟨b1, o1, none⟩) S.ds.length d1) ∧ W5.drew.cell? ⟨b0, o0 + k, none⟩ = some (.int .i64 a0) ∧ W5.drew.cell? ⟨b1, o1 + k, none⟩ = some (.int .i64 a1) := hkk
              have hBw : Below W.heap.size W W5.drew := HB4.out.drew
              clear hkk
              go_region_held3 (fun w' => w'.cell? ⟨w.heap.size + 1, 0, none⟩ = some (.slice (some ⟨b0, o0, none⟩) S.ds.length d0) ∧ w'.cell? ⟨w.heap.size + 1, 1, none⟩ = some (.slice (some ⟨b1, o1, none⟩) S.ds.length d1) ∧ w'.cell? ⟨b0, o0 + k, none⟩ = some (.int .i64 a0) ∧ w'.cell? ⟨b1, o1 + k, none⟩ = some (.int .i64 a1)) (with_reducible exact hk)
                (first
                  | (go_at_call 8; refine (HA.out _).mono ?_; rintro r w6 ⟨rfl, hb2⟩; have hk := quad_hold hb2 hk; have hBw := below_then hBw hb2; clear hb2))
              have HB7 := Lib.hid hBw
              clear hBw hk
              go_wp2_with fail
              go_ret
              exact ⟨rfl, below_then HB0.out HB7.out⟩
          · rw [eq_false_of_ne_true hbit] at HIk
            have HN2 := Lib.hid (HNx.out (fun q => absurd q hbit))
            clear hLt hGt hbit HNx g0 g1
            go_upto_region 12 with fail
            go_quiet ((go_at_call 13; exact Calls.quiet_of_same (HIk.out _)))
            have HB4 := Lib.hid (below_drewN HB.out nq)
            go_wp2
            go_roundw
            case rel => exact ⟨k + 1, hle.out, by go_num, HB4, HN2⟩
            case measure => simp [intOf]; omega
        · have : k = S.ds.length := by omega
          subst this
          have hE := HEq.out HJ.out
          subst hE
          have haa : (ka == ka) = true := by simp
          clear z0 z1
          go_wp2_with fail
          refine (HA.out _).mono ?_; rintro e w6 ⟨rfl, hb⟩
          have HB6 := Lib.hid (below_then HB.out hb)
          clear hb
          go_wp2_with fail
          go_ret
          exact ⟨rfl, below_then HB0.out HB6.out⟩
  · have hbad : ((ofE S m l0 : Int) != 0) = true ∨ ((ofE S m l1 : Int) != 0) = true := by
      by_cases h0 : ofE S m l0 = 0
      · exact .inr (by simp; exact fun h1 => hE ⟨h0, h1⟩)
      · exact .inl (by simp; omega)
    generalize (ofE S m l0 : Int) = ne0 at *
    generalize (ofE S m l1 : Int) = ne1 at *
    generalize ofL S m l0 = ka at *
    generalize ofL S m l1 = kb at *
    clear h hw hb1 hb2 hm hE HU0 HU1 HI
    go_enter Try.func6, Try.ntmps6
    go_upto_region 1 with fail
    generalize (w.alloc (SchO (.slice p S.ds.length cc) (.slice p2 S.is.length c2) (.slice p3 S.ns.length c3) (.slice p4 S.vs.length c4))).alloc (.cells #[.slice q0 l0.length d0, .slice q1 l1.length d1] 55) = W at *
    obtain ⟨x0, x1, x2, x3⟩ := HX.out.reads
    go_wp2_with fail
    refine (HL.out _ HB0.out).mono ?_; rintro e w1 ⟨⟨bl, rfl⟩, hb⟩
    have HB1 := Lib.hid hb
    obtain ⟨y0, y1, y2, y3⟩ := quad_hold hb ⟨x0, x1, x2, x3⟩
    have z0 := cell_later hb HM.out.1
    have z1 := cell_later hb HM.out.2
    clear hb x0 x1 x2 x3
    have hlens : bl = false ∨ (bl = true ∧ 100 < l0.length) ∨ (bl = true ∧ l0.length ≤ 100 ∧ 100 < l1.length) ∨ (bl = true ∧ l0.length ≤ 100 ∧ l1.length ≤ 100) := by cases bl <;> simp; omega
    rcases hlens with rfl | ⟨rfl, k0⟩ | ⟨rfl, k0, k1⟩ | ⟨rfl, k0, k1⟩
    · go_wp2_with fail
      refine (HA.out _).mono ?_; rintro e w2 ⟨rfl, hb⟩
      have HB2 := Lib.hid (below_then HB1.out hb)
      clear hb
      go_wp2_with fail
      go_ret
      exact ⟨rfl, below_then HB0.out HB2.out⟩
    · go_wp2_with fail
      refine (HA.out _).mono ?_; rintro e w2 ⟨rfl, hb⟩
      have HB2 := Lib.hid (below_then HB1.out hb)
      clear hb
      go_wp2_with fail
      go_ret
      exact ⟨rfl, below_then HB0.out HB2.out⟩
    · go_wp2_with fail
      refine (HA.out _).mono ?_; rintro e w2 ⟨rfl, hb⟩
      have HB2 := Lib.hid (below_then HB1.out hb)
      clear hb
      go_wp2_with fail
      go_ret
      exact ⟨rfl, below_then HB0.out HB2.out⟩
    · go_wp2_with fail
      refine (HO0.out _ (below_then HB0.out HB1.out)).mono ?_; rintro e w2 ⟨rfl, hb⟩
      have HB2 := Lib.hid (below_then HB1.out hb)
      obtain ⟨x0, x1, x2, x3⟩ := quad_hold hb ⟨y0, y1, y2, y3⟩
      have v0 := cell_later hb z0
      have v1 := cell_later hb z1
      clear hb y0 y1 y2 y3 z0 z1
      go_wp2_with fail
      refine (HO1.out _ (below_then HB0.out HB2.out)).mono ?_; rintro e w3 ⟨rfl, hb⟩
      have HB3 := Lib.hid (below_then HB2.out hb)
      clear hb x0 x1 x2 x3 v0 v1
      cases hn0 : (ne0 != 0) with
      | true =>
        go_wp2_with fail
        refine (HA.out _).mono ?_; rintro e w4 ⟨rfl, hb⟩
        have HB4 := Lib.hid (below_then HB3.out hb)
        clear hb
        go_wp2_with fail
        go_ret
        exact ⟨rfl, below_then HB0.out HB4.out⟩
      | false =>
        have hn1 : (ne1 != 0) = true := hbad.resolve_left (by rw [hn0]; decide)
        go_wp2_with fail
        refine (HA.out _).mono ?_; rintro e w4 ⟨rfl, hb⟩
        have HB4 := Lib.hid (below_then HB3.out hb)
        clear hb
        go_wp2_with fail
        go_ret
        exact ⟨rfl, below_then HB0.out HB4.out⟩
set_option maxRecDepth 100000 in
theorem lifted (os : Os) (started : os.Started) (H : Type) (enc : TypeId × Value → H) :
    ReturnsInHanded {} Try.checked os 6 .any (Rows.keyOrdersSpec.pre6 enc Try.prog Try.f6 Rows.keyOrdersRow.domain false) (Rows.keyOrdersSpec.post enc Try.prog Try.f6 false true false false) := by
  refine returnsInHanded_of_change (C := Try.checked) own started (by kernel_rfl) Try.func6
    (ChangeSpec.witness6 (enc := enc) (C := Try.checked) false ⟨#[], #[.agg #[.slice none 0 0, .slice none 0 0, .slice none 0 0, .slice none 0 0], .int .u32 0, .agg #[.slice none 0 0, .slice none 0 0]], []⟩ 8 (by kernel_rfl) (by kernel_rfl) (by kernel_rfl) (by kernel_rfl)) ?_
  intro W base args ds gs before hval0 hW hcnd _
  have hval : ∀ (j : Nat) t v, Try.f6.params[j]? = some t → args[j]? = some v → Value.okWide Try.prog W .any base t v := hval0
  have hW' := hW
  obtain ⟨p, q, hA0, hV, rfl, hfz, hnd⟩ := hW
  have hA : DataW.TrodAll enc Try.prog W 0 (fun _ => true) true Try.f6.params.toList args.toList ds p := hA0
  rw [Try.params6] at hA hval
  obtain ⟨v0, vs0, d0, ds0, p0, q0, hargs, rfl, rfl, h0, r0⟩ := trodAll_cons hA
  obtain ⟨v1, vs1, d1, ds1, p1, q1, rfl, rfl, rfl, h1, r1⟩ := trodAll_cons r0
  obtain ⟨v2, vs2, d2, ds2, p2, q2, rfl, rfl, rfl, h2, r2⟩ := trodAll_cons r1
  obtain ⟨rfl, rfl, rfl⟩ := trodAll_nil r2
  obtain rfl : args = #[v0, v1, v2] := by cases args; simp_all
  obtain ⟨rfl, rfl⟩ := trodVars_none hV
  have k0 := h0
  have lt0 : ∀ x ∈ p0, x.block < W.heap.size := by obtain ⟨m, hm⟩ := k0; exact DataW.trod_lt m _ _ _ hm
  obtain ⟨D0, I0, N0, V0, S0, rfl, s0, w0⟩ := schema_of (hval 0 26 v0 rfl rfl) h0
  obtain ⟨a1, rfl, rfl, rfl, w1⟩ := open_int Try.underlying27 (hval 1 27 v1 rfl rfl) h1
  have k2 := h2
  have lt2 : ∀ x ∈ p2, x.block < W.heap.size := by obtain ⟨m, hm⟩ := k2; exact DataW.trod_lt m _ _ _ hm
  obtain ⟨u2, t2, l2, o2, rfl, s2, w2⟩ := rows2_of (hval 2 55 v2 rfl rfl) h2
  clear hA0 hval0
  refine (walk D0 I0 N0 V0 S0 a1 u2 t2 l2 o2 W s0 w0 (bounds_u32 w1) s2 w2).mono fun e W' ⟨he, bel⟩ => ?_
  subst he
  exact ⟨_, rfl, _, _, _, [], _, [], hW', trodAll_mk1 (shut_bool Try.underlying4 _), (trodAll_cons_mk (Below.trod laidOut (by kernel_rfl) (of_decide_eq_true (by kernel_rfl)) k0 bel lt0) (trodAll_cons_mk (shut_int Try.underlying27 w1) (trodAll_cons_mk (Below.trod laidOut (by kernel_rfl) (of_decide_eq_true (by kernel_rfl)) k2 bel lt2) trodAll_mk0))), rfl, bel.frame _, fun h => by cases h⟩

theorem over : Rows.keyOrdersRow.holds Try.pinned (OpenSpec.ofChange Rows.keyOrdersSpec) :=
  OpenClaim.holds_of_wide 6 Try.f6 rfl rfl rfl rfl rfl rfl rfl ⟨rfl, rfl, rfl, rfl, rfl⟩ rfl rfl rfl rfl rfl (by kernel_rfl) Try.func6 (by kernel_rfl)
    (of_decide_eq_true (by kernel_rfl)) (by unfold Func.isWrapper; first | (rw [if_pos (by decide +kernel)]; kernel_rfl) | (rw [if_neg (by decide +kernel)]; exact ⟨rfl, rfl⟩))
    (fun os started H enc _ => lifted os started H enc)
end Go.Proofs.Ytgbeedjcliajfaa.keyOrders
namespace Go.Proofs.Ytgbeedjcliajfaa
/-- The statement. -/
theorem keyOrders_holds : Rows.KeyOrdersSaid := keyOrders.over
#print axioms keyOrders_holds
end Go.Proofs.Ytgbeedjcliajfaa
