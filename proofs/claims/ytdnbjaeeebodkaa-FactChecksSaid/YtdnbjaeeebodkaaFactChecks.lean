/- FactChecks: for any schema and any facts the statement's function returns true and changes nothing that was there. No condition. -/
import Derived.Test.YtdnbjaeeebodkaaFaci
import Derived.Test.YtdnbjaeeebodkaaFacm
import Derived.Test.YtdnbjaeeebodkaaFaco
import Derived.ProofKit
namespace Go.Proofs.Ytdnbjaeeebodkaa.factChecks
set_option maxRecDepth 100000
open Go.ChangeShapes Go.WideShapes Go.ChangeAt Go.RowKit
set_option linter.unusedVariables false
theorem own : ownKnob Try.prog.godebug = none := by kernel_rfl
theorem laidOut : laidOutB Try.prog = true := by kernel_rfl
theorem ten_hold {w w' : World} (hb : Below w.heap.size w w') {p0 p1 p2 p3 q0 q1 q2 r0 r1 r2 : Addr} {a0 a1 a2 a3 b0 b1 b2 c0 c1 c2 : Value}
    (h : w.cell? p0 = some a0 ∧ w.cell? p1 = some a1 ∧ w.cell? p2 = some a2 ∧ w.cell? p3 = some a3 ∧ w.cell? q0 = some b0 ∧ w.cell? q1 = some b1 ∧ w.cell? q2 = some b2 ∧ w.cell? r0 = some c0 ∧ w.cell? r1 = some c1 ∧ w.cell? r2 = some c2) :
    w'.cell? p0 = some a0 ∧ w'.cell? p1 = some a1 ∧ w'.cell? p2 = some a2 ∧ w'.cell? p3 = some a3 ∧ w'.cell? q0 = some b0 ∧ w'.cell? q1 = some b1 ∧ w'.cell? q2 = some b2 ∧ w'.cell? r0 = some c0 ∧ w'.cell? r1 = some c1 ∧ w'.cell? r2 = some c2 :=
  ⟨cell_hold hb h.1, cell_hold hb h.2.1, cell_hold hb h.2.2.1, cell_hold hb h.2.2.2.1, cell_hold hb h.2.2.2.2.1, cell_hold hb h.2.2.2.2.2.1, cell_hold hb h.2.2.2.2.2.2.1, cell_hold hb h.2.2.2.2.2.2.2.1, cell_hold hb h.2.2.2.2.2.2.2.2.1, cell_hold hb h.2.2.2.2.2.2.2.2.2⟩
theorem g_yes {S : Sc} {f : Fa} (h : checkL S = 0) : (if checkL S = 0 then ((fitsL S f : Nat) : Int) else 1) = ((fitsL S f : Nat) : Int) := if_pos h
theorem g_no {S : Sc} {f : Fa} (h : checkL S ≠ 0) : (if checkL S = 0 then ((fitsL S f : Nat) : Int) else 1) = 1 := if_neg h
set_option maxHeartbeats 16000000 in
theorem walk (D I M V : Value) (S : Sc) (v : Value) (l : List Fa) (w : World) (h : Sch4 w D I M V S) (hw : SWf S) (hv : Facts w v l) (hf : ∀ f ∈ l, FaWf f) :
    Calls Try.prog 3 #[SchV D I M V, v] w fun e w' => e = .returned (.bool true) ∧ Below w.heap.size w w' := by
  have HA := Lib.hid (fun w => fawake_any w)
  have HB0 := Lib.hid (below_one w (SchO D I M V))
  have HX := Lib.hid (box_new w D I M V)
  have HL := Lib.hid (fun w1 (hb : Below w.heap.size w w1) => slight_any w1 D I M V S (h.below hb))
  have HFL := Lib.hid (fun w1 (hb : Below w.heap.size w w1) => flight_any w1 v l (hv.below hb))
  have HP := Lib.hid (fun w1 (hb : Below w.heap.size w w1) => pbatch_any w1 D I M V v S l (h.below hb) hw (hv.below hb) hf)
  have HR := Lib.hid (fun w1 (hb : Below w.heap.size w w1) => rbatch_any w1 D I M V v S l (h.below hb) hw (hv.below hb) hf)
  have HC := Lib.hid (fun w1 (hb : Below w.heap.size w w1) => rcheck_any w1 D I M V S (h.below hb) hw)
  have HF := Lib.hid (fun w1 k (hk : k < l.length) C J N (h1 : Fact3 w C J N l[k]) (hb1 : Below w.heap.size w w1) => rfits_any w1 D I M V C J N S l[k] (h.below hb1) (h1.below hb1) (hf _ (List.getElem_mem hk)))
  have HK := Lib.hid (fun w1 k (hk : k < l.length) C J N (h1 : Fact3 w C J N l[k]) (hb1 : Below w.heap.size w w1) => fcheck_any w1 D I M V C J N S l[k] (h.below hb1) hw (h1.below hb1) (hf _ (List.getElem_mem hk)))
  have HS := Lib.hid (fun w1 k (hk : k < l.length) C J N C' J' N' (h1 : Fact3 w C J N l[k]) (hk0 : 0 < l.length) (h2 : Fact3 w C' J' N' l[0]) (hb1 : Below w.heap.size w w1) => psame_any w1 C J N C' J' N' l[k] l[0] (h1.below hb1) (h2.below hb1) (hf _ (List.getElem_mem hk)) (hf _ (List.getElem_mem hk0)))
  have HT := Lib.hid (fun w1 k (hk : k < l.length) C J N C' J' N' (h1 : Fact3 w C J N l[k]) (hk0 : 0 < l.length) (h2 : Fact3 w C' J' N' l[0]) (hb1 : Below w.heap.size w w1) => rfsame_any w1 C J N C' J' N' l[k] l[0] (h1.below hb1) (h2.below hb1) (hf _ (List.getElem_mem hk)) (hf _ (List.getElem_mem hk0)))
  obtain ⟨⟨a, c, rfl⟩, ⟨a2, c2, rfl⟩, ⟨a3, c3, rfl⟩, a4, c4, rfl⟩ := h.slices
  obtain ⟨b0, cap, rfl, h1, hmx, h3⟩ := hv
  have HV := Lib.hid h3
  unfold PairL at HP HR
  have e1 : (((batchL S l).1 : Int) != ((batchL S l).1 : Int)) = false := by simp
  have e2 : (((batchL S l).2 : Int) != ((batchL S l).2 : Int)) = false := by simp
  generalize ((batchL S l).1 : Int) = p1 at *
  generalize ((batchL S l).2 : Int) = p2 at *
  clear h hw hf h3 h1
  go_enter Try.func3, Try.ntmps3
  go_wp2_with fail
  refine (HL.out _ HB0.out).mono ?_; rintro e w1 ⟨⟨bl, rfl⟩, hb⟩
  have HB1 := Lib.hid (below_then HB0.out hb)
  have HX1 := Lib.hid (HX.out.below hb)
  clear hb
  cases bl with
  | false =>
    go_wp2_with fail
    refine (HA.out _).mono ?_; rintro e w2 ⟨rfl, hb⟩
    have HB2 := Lib.hid (below_then HB1.out hb)
    clear hb
    go_wp2_with fail
    go_ret
    exact ⟨rfl, HB2.out⟩
  | true =>
    by_cases hm : (250 : Int) < (l.length : Int)
    · have hm1 : decide ((250 : Int) < (l.length : Int)) = true := decide_eq_true hm
      clear hm
      go_wp2_with fail
      refine (HA.out _).mono ?_; rintro e w2 ⟨rfl, hb⟩
      have HB2 := Lib.hid (below_then HB1.out hb)
      clear hb
      go_wp2_with fail
      go_ret
      exact ⟨rfl, HB2.out⟩
    · have hm1 : decide ((250 : Int) < (l.length : Int)) = false := decide_eq_false hm
      clear hm
      go_wp2_with fail
      refine (HFL.out _ HB1.out).mono ?_; rintro e w2 ⟨⟨bl, rfl⟩, hb⟩
      obtain rfl := hb
      cases bl with
      | false =>
        go_wp2_with fail
        refine (HA.out _).mono ?_; rintro e w2 ⟨rfl, hb⟩
        have HB2 := Lib.hid (below_then HB1.out hb)
        clear hb
        go_wp2_with fail
        go_ret
        exact ⟨rfl, HB2.out⟩
      | true =>
        obtain ⟨x0, x1, x2, x3⟩ := HX1.out.reads
        go_wp2_with fail
        refine (HP.out _ HB1.out).mono ?_; rintro e w2 ⟨rfl, hb⟩
        have HB2 := Lib.hid (below_then HB1.out hb)
        have HX2 := Lib.hid (HX1.out.below hb)
        clear hb x0 x1 x2 x3
        obtain ⟨x0, x1, x2, x3⟩ := HX2.out.reads
        go_wp2_with fail
        refine (HR.out _ HB2.out).mono ?_; rintro e w3 ⟨rfl, hb⟩
        have HB3 := Lib.hid (And.intro (below_then HB2.out hb) (HX2.out.below hb))
        clear hb x0 x1 x2 x3
        go_wp2_with fail
        go_loopw [9] (fun i wr => ∃ k : Nat, k ≤ l.length ∧ i = .int .i64 k ∧ Hid (Below w.heap.size w wr ∧ Box wr w.heap.size (.slice a S.ds.length c) (.slice a2 S.is.length c2) (.slice a3 S.ns.length c3) (.slice a4 S.vs.length c4))) (fun i _ => l.length - (intOf i).toNat)
        case atStart => exact ⟨0, Nat.zero_le _, rfl, HB3⟩
        case round =>
          obtain ⟨k, hk, rfl, HD⟩ := hrel
          by_cases hlk : k < l.length
          · have hlk' : (k : Int) < (l.length : Int) := by omega
            have hl0 : 0 < l.length := by omega
            have hl0' : (0 : Int) < (l.length : Int) := by omega
            rcases HV.out with h3 | ⟨b, off, rfl, hlt, hcc⟩
            · rw [h3] at hlk; simp at hlk
            obtain ⟨C, J, N, hx, hf3⟩ := hcc k hlk
            obtain ⟨C', J', N', hy, hf3'⟩ := hcc 0 hl0
            rw [Nat.zero_mul, Nat.add_zero] at hy
            have HXY := Lib.hid (fun wr (hb : Below w.heap.size w wr) => And.intro (tri_hold hb hx) (tri_hold hb hy))
            have HFk := Lib.hid (fun w1 hb => HF.out w1 k hlk _ _ _ hf3 hb)
            have HKk := Lib.hid (fun w1 hb => HK.out w1 k hlk _ _ _ hf3 hb)
            have HSk := Lib.hid (fun w1 hb => HS.out w1 k hlk _ _ _ _ _ _ hf3 hl0 hf3' hb)
            have HTk := Lib.hid (fun w1 hb => HT.out w1 k hlk _ _ _ _ _ _ hf3 hl0 hf3' hb)
            have HGy := Lib.hid (fun h => g_yes (S := S) (f := l[k]) h)
            have HGn := Lib.hid (fun h => g_no (S := S) (f := l[k]) h)
            obtain ⟨⟨pa, pc, rfl⟩, ⟨pa2, pc2, rfl⟩, pa3, pc3, rfl⟩ := hf3.slices
            obtain ⟨⟨qa, qc, rfl⟩, ⟨qa2, qc2, rfl⟩, qa3, qc3, rfl⟩ := hf3'.slices
            clear hcc hx hy hf3 hf3'
            generalize (if checkL S = 0 then ((fitsL S l[k] : Nat) : Int) else 1) = G at *
            generalize ((fitsL S l[k] : Nat) : Int) = R at *
            generalize sameFa l[k] l[0] = B at *
            generalize l[k].cs.length = s1 at *
            generalize l[k].is.length = s2 at *
            generalize l[k].ns.length = s3 at *
            generalize l[0].cs.length = t1 at *
            generalize l[0].is.length = t2 at *
            generalize l[0].ns.length = t3 at *
            have eG : (G != G) = false := by simp
            have eB : (B != B) = false := by simp
            have eB2 : (B == B) = true := by simp
            obtain ⟨x0, x1, x2, x3⟩ := HD.out.2.reads
            go_wp2_with fail
            refine (HC.out _ HD.out.1).mono ?_; rintro e w4 ⟨rfl, hb⟩
            have HD4 := Lib.hid (And.intro (below_then HD.out.1 hb) (HD.out.2.below hb))
            clear hb x0 x1 x2 x3
            by_cases hc : checkL S = 0
            · rw [hc]
              have hG := HGy.out hc
              clear hc
              subst hG
              go_upto_region 12 with fail
              have hxs := HD4.out.2.reads
              have hxy := HXY.out _ HD4.out.1
              have hk := seven_hold (Below.refl w4.heap.size w4).drew (And.intro hxs.1 (And.intro hxs.2.1 (And.intro hxs.2.2.1 (And.intro hxs.2.2.2 (And.intro hxy.1.1 (And.intro hxy.1.2.1 hxy.1.2.2))))))
              have hBw : Below w.heap.size w w4.drew := HD4.out.1.drew
              have hBx := HD4.out.2.below (Below.refl w4.heap.size w4).drew
              clear hxs hxy
              go_region_held3 (fun w' => w'.cell? ⟨w.heap.size, 0, none⟩ = some (.slice a S.ds.length c) ∧ w'.cell? ⟨w.heap.size, 1, none⟩ = some (.slice a2 S.is.length c2) ∧ w'.cell? ⟨w.heap.size, 2, none⟩ = some (.slice a3 S.ns.length c3) ∧ w'.cell? ⟨w.heap.size, 3, none⟩ = some (.slice a4 S.vs.length c4) ∧ w'.cell? ⟨b, off + k * 3, none⟩ = some (.slice pa s1 pc) ∧ w'.cell? ⟨b, off + k * 3 + 1, none⟩ = some (.slice pa2 s2 pc2) ∧ w'.cell? ⟨b, off + k * 3 + 2, none⟩ = some (.slice pa3 s3 pc3)) (with_reducible exact hk)
                ((go_at_call 11; refine (HFk.out _ hBw).mono ?_; rintro r w5 ⟨rfl, hb2⟩; have hk := seven_hold hb2 hk; have hBw := below_then hBw hb2; have hBx := hBx.below hb2; clear hb2))
              have HD5 := Lib.hid (And.intro hBw hBx)
              clear hBw hBx hk
              go_upto_region 13 with fail
              have hxs := HD5.out.2.reads
              have hxy := HXY.out _ HD5.out.1
              have hk := ten_hold (Below.refl w5.heap.size w5).drew (And.intro hxs.1 (And.intro hxs.2.1 (And.intro hxs.2.2.1 (And.intro hxs.2.2.2 (And.intro hxy.1.1 (And.intro hxy.1.2.1 (And.intro hxy.1.2.2 (And.intro hxy.2.1 (And.intro hxy.2.2.1 hxy.2.2.2)))))))))
              have hBw : Below w.heap.size w w5.drew := HD5.out.1.drew
              have hBx := HD5.out.2.below (Below.refl w5.heap.size w5).drew
              clear hxs hxy
              go_region_held3 (fun w' => w'.cell? ⟨w.heap.size, 0, none⟩ = some (.slice a S.ds.length c) ∧ w'.cell? ⟨w.heap.size, 1, none⟩ = some (.slice a2 S.is.length c2) ∧ w'.cell? ⟨w.heap.size, 2, none⟩ = some (.slice a3 S.ns.length c3) ∧ w'.cell? ⟨w.heap.size, 3, none⟩ = some (.slice a4 S.vs.length c4) ∧ w'.cell? ⟨b, off + k * 3, none⟩ = some (.slice pa s1 pc) ∧ w'.cell? ⟨b, off + k * 3 + 1, none⟩ = some (.slice pa2 s2 pc2) ∧ w'.cell? ⟨b, off + k * 3 + 2, none⟩ = some (.slice pa3 s3 pc3) ∧ w'.cell? ⟨b, off, none⟩ = some (.slice qa t1 qc) ∧ w'.cell? ⟨b, off + 1, none⟩ = some (.slice qa2 t2 qc2) ∧ w'.cell? ⟨b, off + 2, none⟩ = some (.slice qa3 t3 qc3)) (with_reducible exact hk)
                (first
                  | (go_at_call 12; refine (HKk.out _ hBw).mono ?_; rintro r w6 ⟨rfl, hb2⟩; have hk := ten_hold hb2 hk; have hBw := below_then hBw hb2; have hBx := hBx.below hb2; clear hb2)
                  | (go_at_call 13; refine (HSk.out _ hBw).mono ?_; rintro r w7 ⟨rfl, hb2⟩; have hk := ten_hold hb2 hk; have hBw := below_then hBw hb2; have hBx := hBx.below hb2; clear hb2)
                  | (go_at_call 14; refine (HTk.out _ hBw).mono ?_; rintro r w8 ⟨rfl, hb2⟩; have hk := ten_hold hb2 hk; have hBw := below_then hBw hb2; have hBx := hBx.below hb2; clear hb2))
              have HD6 := Lib.hid (And.intro hBw hBx)
              clear hBw hBx hk
              go_wp2_with fail
              go_roundw
              case rel => exact ⟨k + 1, by omega, by go_num, HD6⟩
              case measure => simp [intOf]; omega
            · have hG := HGn.out hc
              have hc2 : ((checkL S : Int) == 0) = false := by rw [beq_eq_false_iff_ne]; omega
              clear hc
              generalize (checkL S : Int) = ck at *
              subst hG
              go_upto_region 13 with fail
              have hxs := HD4.out.2.reads
              have hxy := HXY.out _ HD4.out.1
              have hk := ten_hold (Below.refl w4.heap.size w4).drew (And.intro hxs.1 (And.intro hxs.2.1 (And.intro hxs.2.2.1 (And.intro hxs.2.2.2 (And.intro hxy.1.1 (And.intro hxy.1.2.1 (And.intro hxy.1.2.2 (And.intro hxy.2.1 (And.intro hxy.2.2.1 hxy.2.2.2)))))))))
              have hBw : Below w.heap.size w w4.drew := HD4.out.1.drew
              have hBx := HD4.out.2.below (Below.refl w4.heap.size w4).drew
              clear hxs hxy
              go_region_held3 (fun w' => w'.cell? ⟨w.heap.size, 0, none⟩ = some (.slice a S.ds.length c) ∧ w'.cell? ⟨w.heap.size, 1, none⟩ = some (.slice a2 S.is.length c2) ∧ w'.cell? ⟨w.heap.size, 2, none⟩ = some (.slice a3 S.ns.length c3) ∧ w'.cell? ⟨w.heap.size, 3, none⟩ = some (.slice a4 S.vs.length c4) ∧ w'.cell? ⟨b, off + k * 3, none⟩ = some (.slice pa s1 pc) ∧ w'.cell? ⟨b, off + k * 3 + 1, none⟩ = some (.slice pa2 s2 pc2) ∧ w'.cell? ⟨b, off + k * 3 + 2, none⟩ = some (.slice pa3 s3 pc3) ∧ w'.cell? ⟨b, off, none⟩ = some (.slice qa t1 qc) ∧ w'.cell? ⟨b, off + 1, none⟩ = some (.slice qa2 t2 qc2) ∧ w'.cell? ⟨b, off + 2, none⟩ = some (.slice qa3 t3 qc3)) (with_reducible exact hk)
                (first
                  | (go_at_call 12; refine (HKk.out _ hBw).mono ?_; rintro r w6 ⟨rfl, hb2⟩; have hk := ten_hold hb2 hk; have hBw := below_then hBw hb2; have hBx := hBx.below hb2; clear hb2)
                  | (go_at_call 13; refine (HSk.out _ hBw).mono ?_; rintro r w7 ⟨rfl, hb2⟩; have hk := ten_hold hb2 hk; have hBw := below_then hBw hb2; have hBx := hBx.below hb2; clear hb2)
                  | (go_at_call 14; refine (HTk.out _ hBw).mono ?_; rintro r w8 ⟨rfl, hb2⟩; have hk := ten_hold hb2 hk; have hBw := below_then hBw hb2; have hBx := hBx.below hb2; clear hb2))
              have HD6 := Lib.hid (And.intro hBw hBx)
              clear hBw hBx hk
              go_wp2_with fail
              go_roundw
              case rel => exact ⟨k + 1, by omega, by go_num, HD6⟩
              case measure => simp [intOf]; omega
          · have hke : k = l.length := by omega
            subst hke
            go_wp2_with fail
            refine (HA.out _).mono ?_; rintro e w4 ⟨rfl, hb⟩
            have HB4 := Lib.hid (below_then HD.out.1 hb)
            clear hb
            go_wp2_with fail
            go_ret
            exact ⟨rfl, HB4.out⟩
set_option maxRecDepth 100000 in
theorem lifted (os : Os) (started : os.Started) (H : Type) (enc : TypeId × Value → H) :
    ReturnsInHanded {} Try.checked os 3 .any (Rows.factChecksSpec.pre6 enc Try.prog Try.f3 Rows.factChecksRow.domain false) (Rows.factChecksSpec.post enc Try.prog Try.f3 false true false false) := by
  refine returnsInHanded_of_change (C := Try.checked) own started (by kernel_rfl) Try.func3
    (ChangeSpec.witness6 (enc := enc) (C := Try.checked) false ⟨#[], #[.agg #[.slice none 0 0, .slice none 0 0, .slice none 0 0, .slice none 0 0], .slice none 0 0], []⟩ 8 (by kernel_rfl) (by kernel_rfl) (by kernel_rfl) (by kernel_rfl)) ?_
  intro W base args ds gs before hval0 hW hcnd _
  have hval : ∀ (j : Nat) t v, Try.f3.params[j]? = some t → args[j]? = some v → Value.okWide Try.prog W .any base t v := hval0
  have hW' := hW
  obtain ⟨p, q, hA0, hV, rfl, hfz, hnd⟩ := hW
  have hA : DataW.TrodAll enc Try.prog W 0 (fun _ => true) true Try.f3.params.toList args.toList ds p := hA0
  rw [Try.params3] at hA hval
  obtain ⟨v0, vs0, d0, ds0, p0, q0, hargs, rfl, rfl, h0, r0⟩ := trodAll_cons hA
  obtain ⟨v1, vs1, d1, ds1, p1, q1, rfl, rfl, rfl, h1, r1⟩ := trodAll_cons r0
  obtain ⟨rfl, rfl, rfl⟩ := trodAll_nil r1
  obtain rfl : args = #[v0, v1] := by cases args; simp_all
  obtain ⟨rfl, rfl⟩ := trodVars_none hV
  have k0 := h0
  have lt0 : ∀ x ∈ p0, x.block < W.heap.size := by obtain ⟨m, hm⟩ := k0; exact DataW.trod_lt m _ _ _ hm
  obtain ⟨D0, I0, N0, V0, S0, rfl, s0, w0⟩ := schema_of (hval 0 26 v0 rfl rfl) h0
  obtain ⟨a1, len1, cap1, rfl⟩ := okWide_slice Try.underlying27 (hval 1 27 v1 rfl rfl)
  have k1 := h1
  have lt1 : ∀ x ∈ p1, x.block < W.heap.size := by obtain ⟨m, hm⟩ := k1; exact DataW.trod_lt m _ _ _ hm
  obtain ⟨l1, s1, w1⟩ := facts_of h1 ⟨_, _, _, rfl⟩
  clear hA0 hval0
  refine (walk D0 I0 N0 V0 S0 (.slice a1 len1 cap1) l1 W s0 w0 s1 w1).mono fun e W' ⟨he, bel⟩ => ?_
  subst he
  exact ⟨_, rfl, _, _, _, [], _, [], hW', trodAll_mk1 (shut_bool Try.underlying4 _), (trodAll_cons_mk (Below.trod laidOut (by kernel_rfl) (of_decide_eq_true (by kernel_rfl)) k0 bel lt0) (trodAll_cons_mk (Below.trod laidOut (by kernel_rfl) (of_decide_eq_true (by kernel_rfl)) k1 bel lt1) trodAll_mk0)), rfl, bel.frame _, fun h => by cases h⟩

theorem over : Rows.factChecksRow.holds Try.pinned (OpenSpec.ofChange Rows.factChecksSpec) :=
  OpenClaim.holds_of_wide 3 Try.f3 rfl rfl rfl rfl rfl rfl rfl ⟨rfl, rfl, rfl, rfl, rfl⟩ rfl rfl rfl rfl rfl (by kernel_rfl) Try.func3 (by kernel_rfl)
    (of_decide_eq_true (by kernel_rfl)) (by unfold Func.isWrapper; first | (rw [if_pos (by decide +kernel)]; kernel_rfl) | (rw [if_neg (by decide +kernel)]; exact ⟨rfl, rfl⟩))
    (fun os started H enc _ => lifted os started H enc)
end Go.Proofs.Ytdnbjaeeebodkaa.factChecks
namespace Go.Proofs.Ytdnbjaeeebodkaa
/-- The statement. -/
theorem factChecks_holds : Rows.FactChecksSaid := factChecks.over
#print axioms factChecks_holds
end Go.Proofs.Ytdnbjaeeebodkaa
