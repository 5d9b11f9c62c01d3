/- KeyCodes: for any schema and any way the statement's function returns true and changes nothing that was there. No condition. -/
import Derived.Test.YtgbeedjcliajfaaKeyj
import Derived.ProofKit
namespace Go.Proofs.Ytgbeedjcliajfaa.keyCodes
set_option maxRecDepth 100000
open Go.ChangeShapes Go.WideShapes Go.ChangeAt Go.RowKit
set_option linter.unusedVariables false
theorem own : ownKnob Try.prog.godebug = none := by kernel_rfl
theorem laidOut : laidOutB Try.prog = true := by kernel_rfl
/-- The answers of both sides. -/
theorem way_cases (S : Sc) (a b q d : Int) :
    (checkL S ≠ 0 ∧ codE S a q = 1 ∧ downE S a b q = 1 ∧ downL S a b q = 0 ∧ codeL S a q d = -1) ∨
    (checkL S = 0 ∧ ¬ a < 2 ^ S.ds.length ∧ codE S a q = 11 ∧ downE S a b q = 11 ∧ downL S a b q = 0 ∧ codeL S a q d = -1) ∨
    (checkL S = 0 ∧ a < 2 ^ S.ds.length ∧ keysL S.ds a S.ds.length ≤ q ∧ codE S a q = 2 ∧ downE S a b q = (if subM b a = true then 2 else 11) ∧ downL S a b q = 0 ∧ codeL S a q d = -1) ∨
    (checkL S = 0 ∧ a < 2 ^ S.ds.length ∧ q < keysL S.ds a S.ds.length ∧ codE S a q = 0 ∧ (subM b a = false → downE S a b q = 11 ∧ downL S a b q = 0) ∧ (subM b a = true → downE S a b q = 0 ∧ downL S a b q = downG (dz S.ds) (bitG a) (bitG b) S.ds.length q)) := by
  have hf : fullL S.ds = 2 ^ S.ds.length - 1 := rfl
  by_cases h1 : checkL S = 0
  · by_cases h2 : a < 2 ^ S.ds.length
    · have hn : numE S a = 0 := by unfold numE; rw [if_pos h1, if_pos (by omega)]
      by_cases h3 : keysL S.ds a S.ds.length ≤ q
      · have hC : codE S a q = 2 := by unfold codE; rw [if_pos hn, if_pos h3]
        have hD : downE S a b q = (if subM b a = true then 2 else 11) := by unfold downE; rw [if_pos hn, if_pos h3]
        exact .inr (.inr (.inl ⟨h1, h2, h3, hC, hD, by unfold downL; rw [if_neg (by rw [hD]; split <;> decide)], by unfold codeL; rw [if_neg (by rw [hC]; exact fun h => by cases h.1)]⟩))
      · have hC : codE S a q = 0 := by unfold codE; rw [if_pos hn, if_neg h3]
        refine .inr (.inr (.inr ⟨h1, h2, by omega, hC, fun hs => ?_, fun hs => ?_⟩))
        · have hD : downE S a b q = 11 := by unfold downE; rw [if_pos hn, if_neg (by rw [hs]; decide)]
          exact ⟨hD, by unfold downL; rw [if_neg (by rw [hD]; decide)]⟩
        · have hD : downE S a b q = 0 := by unfold downE; rw [if_pos hn, if_pos hs, if_neg h3]
          exact ⟨hD, by unfold downL; rw [if_pos hD]⟩
    · have hn : numE S a = 11 := by unfold numE; rw [if_pos h1, if_neg (by omega)]
      have hC : codE S a q = 11 := by unfold codE; rw [if_neg (by rw [hn]; decide), hn]
      have hD : downE S a b q = 11 := by unfold downE; rw [if_neg (by rw [hn]; decide), hn]
      exact .inr (.inl ⟨h1, h2, hC, hD, by unfold downL; rw [if_neg (by rw [hD]; decide)], by unfold codeL; rw [if_neg (by rw [hC]; exact fun h => by cases h.1)]⟩)
  · have hn : numE S a = 1 := by unfold numE; rw [if_neg h1]
    have hC : codE S a q = 1 := by unfold codE; rw [if_neg (by rw [hn]; decide), hn]
    have hD : downE S a b q = 1 := by unfold downE; rw [if_neg (by rw [hn]; decide), hn]
    exact .inl ⟨h1, hC, hD, by unfold downL; rw [if_neg (by rw [hD]; decide)], by unfold codeL; rw [if_neg (by rw [hC]; exact fun h => by cases h.1)]⟩
set_option maxHeartbeats 16000000 in
theorem walk (D I M V : Value) (S : Sc) (a b q n : Int) (w : World) (h : Sch4 w D I M V S) (hw : SWf S) (ha : 0 ≤ a ∧ a ≤ 4294967295) (hb : 0 ≤ b ∧ b ≤ 4294967295) (hq : 0 ≤ q ∧ q ≤ 18446744073709551615) (hn : -9223372036854775808 ≤ n ∧ n ≤ 9223372036854775807) :
    Calls Try.prog 4 #[SchV D I M V, .agg #[.int .u32 a, .int .u32 b, .int .u64 q, .int .i64 n]] w fun e w' => e = .returned (.bool true) ∧ Below w.heap.size w w' := by
  have HA := Lib.hid (fun w => awake13_any w)
  have hb1 := below_one w (SchO D I M V)
  have hb2 := below_one (w.alloc (SchO D I M V)) (.cells #[.int .u32 a, .int .u32 b, .int .u64 q, .int .i64 n] 47)
  have HB0 := Lib.hid (below_then hb1 hb2)
  have HX := Lib.hid ((box_new w D I M V).below hb2)
  have HM := Lib.hid (show ((w.alloc (SchO D I M V)).alloc (.cells #[.int .u32 a, .int .u32 b, .int .u64 q, .int .i64 n] 47)).cell? ⟨w.heap.size + 1, 0, none⟩ = some (.int .u32 a) ∧ ((w.alloc (SchO D I M V)).alloc (.cells #[.int .u32 a, .int .u32 b, .int .u64 q, .int .i64 n] 47)).cell? ⟨w.heap.size + 1, 1, none⟩ = some (.int .u32 b) ∧ ((w.alloc (SchO D I M V)).alloc (.cells #[.int .u32 a, .int .u32 b, .int .u64 q, .int .i64 n] 47)).cell? ⟨w.heap.size + 1, 2, none⟩ = some (.int .u64 q) ∧ ((w.alloc (SchO D I M V)).alloc (.cells #[.int .u32 a, .int .u32 b, .int .u64 q, .int .i64 n] 47)).cell? ⟨w.heap.size + 1, 3, none⟩ = some (.int .i64 n) by
    refine ⟨by simp [go_sem], by simp [go_sem], by simp [go_sem], by simp [go_sem]⟩)
  have HL := Lib.hid (fun w1 (hb : Below w.heap.size w w1) => slight_any w1 D I M V S (h.below hb))
  have HCd := Lib.hid (fun w1 (hb : Below w.heap.size w w1) => codes_any w1 D I M V S a q (h.below hb) hw ha.1 ha.2 hq.1 hq.2)
  have HDn := Lib.hid (fun w1 (hb2 : Below w.heap.size w w1) => down_any w1 D I M V S a b q (h.below hb2) hw ha.1 ha.2 hb.1 hb.2 hq.1 hq.2)
  have HCo := Lib.hid (fun w1 (hb : Below w.heap.size w w1) => code_any w1 D I M V S a q n (h.below hb) hw ha.1 ha.2 hq.1 hq.2)
  have HRc := Lib.hid (fun w1 (hb : Below w.heap.size w w1) => rcheck_any w1 D I M V S (h.below hb) hw)
  have HF := Lib.hid (fun w1 (hb : Below w.heap.size w w1) (hn : S.ds.length ≤ 6) => rfull_any w1 D I M V S (h.below hb) hn)
  have HSu := Lib.hid (fun w1 (hn : S.ds.length ≤ 6) => ssub_any w1 a S.ds.length hn ha.1 ha.2)
  have HSb := Lib.hid (fun w1 => rsub_any w1 b a hb.1 hb.2 ha.1 ha.2)
  have HRk := Lib.hid (fun w1 (hb : Below w.heap.size w w1) (hn : S.ds.length ≤ 6) (hz : sizB S.ds = true) => rkeys_any w1 D I M V S a (h.below hb) hn hz ha.1 ha.2)
  have HRo := Lib.hid (fun w1 (hb : Below w.heap.size w w1) (hn : S.ds.length ≤ 31) (hz : sizB S.ds = true) => rcodes_any w1 D I M V S a q (h.below hb) hn hz ha.1 ha.2 hq.1 hq.2)
  have HRd := Lib.hid (fun w1 (hb2 : Below w.heap.size w w1) (hn : S.ds.length ≤ 31) (hz : sizB S.ds = true) (hs : subM b a = true) => rdown_any w1 D I M V S a b q (h.below hb2) hn hz ((sub_iff hb.1 hb.2).1 hs) ha.1 ha.2 hb.1 hb.2 hq.1 hq.2)
  have HCs := Lib.hid (way_cases S a b q n)
  have HLn := Lib.hid (codes_len S.ds a q)
  have HCL := Lib.hid (show codE S a q = 0 → codeL S a q n = if 0 ≤ n ∧ n < S.ds.length then cz (codesL S.ds a q) n.toNat else -1 from fun h => by unfold codeL; simp [h])
  obtain ⟨⟨p, cc, rfl⟩, ⟨p2, c2, rfl⟩, ⟨p3, c3, rfl⟩, p4, c4, rfl⟩ := h.slices
  unfold CodesR at HCd
  generalize codeL S a q n = co at *
  generalize downL S a b q = dl at *
  generalize codesL S.ds a q = L at *
  clear h hw hb1 hb2 ha hb hq hn
  go_enter Try.func4, Try.ntmps4
  go_upto_region 1 with fail
  generalize (w.alloc (SchO (.slice p S.ds.length cc) (.slice p2 S.is.length c2) (.slice p3 S.ns.length c3) (.slice p4 S.vs.length c4))).alloc (.cells #[.int .u32 a, .int .u32 b, .int .u64 q, .int .i64 n] 47) = W at *
  obtain ⟨x0, x1, x2, x3⟩ := HX.out.reads
  obtain ⟨z0, z1, z2, z3⟩ := HM.out
  go_wp2_with fail
  refine (HL.out _ HB0.out).mono ?_; rintro e w1 ⟨⟨bl, rfl⟩, hb⟩
  have HB1 := Lib.hid hb
  clear hb x0 x1 x2 x3 z0 z1 z2 z3
  cases bl with
  | false =>
    go_wp2_with fail
    refine (HA.out _).mono ?_; rintro e w2 ⟨rfl, hb⟩
    have HB2 := Lib.hid (below_then HB1.out hb)
    clear hb
    go_wp2_with fail
    go_ret
    exact ⟨rfl, below_then HB0.out HB2.out⟩
  | true =>
    obtain ⟨x0, x1, x2, x3⟩ := (HX.out.below HB1.out).reads
    obtain ⟨z0, z1, z2, z3⟩ := quad_hold HB1.out HM.out
    rcases HCs.out with ⟨g1, g2, g3, g4, g5⟩ | ⟨g1, g2, g3, g4, g5, g6⟩ | ⟨g1, g2, g3, g4, g5, g6, g7⟩ | ⟨g1, g2, g3, g4, g5, g6⟩
    · rw [g2, if_neg (by decide)] at HCd
      rw [g3] at HDn
      subst g4 g5
      have hne : ((checkL S : Int) != 0) = true := by simp; omega
      generalize (checkL S : Int) = ck at *
      clear g1 g2 g3 HCL HLn HCs
      go_wp2_with fail
      refine (HCd.out _ (below_then HB0.out HB1.out)).mono ?_; rintro e w2 ⟨⟨v, rfl, hv⟩, hb⟩
      have HB2 := Lib.hid (below_then HB1.out hb)
      obtain ⟨pv, cv, rfl, -, -⟩ := id (Ints.own hv)
      clear hv
      clear hb x0 x1 x2 x3 z0 z1 z2 z3
      obtain ⟨x0, x1, x2, x3⟩ := (HX.out.below HB2.out).reads
      obtain ⟨z0, z1, z2, z3⟩ := quad_hold HB2.out HM.out
      go_wp2_with fail
      refine (HDn.out _ (below_then HB0.out HB2.out)).mono ?_; rintro e w3 ⟨rfl, hb⟩
      have HB3 := Lib.hid (below_then HB2.out hb)
      clear hb x0 x1 x2 x3 z0 z1 z2 z3
      obtain ⟨x0, x1, x2, x3⟩ := (HX.out.below HB3.out).reads
      obtain ⟨z0, z1, z2, z3⟩ := quad_hold HB3.out HM.out
      go_wp2_with fail
      refine (HCo.out _ (below_then HB0.out HB3.out)).mono ?_; rintro e w4 ⟨rfl, hb⟩
      have HB4 := Lib.hid (below_then HB3.out hb)
      clear hb x0 x1 x2 x3 z0 z1 z2 z3
      obtain ⟨x0, x1, x2, x3⟩ := (HX.out.below HB4.out).reads
      obtain ⟨z0, z1, z2, z3⟩ := quad_hold HB4.out HM.out
      go_wp2_with fail
      refine (HRc.out _ (below_then HB0.out HB4.out)).mono ?_; rintro e w5 ⟨rfl, hb⟩
      have HB5 := Lib.hid (below_then HB4.out hb)
      clear hb x0 x1 x2 x3 z0 z1 z2 z3
      obtain ⟨x0, x1, x2, x3⟩ := (HX.out.below HB5.out).reads
      obtain ⟨z0, z1, z2, z3⟩ := quad_hold HB5.out HM.out
      clear x0 x1 x2 x3 z0 z1 z2 z3
      go_wp2_with fail
      refine (HA.out _).mono ?_; rintro e w6 ⟨rfl, hb⟩
      have HB6 := Lib.hid (below_then HB5.out hb)
      clear hb
      go_wp2_with fail
      go_ret
      exact ⟨rfl, below_then HB0.out HB6.out⟩
    · rw [g1] at HRc
      rw [g3, if_neg (by decide)] at HCd
      rw [g4] at HDn
      subst g5 g6
      have hn6 := (sc_few g1).1
      have HSf := Lib.hid (fun w => HSu.out w hn6)
      have HFf := Lib.hid (fun w hb => HF.out w hb hn6)
      have hfe : fullL S.ds = 2 ^ S.ds.length - 1 := rfl
      rw [decide_eq_false (by omega), ← hfe] at HSf
      generalize fullL S.ds = fu at *
      clear g1 g2 g3 g4 hfe HCL HLn HCs
      go_wp2_with fail
      refine (HCd.out _ (below_then HB0.out HB1.out)).mono ?_; rintro e w2 ⟨⟨v, rfl, hv⟩, hb⟩
      have HB2 := Lib.hid (below_then HB1.out hb)
      obtain ⟨pv, cv, rfl, -, -⟩ := id (Ints.own hv)
      clear hv
      clear hb x0 x1 x2 x3 z0 z1 z2 z3
      obtain ⟨x0, x1, x2, x3⟩ := (HX.out.below HB2.out).reads
      obtain ⟨z0, z1, z2, z3⟩ := quad_hold HB2.out HM.out
      go_wp2_with fail
      refine (HDn.out _ (below_then HB0.out HB2.out)).mono ?_; rintro e w3 ⟨rfl, hb⟩
      have HB3 := Lib.hid (below_then HB2.out hb)
      clear hb x0 x1 x2 x3 z0 z1 z2 z3
      obtain ⟨x0, x1, x2, x3⟩ := (HX.out.below HB3.out).reads
      obtain ⟨z0, z1, z2, z3⟩ := quad_hold HB3.out HM.out
      go_wp2_with fail
      refine (HCo.out _ (below_then HB0.out HB3.out)).mono ?_; rintro e w4 ⟨rfl, hb⟩
      have HB4 := Lib.hid (below_then HB3.out hb)
      clear hb x0 x1 x2 x3 z0 z1 z2 z3
      obtain ⟨x0, x1, x2, x3⟩ := (HX.out.below HB4.out).reads
      obtain ⟨z0, z1, z2, z3⟩ := quad_hold HB4.out HM.out
      go_wp2_with fail
      refine (HRc.out _ (below_then HB0.out HB4.out)).mono ?_; rintro e w5 ⟨rfl, hb⟩
      have HB5 := Lib.hid (below_then HB4.out hb)
      clear hb x0 x1 x2 x3 z0 z1 z2 z3
      obtain ⟨x0, x1, x2, x3⟩ := (HX.out.below HB5.out).reads
      obtain ⟨z0, z1, z2, z3⟩ := quad_hold HB5.out HM.out
      go_upto_region 9 with fail
      have hk : w5.drew.cell? ⟨w.heap.size, 0, none⟩ = some (.slice p S.ds.length cc) ∧ w5.drew.cell? ⟨w.heap.size, 1, none⟩ = some (.slice p2 S.is.length c2) ∧ w5.drew.cell? ⟨w.heap.size, 2, none⟩ = some (.slice p3 S.ns.length c3) ∧ w5.drew.cell? ⟨w.heap.size, 3, none⟩ = some (.slice p4 S.vs.length c4) ∧ w5.drew.cell? ⟨w.heap.size + 1, 0, none⟩ = some (.int .u32 a) := ⟨x0, x1, x2, x3, z0⟩
      have hBw : Below W.heap.size W w5.drew := HB5.out.drew
      clear x0 x1 x2 x3 z0 z1 z2 z3
      go_region_held3 (fun w' => w'.cell? ⟨w.heap.size, 0, none⟩ = some (.slice p S.ds.length cc) ∧ w'.cell? ⟨w.heap.size, 1, none⟩ = some (.slice p2 S.is.length c2) ∧ w'.cell? ⟨w.heap.size, 2, none⟩ = some (.slice p3 S.ns.length c3) ∧ w'.cell? ⟨w.heap.size, 3, none⟩ = some (.slice p4 S.vs.length c4) ∧ w'.cell? ⟨w.heap.size + 1, 0, none⟩ = some (.int .u32 a)) (with_reducible exact hk)
        (first
          | (go_at_call 12; refine (HFf.out _ (below_then HB0.out hBw)).mono ?_; rintro r w6 ⟨rfl, hb2⟩; have hk := And.intro (cell_later hb2 hk.1) (quad_hold hb2 hk.2); have hBw := below_then hBw hb2; clear hb2)
          | (go_at_call 11; refine (HSf.out _).mono ?_; rintro r wz ⟨rfl, rfl⟩; have hk := hk))
      have HB6 := Lib.hid hBw
      clear hBw hk
      go_wp2_with fail
      refine (HA.out _).mono ?_; rintro e w7 ⟨rfl, hb⟩
      have HB7 := Lib.hid (below_then HB6.out hb)
      clear hb
      go_wp2_with fail
      go_ret
      exact ⟨rfl, below_then HB0.out HB7.out⟩
    · rw [g1] at HRc
      rw [g4, if_neg (by decide)] at HCd
      subst g6 g7
      obtain ⟨hn6, hz⟩ := sc_few g1
      have HSf := Lib.hid (fun w => HSu.out w hn6)
      have HFf := Lib.hid (fun w hb => HF.out w hb hn6)
      have HRkk := Lib.hid (fun w hb => HRk.out w hb hn6 hz)
      have hfe : fullL S.ds = 2 ^ S.ds.length - 1 := rfl
      rw [decide_eq_true g2, ← hfe] at HSf
      have HDe := Lib.hid (show (downE S a b q : Int) = if subM b a = true then 2 else 11 by rw [g5]; split <;> rfl)
      generalize (downE S a b q : Int) = de at *
      generalize fullL S.ds = fu at *
      generalize keysL S.ds a S.ds.length = ky at *
      generalize subM b a = sb at *
      clear g1 g2 g4 g5 hfe hz HCL HRd HLn HCs
      go_wp2_with fail
      refine (HCd.out _ (below_then HB0.out HB1.out)).mono ?_; rintro e w2 ⟨⟨v, rfl, hv⟩, hb⟩
      have HB2 := Lib.hid (below_then HB1.out hb)
      obtain ⟨pv, cv, rfl, -, -⟩ := id (Ints.own hv)
      clear hv
      clear hb x0 x1 x2 x3 z0 z1 z2 z3
      obtain ⟨x0, x1, x2, x3⟩ := (HX.out.below HB2.out).reads
      obtain ⟨z0, z1, z2, z3⟩ := quad_hold HB2.out HM.out
      go_wp2_with fail
      refine (HDn.out _ (below_then HB0.out HB2.out)).mono ?_; rintro e w3 ⟨rfl, hb⟩
      have HB3 := Lib.hid (below_then HB2.out hb)
      clear hb x0 x1 x2 x3 z0 z1 z2 z3
      obtain ⟨x0, x1, x2, x3⟩ := (HX.out.below HB3.out).reads
      obtain ⟨z0, z1, z2, z3⟩ := quad_hold HB3.out HM.out
      go_wp2_with fail
      refine (HCo.out _ (below_then HB0.out HB3.out)).mono ?_; rintro e w4 ⟨rfl, hb⟩
      have HB4 := Lib.hid (below_then HB3.out hb)
      clear hb x0 x1 x2 x3 z0 z1 z2 z3
      obtain ⟨x0, x1, x2, x3⟩ := (HX.out.below HB4.out).reads
      obtain ⟨z0, z1, z2, z3⟩ := quad_hold HB4.out HM.out
      go_wp2_with fail
      refine (HRc.out _ (below_then HB0.out HB4.out)).mono ?_; rintro e w5 ⟨rfl, hb⟩
      have HB5 := Lib.hid (below_then HB4.out hb)
      clear hb x0 x1 x2 x3 z0 z1 z2 z3
      obtain ⟨x0, x1, x2, x3⟩ := (HX.out.below HB5.out).reads
      obtain ⟨z0, z1, z2, z3⟩ := quad_hold HB5.out HM.out
      go_upto_region 9 with fail
      have hk : w5.drew.cell? ⟨w.heap.size, 0, none⟩ = some (.slice p S.ds.length cc) ∧ w5.drew.cell? ⟨w.heap.size, 1, none⟩ = some (.slice p2 S.is.length c2) ∧ w5.drew.cell? ⟨w.heap.size, 2, none⟩ = some (.slice p3 S.ns.length c3) ∧ w5.drew.cell? ⟨w.heap.size, 3, none⟩ = some (.slice p4 S.vs.length c4) ∧ w5.drew.cell? ⟨w.heap.size + 1, 0, none⟩ = some (.int .u32 a) := ⟨x0, x1, x2, x3, z0⟩
      have hBw : Below W.heap.size W w5.drew := HB5.out.drew
      clear x0 x1 x2 x3 z0 z1 z2 z3
      go_region_held3 (fun w' => w'.cell? ⟨w.heap.size, 0, none⟩ = some (.slice p S.ds.length cc) ∧ w'.cell? ⟨w.heap.size, 1, none⟩ = some (.slice p2 S.is.length c2) ∧ w'.cell? ⟨w.heap.size, 2, none⟩ = some (.slice p3 S.ns.length c3) ∧ w'.cell? ⟨w.heap.size, 3, none⟩ = some (.slice p4 S.vs.length c4) ∧ w'.cell? ⟨w.heap.size + 1, 0, none⟩ = some (.int .u32 a)) (with_reducible exact hk)
        (first
          | (go_at_call 12; refine (HFf.out _ (below_then HB0.out hBw)).mono ?_; rintro r w6 ⟨rfl, hb2⟩; have hk := And.intro (cell_later hb2 hk.1) (quad_hold hb2 hk.2); have hBw := below_then hBw hb2; clear hb2)
          | (go_at_call 11; refine (HSf.out _).mono ?_; rintro r wz ⟨rfl, rfl⟩; have hk := hk))
      have HB6 := Lib.hid hBw
      clear hBw hk
      obtain ⟨x0, x1, x2, x3⟩ := (HX.out.below HB6.out).reads
      obtain ⟨z0, z1, z2, z3⟩ := quad_hold HB6.out HM.out
      obtain ⟨x0, x1, x2, x3⟩ := (HX.out.below HB6.out).reads
      obtain ⟨z0, z1, z2, z3⟩ := quad_hold HB6.out HM.out
      go_upto_region 11 with fail
      have hk : w6.drew.cell? ⟨w.heap.size, 0, none⟩ = some (.slice p S.ds.length cc) ∧ w6.drew.cell? ⟨w.heap.size, 1, none⟩ = some (.slice p2 S.is.length c2) ∧ w6.drew.cell? ⟨w.heap.size, 2, none⟩ = some (.slice p3 S.ns.length c3) ∧ w6.drew.cell? ⟨w.heap.size, 3, none⟩ = some (.slice p4 S.vs.length c4) ∧ w6.drew.cell? ⟨w.heap.size + 1, 0, none⟩ = some (.int .u32 a) ∧ w6.drew.cell? ⟨w.heap.size + 1, 2, none⟩ = some (.int .u64 q) := ⟨x0, x1, x2, x3, z0, z2⟩
      have hBw : Below W.heap.size W w6.drew := HB6.out.drew
      clear x0 x1 x2 x3 z0 z1 z2 z3
      go_region_held3 (fun w' => w'.cell? ⟨w.heap.size, 0, none⟩ = some (.slice p S.ds.length cc) ∧ w'.cell? ⟨w.heap.size, 1, none⟩ = some (.slice p2 S.is.length c2) ∧ w'.cell? ⟨w.heap.size, 2, none⟩ = some (.slice p3 S.ns.length c3) ∧ w'.cell? ⟨w.heap.size, 3, none⟩ = some (.slice p4 S.vs.length c4) ∧ w'.cell? ⟨w.heap.size + 1, 0, none⟩ = some (.int .u32 a) ∧ w'.cell? ⟨w.heap.size + 1, 2, none⟩ = some (.int .u64 q)) (with_reducible exact hk)
        (first
          | (go_at_call 18; refine (HRkk.out _ (below_then HB0.out hBw)).mono ?_; rintro r w7 ⟨rfl, hb2⟩; have hk := And.intro (cell_later hb2 hk.1) (And.intro (cell_later hb2 hk.2.1) (quad_hold hb2 hk.2.2)); have hBw := below_then hBw hb2; clear hb2))
      have HB7 := Lib.hid hBw
      clear hBw hk
      obtain ⟨x0, x1, x2, x3⟩ := (HX.out.below HB7.out).reads
      obtain ⟨z0, z1, z2, z3⟩ := quad_hold HB7.out HM.out
      cases sb with
      | true =>
        have hde := HDe.out
        rw [if_pos rfl] at hde
        subst hde
        go_wp2_with fail
        refine (HSb.out _).mono ?_; rintro e w8 ⟨rfl, rfl⟩
        clear x0 x1 x2 x3 z0 z1 z2 z3
        go_wp2_with fail
        refine (HA.out _).mono ?_; rintro e w9 ⟨rfl, hb⟩
        have HB9 := Lib.hid (below_then HB7.out hb)
        clear hb
        go_wp2_with fail
        go_ret
        exact ⟨rfl, below_then HB0.out HB9.out⟩
      | false =>
        have hde := HDe.out
        rw [if_neg (by decide)] at hde
        subst hde
        go_wp2_with fail
        refine (HSb.out _).mono ?_; rintro e w8 ⟨rfl, rfl⟩
        clear x0 x1 x2 x3 z0 z1 z2 z3
        go_wp2_with fail
        refine (HA.out _).mono ?_; rintro e w9 ⟨rfl, hb⟩
        have HB9 := Lib.hid (below_then HB7.out hb)
        clear hb
        go_wp2_with fail
        go_ret
        exact ⟨rfl, below_then HB0.out HB9.out⟩
    · rw [g1] at HRc
      rw [g4, if_pos rfl] at HCd
      have hco := HCL.out g4
      obtain ⟨hn6, hz⟩ := sc_few g1
      have HSf := Lib.hid (fun w => HSu.out w hn6)
      have HFf := Lib.hid (fun w hb => HF.out w hb hn6)
      have HRkk := Lib.hid (fun w hb => HRk.out w hb hn6 hz)
      have HRoo := Lib.hid (fun w hb => HRo.out w hb (by omega) hz)
      have HRdd := Lib.hid (fun w hb hs => HRd.out w hb (by omega) hz hs)
      have hfe : fullL S.ds = 2 ^ S.ds.length - 1 := rfl
      rw [decide_eq_true g2, ← hfe] at HSf
      have HDe := Lib.hid (show (subM b a = false → (downE S a b q : Int) = 11 ∧ dl = 0) ∧ (subM b a = true → (downE S a b q : Int) = 0 ∧ dl = downG (dz S.ds) (bitG a) (bitG b) S.ds.length q) from ⟨fun q => by rw [(g5 q).1]; exact ⟨rfl, (g5 q).2⟩, fun q => by rw [(g6 q).1]; exact ⟨rfl, (g6 q).2⟩⟩)
      generalize (downE S a b q : Int) = de at *
      generalize fullL S.ds = fu at *
      generalize keysL S.ds a S.ds.length = ky at *
      generalize subM b a = sb at *
      generalize downG (dz S.ds) (bitG a) (bitG b) S.ds.length q = dg at *
      have HCo2 := Lib.hid hco
      clear g1 g2 g4 g5 g6 hfe hz HCL HCs HRd HRo HRk hco
      go_wp2_with fail
      refine (HCd.out _ (below_then HB0.out HB1.out)).mono ?_; rintro e w2 ⟨⟨v, rfl, hv⟩, hb⟩
      have HB2 := Lib.hid (below_then HB1.out hb)
      have hV := Ints.own hv
      obtain ⟨pv, cv, rfl, -, -⟩ := id hV
      rw [HLn.out] at hV ⊢
      have HV := Lib.hid hV
      clear hv hV
      have HC2 := Lib.hid (Below.refl w2.heap.size w2)
      clear hb x0 x1 x2 x3 z0 z1 z2 z3
      obtain ⟨x0, x1, x2, x3⟩ := (HX.out.below HB2.out).reads
      obtain ⟨z0, z1, z2, z3⟩ := quad_hold HB2.out HM.out
      go_wp2_with fail
      refine (HDn.out _ (below_then HB0.out HB2.out)).mono ?_; rintro e w3 ⟨rfl, hb⟩
      have HB3 := Lib.hid (below_then HB2.out hb)
      have HC3 := Lib.hid (below_then HC2.out hb)
      clear hb x0 x1 x2 x3 z0 z1 z2 z3
      obtain ⟨x0, x1, x2, x3⟩ := (HX.out.below HB3.out).reads
      obtain ⟨z0, z1, z2, z3⟩ := quad_hold HB3.out HM.out
      go_wp2_with fail
      refine (HCo.out _ (below_then HB0.out HB3.out)).mono ?_; rintro e w4 ⟨rfl, hb⟩
      have HB4 := Lib.hid (below_then HB3.out hb)
      have HC4 := Lib.hid (below_then HC3.out hb)
      clear hb x0 x1 x2 x3 z0 z1 z2 z3
      obtain ⟨x0, x1, x2, x3⟩ := (HX.out.below HB4.out).reads
      obtain ⟨z0, z1, z2, z3⟩ := quad_hold HB4.out HM.out
      go_wp2_with fail
      refine (HRc.out _ (below_then HB0.out HB4.out)).mono ?_; rintro e w5 ⟨rfl, hb⟩
      have HB5 := Lib.hid (below_then HB4.out hb)
      have HC5 := Lib.hid (below_then HC4.out hb)
      clear hb x0 x1 x2 x3 z0 z1 z2 z3
      obtain ⟨x0, x1, x2, x3⟩ := (HX.out.below HB5.out).reads
      obtain ⟨z0, z1, z2, z3⟩ := quad_hold HB5.out HM.out
      go_upto_region 9 with fail
      have hk : w5.drew.cell? ⟨w.heap.size, 0, none⟩ = some (.slice p S.ds.length cc) ∧ w5.drew.cell? ⟨w.heap.size, 1, none⟩ = some (.slice p2 S.is.length c2) ∧ w5.drew.cell? ⟨w.heap.size, 2, none⟩ = some (.slice p3 S.ns.length c3) ∧ w5.drew.cell? ⟨w.heap.size, 3, none⟩ = some (.slice p4 S.vs.length c4) ∧ w5.drew.cell? ⟨w.heap.size + 1, 0, none⟩ = some (.int .u32 a) := ⟨x0, x1, x2, x3, z0⟩
      have hBw : Below W.heap.size W w5.drew := HB5.out.drew
      have hBv : Below w2.heap.size w2 w5.drew := HC5.out.drew
      clear x0 x1 x2 x3 z0 z1 z2 z3
      go_region_held3 (fun w' => w'.cell? ⟨w.heap.size, 0, none⟩ = some (.slice p S.ds.length cc) ∧ w'.cell? ⟨w.heap.size, 1, none⟩ = some (.slice p2 S.is.length c2) ∧ w'.cell? ⟨w.heap.size, 2, none⟩ = some (.slice p3 S.ns.length c3) ∧ w'.cell? ⟨w.heap.size, 3, none⟩ = some (.slice p4 S.vs.length c4) ∧ w'.cell? ⟨w.heap.size + 1, 0, none⟩ = some (.int .u32 a)) (with_reducible exact hk)
        (first
          | (go_at_call 12; refine (HFf.out _ (below_then HB0.out hBw)).mono ?_; rintro r w6 ⟨rfl, hb2⟩; have hk := And.intro (cell_later hb2 hk.1) (quad_hold hb2 hk.2); have hBw := below_then hBw hb2; have hBv := below_then hBv hb2; clear hb2)
          | (go_at_call 11; refine (HSf.out _).mono ?_; rintro r wz ⟨rfl, rfl⟩; have hk := hk))
      have HB6 := Lib.hid hBw
      have HC6 := Lib.hid hBv
      clear hBw hBv hk
      obtain ⟨x0, x1, x2, x3⟩ := (HX.out.below HB6.out).reads
      obtain ⟨z0, z1, z2, z3⟩ := quad_hold HB6.out HM.out
      go_upto_region 11 with fail
      have hk : w6.drew.cell? ⟨w.heap.size, 0, none⟩ = some (.slice p S.ds.length cc) ∧ w6.drew.cell? ⟨w.heap.size, 1, none⟩ = some (.slice p2 S.is.length c2) ∧ w6.drew.cell? ⟨w.heap.size, 2, none⟩ = some (.slice p3 S.ns.length c3) ∧ w6.drew.cell? ⟨w.heap.size, 3, none⟩ = some (.slice p4 S.vs.length c4) ∧ w6.drew.cell? ⟨w.heap.size + 1, 0, none⟩ = some (.int .u32 a) ∧ w6.drew.cell? ⟨w.heap.size + 1, 2, none⟩ = some (.int .u64 q) := ⟨x0, x1, x2, x3, z0, z2⟩
      have hBw : Below W.heap.size W w6.drew := HB6.out.drew
      have hBv : Below w2.heap.size w2 w6.drew := HC6.out.drew
      clear x0 x1 x2 x3 z0 z1 z2 z3
      go_region_held3 (fun w' => w'.cell? ⟨w.heap.size, 0, none⟩ = some (.slice p S.ds.length cc) ∧ w'.cell? ⟨w.heap.size, 1, none⟩ = some (.slice p2 S.is.length c2) ∧ w'.cell? ⟨w.heap.size, 2, none⟩ = some (.slice p3 S.ns.length c3) ∧ w'.cell? ⟨w.heap.size, 3, none⟩ = some (.slice p4 S.vs.length c4) ∧ w'.cell? ⟨w.heap.size + 1, 0, none⟩ = some (.int .u32 a) ∧ w'.cell? ⟨w.heap.size + 1, 2, none⟩ = some (.int .u64 q)) (with_reducible exact hk)
        (first
          | (go_at_call 18; refine (HRkk.out _ (below_then HB0.out hBw)).mono ?_; rintro r w7 ⟨rfl, hb2⟩; have hk := And.intro (cell_later hb2 hk.1) (And.intro (cell_later hb2 hk.2.1) (quad_hold hb2 hk.2.2)); have hBw := below_then hBw hb2; have hBv := below_then hBv hb2; clear hb2))
      have HB7 := Lib.hid hBw
      have HC7 := Lib.hid hBv
      clear hBw hBv hk
      obtain ⟨x0, x1, x2, x3⟩ := (HX.out.below HB7.out).reads
      obtain ⟨z0, z1, z2, z3⟩ := quad_hold HB7.out HM.out
      go_wp2_with fail
      refine (HRoo.out _ (below_then HB0.out HB7.out)).mono ?_; rintro e w8 ⟨⟨v, rfl, hv⟩, hb⟩
      have HB8 := Lib.hid (below_then HB7.out hb)
      have HC8 := Lib.hid (below_then HC7.out hb)
      have hV := Ints.own hv
      obtain ⟨px, cx, rfl, -, -⟩ := id hV
      rw [HLn.out] at hV ⊢
      have HVx := Lib.hid hV
      have HV8 := Lib.hid (HV.out.below HC8.out)
      clear hv hV hb HC2 HC3 HC4 HC5 HC6 HC7 x0 x1 x2 x3 z0 z1 z2 z3
      go_wp2_with fail
      go_loopw [13, 14] (fun cw iv wr => ∃ k : Nat, k ≤ S.ds.length ∧ iv = .int .i64 k ∧ (∃ c : Int, cw = .int .i64 c ∧ Hid (c = if 0 ≤ n ∧ n < k then cz L n.toNat else -1)) ∧ Hid (Below W.heap.size W wr ∧ Below w8.heap.size w8 wr)) (fun _ iv _ => S.ds.length - (intOf iv).toNat)
      case atStart => exact ⟨0, Nat.zero_le _, rfl, ⟨-1, rfl, Lib.hid (by rw [if_neg (by omega)])⟩, Lib.hid ⟨HB8.out, Below.refl _ _⟩⟩
      case round =>
        obtain ⟨k, hk, rfl, ⟨c, rfl, HE⟩, HBB⟩ := hrel
        by_cases hlk : k < S.ds.length
        · have hlk' : (k : Int) < (S.ds.length : Int) := by omega
          have hle : Hid (k + 1 ≤ S.ds.length) := Lib.hid (by omega)
          obtain ⟨b0, o0, ha0, hb0, hc0⟩ := HV8.out.cell (i := k) (by have := HLn.out; omega)
          subst ha0
          have hc0 := cell_later HBB.out.2 hc0
          have g0 : wr.cell? ⟨b0, o0 + k, none⟩ = some (.int .i64 (cz L k)) := hc0
          obtain ⟨b1, o1, ha1, hb1, hc1⟩ := HVx.out.cell (i := k) (by have := HLn.out; omega)
          subst ha1
          have hc1 := cell_later HBB.out.2 hc1
          have g1 : wr.cell? ⟨b1, o1 + k, none⟩ = some (.int .i64 (cz L k)) := hc1
          have HE1 := Lib.hid (show (k : Int) = n → cz L k = if 0 ≤ n ∧ n < ((k + 1 : Nat) : Int) then cz L n.toNat else -1 from fun e => by subst e; rw [if_pos (by omega), Int.toNat_natCast])
          have HE2 := Lib.hid (show ¬ (k : Int) = n → c = if 0 ≤ n ∧ n < ((k + 1 : Nat) : Int) then cz L n.toNat else -1 from fun e => by
            rw [HE.out]
            by_cases q : 0 ≤ n ∧ n < (k : Int)
            · rw [if_pos q, if_pos (by omega)]
            · rw [if_neg q, if_neg (by omega)])
          have hyy : (cz L k != cz L k) = false := by simp
          clear hc0 hc1 HE
          generalize cz L k = y at *
          go_upto_region 25 with fail
          go_quiet (fail)
          have hbn : Below wr.heap.size wr (wr.drewN nq) := below_drewN (Below.refl _ _) nq
          have g1 := cell_later hbn g1
          have HBn := Lib.hid (And.intro (below_then HBB.out.1 hbn) (below_then HBB.out.2 hbn))
          clear g0 hbn
          generalize wr.drewN nq = wn at *
          have z3 := (quad_hold HBn.out.1 HM.out).2.2.2
          by_cases hkn : (k : Int) = n
          · have HE3 := Lib.hid (HE1.out hkn)
            have hee : ((k : Int) == n) = true := by simpa using hkn
            clear HE1 HE2 hkn
            go_wp2_with fail
            go_roundw
            case rel => exact ⟨k + 1, hle.out, by go_num, ⟨y, rfl, HE3⟩, HBn⟩
            case measure => simp [intOf]; omega
          · have HE3 := Lib.hid (HE2.out hkn)
            have hee : ((k : Int) == n) = false := by simpa using hkn
            clear HE1 HE2 hkn g1
            go_wp2_with fail
            go_roundw
            case rel => exact ⟨k + 1, hle.out, by go_num, ⟨c, rfl, HE3⟩, HBn⟩
            case measure => simp [intOf]; omega
        · have hke : k = S.ds.length := by omega
          subst hke
          have hce : c = co := by rw [HE.out, HCo2.out]
          subst hce
          have hcc : (c != c) = false := by simp
          obtain ⟨x0, x1, x2, x3⟩ := (HX.out.below HBB.out.1).reads
          obtain ⟨z0, z1, z2, z3⟩ := quad_hold HBB.out.1 HM.out
          have HB9 := Lib.hid HBB.out.1
          clear HE HCo2
          go_wp2_with fail
          refine (HSb.out _).mono ?_; rintro e w10 ⟨rfl, rfl⟩
          cases sb with
          | false =>
            obtain ⟨r1, r2⟩ := HDe.out.1 rfl
            subst r1 r2
            clear x0 x1 x2 x3 z0 z1 z2 z3
            go_wp2_with fail
            refine (HA.out _).mono ?_; rintro e w11 ⟨rfl, hb⟩
            have HB11 := Lib.hid (below_then HB9.out hb)
            clear hb
            go_wp2_with fail
            go_ret
            exact ⟨rfl, below_then HB0.out HB11.out⟩
          | true =>
            obtain ⟨r1, r2⟩ := HDe.out.2 rfl
            subst r1 r2
            have HRdt := Lib.hid (fun w hb => HRdd.out w hb rfl)
            have hdd : (dl == dl) = true := by simp
            go_wp2_with fail
            refine (HRdt.out _ (below_then HB0.out HB9.out)).mono ?_; rintro e w11 ⟨rfl, hb⟩
            have HB11 := Lib.hid (below_then HB9.out hb)
            clear hb x0 x1 x2 x3 z0 z1 z2 z3
            go_wp2_with fail
            refine (HA.out _).mono ?_; rintro e w12 ⟨rfl, hb⟩
            have HB12 := Lib.hid (below_then HB11.out hb)
            clear hb
            go_wp2_with fail
            go_ret
            exact ⟨rfl, below_then HB0.out HB12.out⟩
set_option maxRecDepth 100000 in
theorem lifted (os : Os) (started : os.Started) (H : Type) (enc : TypeId × Value → H) :
    ReturnsInHanded {} Try.checked os 4 .any (Rows.keyCodesSpec.pre6 enc Try.prog Try.f4 Rows.keyCodesRow.domain false) (Rows.keyCodesSpec.post enc Try.prog Try.f4 false true false false) := by
  refine returnsInHanded_of_change (C := Try.checked) own started (by kernel_rfl) Try.func4
    (ChangeSpec.witness6 (enc := enc) (C := Try.checked) false ⟨#[], #[.agg #[.slice none 0 0, .slice none 0 0, .slice none 0 0, .slice none 0 0], .agg #[.int .u32 0, .int .u32 0, .int .u64 0, .int .i64 0]], []⟩ 8 (by kernel_rfl) (by kernel_rfl) (by kernel_rfl) (by kernel_rfl)) ?_
  intro W base args ds gs before hval0 hW hcnd _
  have hval : ∀ (j : Nat) t v, Try.f4.params[j]? = some t → args[j]? = some v → Value.okWide Try.prog W .any base t v := hval0
  have hW' := hW
  obtain ⟨p, q, hA0, hV, rfl, hfz, hnd⟩ := hW
  have hA : DataW.TrodAll enc Try.prog W 0 (fun _ => true) true Try.f4.params.toList args.toList ds p := hA0
  rw [Try.params4] at hA hval
  obtain ⟨v0, vs0, d0, ds0, p0, q0, hargs, rfl, rfl, h0, r0⟩ := trodAll_cons hA
  obtain ⟨v1, vs1, d1, ds1, p1, q1, rfl, rfl, rfl, h1, r1⟩ := trodAll_cons r0
  obtain ⟨rfl, rfl, rfl⟩ := trodAll_nil r1
  obtain rfl : args = #[v0, v1] := by cases args; simp_all
  obtain ⟨rfl, rfl⟩ := trodVars_none hV
  have k0 := h0
  have lt0 : ∀ x ∈ p0, x.block < W.heap.size := by obtain ⟨m, hm⟩ := k0; exact DataW.trod_lt m _ _ _ hm
  obtain ⟨D0, I0, N0, V0, S0, rfl, s0, w0⟩ := schema_of (hval 0 26 v0 rfl rfl) h0
  have k1 := h1
  have lt1 : ∀ x ∈ p1, x.block < W.heap.size := by obtain ⟨m, hm⟩ := k1; exact DataW.trod_lt m _ _ _ hm
  obtain ⟨a1, b1, c1, n1, rfl, e1, f1, g1, j1⟩ := way_of (hval 1 47 v1 rfl rfl) h1
  clear hA0 hval0
  refine (walk D0 I0 N0 V0 S0 a1 b1 c1 n1 W s0 w0 e1 f1 g1 j1).mono fun e W' ⟨he, bel⟩ => ?_
  subst he
  exact ⟨_, rfl, _, _, _, [], _, [], hW', trodAll_mk1 (shut_bool Try.underlying4 _), (trodAll_cons_mk (Below.trod laidOut (by kernel_rfl) (of_decide_eq_true (by kernel_rfl)) k0 bel lt0) (trodAll_cons_mk (Below.trod laidOut (by kernel_rfl) (of_decide_eq_true (by kernel_rfl)) k1 bel lt1) trodAll_mk0)), rfl, bel.frame _, fun h => by cases h⟩

theorem over : Rows.keyCodesRow.holds Try.pinned (OpenSpec.ofChange Rows.keyCodesSpec) :=
  OpenClaim.holds_of_wide 4 Try.f4 rfl rfl rfl rfl rfl rfl rfl ⟨rfl, rfl, rfl, rfl, rfl⟩ rfl rfl rfl rfl rfl (by kernel_rfl) Try.func4 (by kernel_rfl)
    (of_decide_eq_true (by kernel_rfl)) (by unfold Func.isWrapper; first | (rw [if_pos (by decide +kernel)]; kernel_rfl) | (rw [if_neg (by decide +kernel)]; exact ⟨rfl, rfl⟩))
    (fun os started H enc _ => lifted os started H enc)
end Go.Proofs.Ytgbeedjcliajfaa.keyCodes
namespace Go.Proofs.Ytgbeedjcliajfaa
/-- The statement. -/
theorem keyCodes_holds : Rows.KeyCodesSaid := keyCodes.over
#print axioms keyCodes_holds
end Go.Proofs.Ytgbeedjcliajfaa
