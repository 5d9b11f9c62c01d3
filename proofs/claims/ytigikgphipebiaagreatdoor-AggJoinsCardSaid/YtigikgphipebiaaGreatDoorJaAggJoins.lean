/- AggJoins: for any two cells the statement's function returns true and changes nothing that was there. No condition; the row lists the two tables of math/bits as the program's text lays them. -/
import Derived.SevenTiedAt
import Derived.Test.YtigikgphipebiaaGreatDoorRows
import Derived.Test.YtigikgphipebiaaGreatDoorCards
import Derived.Test.YtigikgphipebiaaGreatDoorTie
import Derived.Test.YtigikgphipebiaaGreatDoorJa21
import Derived.Test.YtigikgphipebiaaGreatDoorJa40
namespace Go.Proofs.YtigikgphipebiaaGreatDoor.aggJoins
set_option maxRecDepth 100000
open Go.ChangeShapes Go.WideShapes Go.ChangeAt Go.RowKit
set_option linter.unusedVariables false
set_option maxHeartbeats 8000000 in
theorem walk (I N : Value) (a : Ce) (I' N' : Value) (b : Ce) (w : World) (h : CeM w I N a) (ha : CeW a) (h' : CeM w I' N' b) (hb : CeW b) (hT : Tab w) (hT2 : Tab64 w) :
    Calls Tryz.prog 4 #[CeV a I N, CeV b I' N'] w fun e w' => e = .returned (.bool true) ∧ Below w.heap.size w w' := by
  obtain ⟨⟨p, k, rfl⟩, q, l, rfl⟩ := h.slices
  obtain ⟨⟨p', k', rfl⟩, q', l', rfl⟩ := h'.slices
  have HA := Lib.hid (fun w1 (hb1 : Below w.heap.size w w1) => awake14_any w1 (hT.call hb1) (hT2.call hb1))
  have HTb := Lib.hid (fun w1 (hb1 : Below w.heap.size w w1) => hT.call hb1)
  have hb1 := below_one w (.cells #[.int .u64 a.key, .int .i64 a.cnt, .slice p a.is.length k, .slice q a.ns.length l] 41)
  have hb2 := below_one (w.alloc (.cells #[.int .u64 a.key, .int .i64 a.cnt, .slice p a.is.length k, .slice q a.ns.length l] 41)) (.cells #[.int .u64 b.key, .int .i64 b.cnt, .slice p' b.is.length k', .slice q' b.ns.length l'] 41)
  have HB := Lib.hid (below_then hb1 hb2)
  have HX := Lib.hid ((cbox_new h).below hb2)
  have hy := cbox_new (h'.below hb1)
  rw [World.size_alloc] at hy
  have HY := Lib.hid hy
  have HWa := Lib.hid ha
  have HWb := Lib.hid hb
  clear h h' ha hb hb1 hb2 hy hT hT2
  go_enter Tryz.func4, Tryz.ntmps4
  go_upto_region 1 with fail
  generalize (w.alloc (.cells #[.int .u64 a.key, .int .i64 a.cnt, .slice p a.is.length k, .slice q a.ns.length l] 41)).alloc (.cells #[.int .u64 b.key, .int .i64 b.cnt, .slice p' b.is.length k', .slice q' b.ns.length l'] 41) = W at *
  obtain ⟨x0, x1, x2, x3⟩ := HX.out.reads
  obtain ⟨y0, y1, y2, y3⟩ := HY.out.reads
  go_wp2_with fail
  refine (rlight_any _ a _ _ HX.out.m).mono ?_; rintro e w1 ⟨rfl, hb1⟩
  have HB1 := Lib.hid (below_then HB.out hb1)
  have HX1 := Lib.hid (HX.out.below hb1)
  have HY1 := Lib.hid (HY.out.below hb1)
  clear hb1 x0 x1 x2 x3 y0 y1 y2 y3 HX HY
  obtain ⟨y0, y1, y2, y3⟩ := HY1.out.reads
  cases hla : lightC a with
  | false =>
    go_wp2_with fail
    refine (HA.out _ HB1.out).mono ?_; rintro e w2 ⟨rfl, hb2⟩
    have HB2 := Lib.hid (below_then HB1.out hb2)
    clear hb2 y0 y1 y2 y3
    go_wp2_with fail
    go_ret
    exact ⟨rfl, HB2.out⟩
  | true =>
    have HLa := Lib.hid hla
    clear hla
    go_wp2_with fail
    refine (rlight_any _ b _ _ HY1.out.m).mono ?_; rintro e w2 ⟨rfl, hb2⟩
    have HB2 := Lib.hid (below_then HB1.out hb2)
    have HX2 := Lib.hid (HX1.out.below hb2)
    have HY2 := Lib.hid (HY1.out.below hb2)
    clear hb2 y0 y1 y2 y3 HX1 HY1 HB1
    obtain ⟨x0, x1, x2, x3⟩ := HX2.out.reads
    obtain ⟨y0, y1, y2, y3⟩ := HY2.out.reads
    cases hlb : lightC b with
    | false =>
      clear x0 x1 x2 x3 y0 y1 y2 y3
      go_wp2_with fail
      refine (HA.out _ HB2.out).mono ?_; rintro e w3 ⟨rfl, hb3⟩
      have HB3 := Lib.hid (below_then HB2.out hb3)
      clear hb3
      go_wp2_with fail
      go_ret
      exact ⟨rfl, HB3.out⟩
    | true =>
      have HLb := Lib.hid hlb
      have HSa := Lib.hid (light_short HLa.out)
      have HSb := Lib.hid (light_short hlb)
      have H1 := Lib.hid (pj_open w2 a b _ _ _ _ 20 (by decide) HX2.out.m HY2.out.m HWa.out HWb.out HSa.out HSb.out (HTb.out _ HB2.out))
      have HEr := Lib.hid (show errJ b a = errJ a b from errJ_comm b a)
      clear hlb
      go_wp2_with fail
      refine H1.out.mono ?_; rintro e w3 ⟨c, p1, k1, q1, l1, rfl, hm, hj1, hj2, hwc, hsc, hb3⟩
      have hb4 := below_then hb3 (below_one w3 (.cells #[.int .u64 c.key, .int .i64 c.cnt, .slice p1 c.is.length k1, .slice q1 c.ns.length l1] 41))
      have HB4 := Lib.hid (below_then HB2.out hb4)
      have HX4 := Lib.hid (HX2.out.below hb4)
      have HY4 := Lib.hid (HY2.out.below hb4)
      have HC4 := Lib.hid (cbox_new hm)
      have HWc := Lib.hid hwc
      have HJc := Lib.hid (And.intro hj1 hj2)
      clear hb3 hb4 hm hj1 hj2 hwc hsc H1 HB2 HX2 HY2 x0 x1 x2 x3 y0 y1 y2 y3
      go_upto_region 4 with fail
      generalize w3.alloc (.cells #[.int .u64 c.key, .int .i64 c.cnt, .slice p1 c.is.length k1, .slice q1 c.ns.length l1] 41) = w4 at *
      generalize w3.heap.size = K1 at *
      obtain ⟨x0, x1, x2, x3⟩ := HX4.out.reads
      obtain ⟨y0, y1, y2, y3⟩ := HY4.out.reads
      have H2 := Lib.hid (pj_open w4 b a _ _ _ _ 20 (by decide) HY4.out.m HX4.out.m HWb.out HWa.out HSb.out HSa.out (HTb.out _ HB4.out))
      go_wp2_with fail
      refine H2.out.mono ?_; rintro e w5 ⟨d, p2, k2, q2, l2, rfl, hm, hj1, hj2, hwd, hsd, hb5⟩
      have hb6 := below_then hb5 (below_one w5 (.cells #[.int .u64 d.key, .int .i64 d.cnt, .slice p2 d.is.length k2, .slice q2 d.ns.length l2] 41))
      have HB6 := Lib.hid (below_then HB4.out hb6)
      have HX6 := Lib.hid (HX4.out.below hb6)
      have HY6 := Lib.hid (HY4.out.below hb6)
      have HC6 := Lib.hid (HC4.out.below hb6)
      have HD6 := Lib.hid (cbox_new hm)
      have HWd := Lib.hid hwd
      have HJd := Lib.hid (And.intro hj1 hj2)
      clear hb5 hb6 hm hj1 hj2 hwd hsd H2 HB4 HX4 HY4 HC4 x0 x1 x2 x3 y0 y1 y2 y3
      go_upto_region 5 with fail
      generalize w5.alloc (.cells #[.int .u64 d.key, .int .i64 d.cnt, .slice p2 d.is.length k2, .slice q2 d.ns.length l2] 41) = w6 at *
      generalize w5.heap.size = K2 at *
      obtain ⟨x0, x1, x2, x3⟩ := HX6.out.reads
      obtain ⟨y0, y1, y2, y3⟩ := HY6.out.reads
      have H3 := Lib.hid (rj_open w6 a b _ _ _ _ HX6.out.m HY6.out.m HWa.out HWb.out HLa.out HLb.out)
      go_wp2_with fail
      refine H3.out.mono ?_; rintro e w7 ⟨g, p3, k3, q3, l3, rfl, hm, hj1, hj2, hwg, hb7⟩
      have hb8 := below_then hb7 (below_one w7 (.cells #[.int .u64 g.key, .int .i64 g.cnt, .slice p3 g.is.length k3, .slice q3 g.ns.length l3] 41))
      have HB8 := Lib.hid (below_then HB6.out hb8)
      have HC8 := Lib.hid (HC6.out.below hb8)
      have HD8 := Lib.hid (HD6.out.below hb8)
      have HG8 := Lib.hid (cbox_new hm)
      have HWg := Lib.hid hwg
      have HS1 := Lib.hid (rj_same HJc.out.1 HJc.out.2 hj1 hj2)
      have HS2 := Lib.hid (rj_turn HJd.out.1 HJd.out.2 hj1 hj2)
      clear hb7 hb8 hm hj1 hj2 hwg H3 HB6 HX6 HY6 HC6 HD6 HJc HJd x0 x1 x2 x3 y0 y1 y2 y3
      rw [HEr.out]
      clear HEr
      go_upto_region 6 with fail
      generalize w7.alloc (.cells #[.int .u64 g.key, .int .i64 g.cnt, .slice p3 g.is.length k3, .slice q3 g.ns.length l3] 41) = w8 at *
      generalize w7.heap.size = K3 at *
      have heq : (((errJ a b : Nat) : Int) == ((errJ a b : Nat) : Int)) = true := by simp
      generalize errJ a b = E at *
      obtain ⟨x0, x1, x2, x3⟩ := HC8.out.reads
      obtain ⟨y0, y1, y2, y3⟩ := HG8.out.reads
      have H4 := Lib.hid (rsame14_any w8 c g _ _ _ _ HC8.out.m HG8.out.m HWc.out HWg.out)
      rw [HS1.out] at H4
      go_wp2_with fail
      refine H4.out.mono ?_; rintro e w9 ⟨rfl, hb9⟩
      have HB9 := Lib.hid (below_then HB8.out hb9)
      have HD9 := Lib.hid (HD8.out.below hb9)
      have HG9 := Lib.hid (HG8.out.below hb9)
      clear hb9 H4 HC8 HD8 HG8 HB8 x0 x1 x2 x3 y0 y1 y2 y3
      obtain ⟨x0, x1, x2, x3⟩ := HD9.out.reads
      obtain ⟨y0, y1, y2, y3⟩ := HG9.out.reads
      have H5 := Lib.hid (rsame14_any w9 d g _ _ _ _ HD9.out.m HG9.out.m HWd.out HWg.out)
      rw [HS2.out] at H5
      go_wp2_with fail
      refine H5.out.mono ?_; rintro e w10 ⟨rfl, hb10⟩
      have HB10 := Lib.hid (below_then HB9.out hb10)
      clear hb10 H5 HD9 HG9 HB9 x0 x1 x2 x3 y0 y1 y2 y3
      go_wp2_with fail
      refine (HA.out _ HB10.out).mono ?_; rintro e w11 ⟨rfl, hb11⟩
      have HB11 := Lib.hid (below_then HB10.out hb11)
      clear hb11
      go_wp2_with fail
      go_ret
      exact ⟨rfl, HB11.out⟩
set_option maxRecDepth 100000 in
theorem lifted (os : Os) (started : os.Started) (H : Type) (enc : TypeId × Value → H) :
    ReturnsInHanded {} Tryz.checked os 4 .any (fun w args => (Rows.aggJoinsSpec.pre enc Tryz.prog Tryz.f4 [] false w args ∧ laidMetH Tryz.prog laid3 w) ∧ sizedMet enc Tryz.prog Tryz.f4 (OpenSpec.ofChange Rows.aggJoinsSpec) false w args)
      (Rows.aggJoinsSpec.post enc Tryz.prog Tryz.f4 false true false false) := by
  refine returnsInHanded_of_change_and (C := Tryz.checked) (X := fun w _ => laidMetH Tryz.prog laid3 w) (fun _ _ _ hh h => h.of_heap hh) own2 started (by kernel_rfl) Tryz.func4
    (ChangeSpec.witness_shaped (enc := enc) (C := Tryz.checked) (os := os) (X := fun w _ => laidMetH Tryz.prog laid3 w) false (World.doorLaid Tryz.prog 800 os) #[.agg #[.int .u64 0, .int .i64 0, .slice none 0 0, .slice none 0 0], .agg #[.int .u64 0, .int .i64 0, .slice none 0 0, .slice none 0 0]] 8 rfl (World.shaped_of_RefB (by kernel_rfl) (by kernel_rfl)) (by kernel_rfl) (by kernel_rfl) (by kernel_rfl) (door_met3 os _)) ?_
  intro W base args ds gs before hval0 hW _ _ hL _
  have hTab := tab_of3 hL
  have hTab64 := tab64_of3 hL
  have hval : ∀ (j : Nat) t v, Tryz.f4.params[j]? = some t → args[j]? = some v → Value.okWide Tryz.prog W .any base t v := hval0
  have hW' := hW
  obtain ⟨p, q, hA0, hV, rfl, hfz, hnd⟩ := hW
  have hA : DataW.TrodAll enc Tryz.prog W 0 (fun _ => true) true Tryz.f4.params.toList args.toList ds p := hA0
  rw [Tryz.params4] at hA hval
  obtain ⟨v0, vs0, d0, ds0, p0, q0, hargs, rfl, rfl, h0, r0⟩ := trodAll_cons hA
  obtain ⟨v1, vs1, d1, ds1, p1, q1, rfl, rfl, rfl, h1, r1⟩ := trodAll_cons r0
  obtain ⟨rfl, rfl, rfl⟩ := trodAll_nil r1
  obtain rfl : args = #[v0, v1] := by cases args; simp_all
  obtain ⟨rfl, rfl⟩ := trodVars_none hV
  have k0 := h0
  have lt0 : ∀ x ∈ p0, x.block < W.heap.size := by obtain ⟨m, hm⟩ := k0; exact DataW.trod_lt m _ _ _ hm
  obtain ⟨I0, N0, c0, rfl, s0, w0⟩ := cell_of (hval 0 41 v0 rfl rfl) h0
  have k1 := h1
  have lt1 : ∀ x ∈ p1, x.block < W.heap.size := by obtain ⟨m, hm⟩ := k1; exact DataW.trod_lt m _ _ _ hm
  obtain ⟨I1, N1, c1, rfl, s1, w1⟩ := cell_of (hval 1 41 v1 rfl rfl) h1
  clear hA0 hval0
  refine (walk I0 N0 c0 I1 N1 c1 W s0 w0 s1 w1 hTab hTab64).mono fun e W' ⟨he, bel⟩ => ?_
  subst he
  exact ⟨_, rfl, _, _, _, [], _, [], hW', trodAll_mk1 (shut_bool Tryz.underlying4 _), (trodAll_cons_mk (Below.trod laidOut2 (by kernel_rfl) (of_decide_eq_true (by kernel_rfl)) k0 bel lt0) (trodAll_cons_mk (Below.trod laidOut2 (by kernel_rfl) (of_decide_eq_true (by kernel_rfl)) k1 bel lt1) trodAll_mk0)), rfl, bel.frame _, fun h => by cases h⟩

theorem over : Rows.aggJoinsRow.holds Tryz.pinned (OpenSpec.ofChange Rows.aggJoinsSpec) :=
  OpenClaim.holds_of_wide 4 Tryz.f4 rfl rfl rfl rfl rfl rfl rfl ⟨rfl, rfl, rfl, rfl, rfl⟩ rfl rfl rfl rfl rfl (by kernel_rfl) Tryz.func4 (by kernel_rfl)
    (of_decide_eq_true (by kernel_rfl)) (by unfold Func.isWrapper; first | (rw [if_pos (by decide +kernel)]; kernel_rfl) | (rw [if_neg (by decide +kernel)]; exact ⟨rfl, rfl⟩))
    (fun os started H enc _ => lifted os started H enc)
theorem row_holds : Rows.AggJoinsSaid := over
end Go.Proofs.YtigikgphipebiaaGreatDoor.aggJoins
namespace Go.Proofs.YtigikgphipebiaaGreatDoor
/-- The statement: the tied card. -/
theorem aggJoins_holds : Rows.AggJoinsCardSaid :=
  Claim7.holds_tied_plain_at .later [] [.data, .data] true _ false
    aggJoins.row_holds (fun _ h => by cases h) (by kernel_rfl) (fun _ h => by cases h) aggJoins_row_tie rfl ⟨rfl, rfl⟩ (by kernel_rfl) rfl
    (fun f fn hf hfn => by
      obtain rfl : f = 4 := Option.some.inj ((show Tryz.prog.funcNamed "bushel/bushellaw14.AggJoins" = some 4 by kernel_rfl).symm.trans hf) |>.symm
      obtain rfl : fn = Tryz.f4 := (Option.some.inj (Tryz.func4.symm.trans hfn)).symm
      exact ⟨by kernel_rfl, fun j t ht => by
        rw [Tryz.params4] at ht
        have hm : t ∈ [41, 41] := by simpa using Array.mem_of_getElem? ht
        have hall : ([41, 41].all fun u => !Tryz.prog.wantsStandIn u) = true := by kernel_rfl
        exact (show Tryz.prog.wantsStandIn t = false by simpa using List.all_eq_true.1 hall t hm)⟩)
    (by kernel_rfl)
#print axioms aggJoins_holds
end Go.Proofs.YtigikgphipebiaaGreatDoor
