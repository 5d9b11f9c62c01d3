/- FramePuts: for any two slices of bytes and any size the statement's function returns true and changes nothing that was there. No condition beyond the row's own. -/
import Derived.Test.YtacogaeciodjeaaDoorFrmj
import Derived.Deep.RegionLaw
namespace Go.Proofs.YtacogaeciodjeaaDoor.framePuts
set_option maxRecDepth 100000
open Go.ChangeShapes Go.WideShapes Go.ChangeAt Go.RowKit
set_option linter.unusedVariables false
set_option maxHeartbeats 1000000 in
theorem walk_out (a0 : Option Addr) (len0 cap0 : Nat) (a1 : Option Addr) (len1 cap1 : Nat) (a2 : Int) (w : World) (h : 300 < len1 ∨ 3000 < len0 ∧ len0 ≤ 60000) (hT : Fours w) :
    Calls Tryd.prog 3 #[.slice a0 len0 cap0, .slice a1 len1 cap1, .int .i64 a2] w fun e w' => e = .returned (.bool true) ∧ Below w.heap.size w w' := by
  have HA := Lib.hid (awake9_any w hT)
  clear hT
  by_cases h1 : 300 < len1
  · have h2 : 300 < (len1 : Int) := by omega
    go_enter Tryd.func3, Tryd.ntmps3
    go_wp2_with fail
    refine (HA.out).mono ?_; rintro e w' ⟨rfl, hb⟩
    go_wp2_with fail
    go_ret
    exact ⟨rfl, hb⟩
  · have h2 : (len1 : Int) ≤ 300 := by omega
    have h3 : 3000 < (len0 : Int) := by omega
    have h4 : (len0 : Int) ≤ 60000 := by omega
    go_enter Tryd.func3, Tryd.ntmps3
    go_wp2_with fail
    refine (HA.out).mono ?_; rintro e w' ⟨rfl, hb⟩
    go_wp2_with fail
    go_ret
    exact ⟨rfl, hb⟩
set_option maxHeartbeats 4000000 in
theorem walk_long (a0 : Option Addr) (len0 cap0 : Nat) (a1 : Option Addr) (len1 cap1 : Nat) (a2 : Int) (w : World) (h1 : len1 ≤ 300) (h0 : 60000 < len0) (hT : Fours w) :
    Calls Tryd.prog 3 #[.slice a0 len0 cap0, .slice a1 len1 cap1, .int .i64 a2] w fun e w' => e = .returned (.bool true) ∧ Below w.heap.size w w' := by
  have HA := Lib.hid (awake9_any w hT)
  have HP := Lib.hid (pput_long _ len0 a0 cap0 w rfl h0)
  have HZ := Lib.hid (psize_any a2 w)
  have h2 : (len1 : Int) ≤ 300 := by omega
  have h3 : 60000 < (len0 : Int) := by omega
  clear hT
  have hc : a2 < 0 ∨ (0 ≤ a2 ∧ a2 ≤ 60000) ∨ 60000 < a2 := by omega
  rcases hc with h | ⟨h, h5⟩ | h
  all_goals (first | rw [show sizeN a2 = 0 by unfold sizeN; rw [if_pos (by omega)]] at HZ | rw [show sizeN a2 = a2 + 8 by unfold sizeN; rw [if_neg (by omega)]] at HZ)
  all_goals
    go_enter Tryd.func3, Tryd.ntmps3
    go_wp2_with fail
    refine (HZ.out).mono ?_; rintro e w' ⟨rfl, rfl⟩
    go_wp2_with fail
    refine (HP.out).mono ?_; rintro e w' ⟨rfl, rfl⟩
    go_wp2_with fail
    refine (HA.out).mono ?_; rintro e w' ⟨rfl, hb⟩
    go_wp2_with fail
    go_ret
    exact ⟨rfl, hb⟩
set_option maxHeartbeats 8000000 in
theorem walk_main (a0 : Option Addr) (cap0 : Nat) (z0 : List Int) (a1 : Option Addr) (cap1 : Nat) (z1 : List Int) (a2 : Int) (w : World) (g0 : Ints .u8 w (.slice a0 z0.length cap0) z0) (hb0 : Byt z0) (g1 : Ints .u8 w (.slice a1 z1.length cap1) z1) (hb1 : Byt z1) (h1 : z1.length ≤ 300) (h0 : z0.length ≤ 3000) (hT : Fours w) :
    Calls Tryd.prog 3 #[.slice a0 z0.length cap0, .slice a1 z1.length cap1, .int .i64 a2] w fun e w' => e = .returned (.bool true) ∧ Below w.heap.size w w' := by
  obtain ⟨i0, hi, hz0, hz1, hz2⟩ := info_parts Tryd.infoU8
  have HAw := Lib.hid (fun w' (h : Below w.heap.size w w') => awake9_any w' (hT.call h))
  have HP := Lib.hid (pput_any _ z0 w g0 hb0 (by omega) hT)
  have HR := Lib.hid (fun w' (h : Below w.heap.size w w') => rput_any _ z0 w' (g0.below h) hb0 (by omega))
  have HG := Lib.hid (fun w' v (h : Below w.heap.size w w') (hv : Ints .u8 w' v (putN z0 ++ z1)) => pget_any v _ w' hv (bytes_append (put_byt hb0) hb1) (by rw [List.length_append, put_len]; omega) (hT.call h))
  rw [get_put (by omega)] at HG
  have HC := Lib.hid (fun w' v (h : Ints .u8 w' v (putN z0)) => conv_ints h (put_byt hb0))
  have HC0 := Lib.hid (fun w' v (h : Ints .u8 w' v z0) => conv_ints h hb0)
  have hq : ((strB (putN z0)).toList != (strB (putN z0)).toList) = false := by simp
  have hq0 : ((strB z0).toList == (strB z0).toList) = true := by simp
  have HL := Lib.hid (put_len z0)
  have G0 := Lib.hid g0
  have G1 := Lib.hid g1
  have HZ := Lib.hid (psize_any a2 w)
  have h2 : (z1.length : Int) ≤ 300 := by omega
  have h3 : (z0.length : Int) ≤ 3000 := by omega
  have h3' : ¬ 60000 < (z0.length : Int) := by omega
  unfold PutP at HP
  unfold GetP at HG
  unfold BytesP at HR
  simp only at HG
  clear hT g0 g1 hb0 hb1
  generalize strB (putN z0) = S at *
  generalize strB z0 = S0 at *
  generalize putN z0 = pz at *
  go_enter Tryd.func3, Tryd.ntmps3
  go_upto_region 4 with fail
  go_cut [32] from 27 to 34 (fun s32 wx => s32 = .bool (decide (0 ≤ a2 ∧ a2 ≤ 60000)) ∧ Hid (w = wx))
  case first =>
    have hc : a2 < 0 ∨ (0 ≤ a2 ∧ a2 ≤ 60000) ∨ 60000 < a2 := by omega
    rcases hc with h | ⟨h, h5⟩ | h
    · have hd := Lib.hid (show decide (0 ≤ a2 ∧ a2 ≤ 60000) = false from decide_eq_false (by omega))
      go_wp2_with fail
      go_meet
      exact ⟨by rw [hd.out], Lib.hid (by trivial)⟩
    · have hd := Lib.hid (show decide (0 ≤ a2 ∧ a2 ≤ 60000) = true from decide_eq_true (by omega))
      go_wp2_with fail
      go_meet
      exact ⟨by rw [hd.out], Lib.hid (by trivial)⟩
    · have hd := Lib.hid (show decide (0 ≤ a2 ∧ a2 ≤ 60000) = false from decide_eq_false (by omega))
      go_wp2_with fail
      go_meet
      exact ⟨congrArg Value.bool (by rw [hd.out]; exact decide_eq_false (by omega)), Lib.hid (by trivial)⟩
  case rest =>
    obtain ⟨rfl, hw⟩ := hcut
    obtain rfl := hw.out
    clear hw
    go_upto_if 32 with fail
    go_cut [7] from 27 to 34 (fun s7 wx => s7 = .int .i64 (sizeN a2) ∧ Hid (w = wx))
    case first =>
      by_cases h : 0 ≤ a2 ∧ a2 ≤ 60000
      · have hd : decide (0 ≤ a2 ∧ a2 ≤ 60000) = true := decide_eq_true h
        have hs := Lib.hid (show sizeN a2 = a2 + 8 by unfold sizeN; rw [if_neg (by omega)])
        obtain ⟨h6, h7⟩ := h
        generalize decide (0 ≤ a2 ∧ a2 ≤ 60000) = c at *
        subst hd
        go_wp2_with fail
        go_meet
        exact ⟨by rw [hs.out], Lib.hid (by trivial)⟩
      · have hd : decide (0 ≤ a2 ∧ a2 ≤ 60000) = false := decide_eq_false h
        have hs := Lib.hid (show sizeN a2 = 0 by unfold sizeN; rw [if_pos (by omega)])
        generalize decide (0 ≤ a2 ∧ a2 ≤ 60000) = c at *
        subst hd
        go_wp2_with fail
        go_meet
        exact ⟨by rw [hs.out], Lib.hid (by trivial)⟩
    case rest =>
    obtain ⟨rfl, hw⟩ := hcut
    obtain rfl := hw.out
    clear hw
    generalize sizeN a2 = sz at *
    go_wp2_with fail
    refine (HZ.out).mono ?_; rintro e w' ⟨rfl, rfl⟩
    go_wp2_with fail
    refine (HP.out).mono ?_; rintro e w1 ⟨⟨v1, rfl, ho1⟩, hb1⟩
    have HB1 := Lib.hid (And.intro ho1 hb1)
    obtain ⟨p1, c1, rfl⟩ := own_slice ho1
    clear ho1 hb1
    go_upto_region 11 with fail
    go_cut [66] from 57 to 66 (fun s66 wx => s66 = .bool false ∧ Hid (BOwn wx w.heap.size (.slice p1 pz.length c1) pz ∧ Below w.heap.size w wx))
    case first =>
      have hBw : Below w.heap.size w w1.drew := HB1.out.2.drew
      have hca := HC.out _ _ (Ints.own HB1.out.1.drew)
      go_region_law (go_simp; (try go_at_call 9); refine (HR.out _ hBw).mono ?_; rintro r w2 ⟨⟨v2, rfl, ho2⟩, hb2⟩; have hbd := below_then hBw hb2; have hca2 := HC.out _ _ (Ints.own (own_below HB1.out.1.drew hb2)); have hcb2 := HC.out w2 v2 (Ints.own ho2); have HX := Lib.hid (And.intro (own_below HB1.out.1.drew hb2) hbd); obtain ⟨pv2, lv2, cv2, rfl⟩ := own_slice3 ho2; clear ho2 hb2)
      all_goals (go_wp2_with fail; go_meet; exact ⟨rfl, HX⟩)
    case rest =>
    obtain ⟨rfl, HX⟩ := hcut
    have hs2 := HX.out.2.size
    clear hq HB1 HP HR HC
    rw [← HL.out] at HG
    simp only [show ((0 : Nat) : Int) = 0 from rfl] at HG
    go_wp2_with (first
      | (at_builtin; refine wpList_append_want _ (by rfl) _ _ 22 rfl wc.heap.size 5 i0 (.int .u8 0) 1 Tryd.underlying22 hi hz0 hz1 hz2 rfl .u8 _ _ [] pz rfl rfl (own_lit0 wc) ((Ints.own HX.out.1).below (below_one _ _)) (by rw [HL.out]; unfold maxLen; simp; omega) (by rw [HL.out]; simp; omega) (by simp) ?_; intro v3 w3 hown hgrow; rw [List.nil_append] at hown; have HQ := Lib.hid (And.intro hown (lit_below (Below.refl _ _) hgrow)); have hs3 := HQ.out.2.size; obtain ⟨pv3, lv3, cv3, rfl⟩ := own_slice3 hown; clear hown hgrow)
      | (at_builtin; refine wpList_append_want _ (by rfl) _ _ 22 rfl wc.heap.size 5 i0 (.int .u8 0) 1 Tryd.underlying22 hi hz0 hz1 hz2 rfl .u8 _ _ pz z1 rfl rfl HQ.out.1 (G1.out.below (below_then HX.out.2 HQ.out.2)) (by rw [HL.out]; unfold maxLen; omega) (by rw [HL.out]; omega) hs3 ?_; intro v4 w4 hown hgrow; have HU := Lib.hid (And.intro hown (own_grown0 hs3 HQ.out.2 HQ.out.1 hgrow)); have HGG := Lib.hid (HG.out w4 v4 (below_then HX.out.2 HU.out.2) (Ints.own hown)); obtain ⟨pv4, lv4, cv4, rfl⟩ := own_slice3 hown; clear hown hgrow))
    refine (HGG.out).mono ?_; rintro r w5 ⟨⟨v5, rfl, ho5⟩, hb5⟩
    have HB5 := Lib.hid (below_then (below_then HX.out.2 HU.out.2) hb5)
    have hc5 := HC0.out _ _ (Ints.own ho5)
    have hc0 := HC0.out _ _ (G0.out.below HB5.out)
    obtain ⟨pv5, cv5, rfl⟩ := own_slice ho5
    have HAA := Lib.hid (HAw.out _ HB5.out)
    clear ho5 hb5 HGG HAw HC0 HG HX HQ HU hs2 hs3
    go_wp2_with fail
    refine (HAA.out).mono ?_; rintro e w' ⟨rfl, hb⟩
    go_wp2_with fail
    go_ret
    exact ⟨rfl, below_then HB5.out hb⟩
theorem walk (a0 : Option Addr) (len0 cap0 : Nat) (z0 : List Int) (a1 : Option Addr) (len1 cap1 : Nat) (z1 : List Int) (a2 : Int) (w : World) (g0 : Given .u8 w (.slice a0 len0 cap0) z0) (m0 : len0 ≤ 9223372036854775807) (g1 : Given .u8 w (.slice a1 len1 cap1) z1) (m1 : len1 ≤ 9223372036854775807) (w2 : (Lit.int .i64 a2).wf = true) (hT : Fours w) :
    Calls Tryd.prog 3 #[.slice a0 len0 cap0, .slice a1 len1 cap1, .int .i64 a2] w fun e w' => e = .returned (.bool true) ∧ Below w.heap.size w w' := by
  have hl0 := len_max g0
  have hl1 := len_max g1
  by_cases h : 300 < len1 ∨ 3000 < len0 ∧ len0 ≤ 60000
  · exact walk_out a0 len0 cap0 a1 len1 cap1 a2 w h hT
  · by_cases h2 : 60000 < len0
    · exact walk_long a0 len0 cap0 a1 len1 cap1 a2 w (by omega) h2 hT
    · subst hl0 hl1
      exact walk_main a0 cap0 z0 a1 cap1 z1 a2 w g0.1 g0.byt g1.1 g1.byt (by omega) (by omega) hT
set_option maxRecDepth 100000 in
theorem lifted (os : Os) (started : os.Started) (H : Type) (enc : TypeId × Value → H) :
    ReturnsInHanded {} Tryd.checked os 3 .any (fun w args => (Rows.framePutsSpec.pre enc Tryd.prog Tryd.f3 [] false w args ∧ laidMetH Tryd.prog laid6 w) ∧ sizedMet enc Tryd.prog Tryd.f3 (OpenSpec.ofChange Rows.framePutsSpec) false w args)
      (Rows.framePutsSpec.post enc Tryd.prog Tryd.f3 false true false false) := by
  refine returnsInHanded_of_change_and (C := Tryd.checked) (X := fun w _ => laidMetH Tryd.prog laid6 w) (fun _ _ _ hh h => h.of_heap hh) own2 started (by kernel_rfl) Tryd.func3
    (ChangeSpec.witness_shaped (enc := enc) (C := Tryd.checked) (os := os) (X := fun w _ => laidMetH Tryd.prog laid6 w) false (World.doorLaid Tryd.prog 400 os) #[.slice none 0 0, .slice none 0 0, .int .i64 0] 8 rfl (World.shaped_of_RefB (by kernel_rfl) (by kernel_rfl)) (by kernel_rfl) (by kernel_rfl) (by kernel_rfl) (door_met6 os _)) ?_
  intro W base args ds gs before hval0 hW _ _ hL _
  have hTab := fours_of hL
  have hval : ∀ (j : Nat) t v, Tryd.f3.params[j]? = some t → args[j]? = some v → Value.okWide Tryd.prog W .any base t v := hval0
  have hW' := hW
  obtain ⟨p, q, hA0, hV, rfl, hfz, hnd⟩ := hW
  have hA : DataW.TrodAll enc Tryd.prog W 0 (fun _ => true) true Tryd.f3.params.toList args.toList ds p := hA0
  rw [Tryd.params3] at hA hval
  obtain ⟨v0, vs0, d0, ds0, p0, q0, hargs, rfl, rfl, h0, r0⟩ := trodAll_cons hA
  obtain ⟨v1, vs1, d1, ds1, p1, q1, rfl, rfl, rfl, h1, r1⟩ := trodAll_cons r0
  obtain ⟨v2, vs2, d2, ds2, p2, q2, rfl, rfl, rfl, h2, r2⟩ := trodAll_cons r1
  obtain ⟨rfl, rfl, rfl⟩ := trodAll_nil r2
  obtain rfl : args = #[v0, v1, v2] := by cases args; simp_all
  obtain ⟨rfl, rfl⟩ := trodVars_none hV
  obtain ⟨a0, len0, cap0, rfl⟩ := okWide_slice Tryd.underlying22 (hval 0 22 v0 rfl rfl)
  have k0 := h0
  have lt0 : ∀ x ∈ p0, x.block < W.heap.size := by obtain ⟨m, hm⟩ := k0; exact DataW.trod_lt m _ _ _ hm
  obtain ⟨z0, w0, m0⟩ : ∃ zs, Given .u8 W (.slice a0 len0 cap0) zs ∧ len0 ≤ 9223372036854775807 := by
    obtain ⟨fuel, hf⟩ := h0
    rcases open_ints Tryd.underlying22 Tryd.underlying5 (by kernel_rfl) hf with ⟨hcs, _⟩ | ⟨x, l, c, zs, hcs, _, hl, hm, hz, _, hcell, hwz⟩
    · simp [Value.cells] at hcs
      obtain ⟨rfl, rfl, rfl⟩ := hcs
      exact ⟨[], given_nil, by decide⟩
    · simp [Value.cells] at hcs
      obtain ⟨rfl, rfl, rfl⟩ := hcs
      exact ⟨_, given_row hl (by simpa using hz) hcell hwz, by unfold maxLen at hm; omega⟩
  obtain ⟨a1, len1, cap1, rfl⟩ := okWide_slice Tryd.underlying22 (hval 1 22 v1 rfl rfl)
  have k1 := h1
  have lt1 : ∀ x ∈ p1, x.block < W.heap.size := by obtain ⟨m, hm⟩ := k1; exact DataW.trod_lt m _ _ _ hm
  obtain ⟨z1, w1, m1⟩ : ∃ zs, Given .u8 W (.slice a1 len1 cap1) zs ∧ len1 ≤ 9223372036854775807 := by
    obtain ⟨fuel, hf⟩ := h1
    rcases open_ints Tryd.underlying22 Tryd.underlying5 (by kernel_rfl) hf with ⟨hcs, _⟩ | ⟨x, l, c, zs, hcs, _, hl, hm, hz, _, hcell, hwz⟩
    · simp [Value.cells] at hcs
      obtain ⟨rfl, rfl, rfl⟩ := hcs
      exact ⟨[], given_nil, by decide⟩
    · simp [Value.cells] at hcs
      obtain ⟨rfl, rfl, rfl⟩ := hcs
      exact ⟨_, given_row hl (by simpa using hz) hcell hwz, by unfold maxLen at hm; omega⟩
  obtain ⟨a2, rfl, rfl, rfl, w2⟩ := open_int Tryd.underlying3 (hval 2 3 v2 rfl rfl) h2
  clear hA0 hval0
  refine (walk a0 len0 cap0 z0 a1 len1 cap1 z1 a2 W w0 m0 w1 m1 w2 hTab).mono fun e W' ⟨he, bel⟩ => ?_
  subst he
  exact ⟨_, rfl, _, _, _, [], _, [], hW', trodAll_mk1 (shut_bool Tryd.underlying4 _), (trodAll_cons_mk (Below.trod laidOut2 (by kernel_rfl) (of_decide_eq_true (by kernel_rfl)) k0 bel lt0) (trodAll_cons_mk (Below.trod laidOut2 (by kernel_rfl) (of_decide_eq_true (by kernel_rfl)) k1 bel lt1) (trodAll_cons_mk (shut_int Tryd.underlying3 w2) trodAll_mk0))), rfl, bel.frame _, fun h => by cases h⟩

theorem over : Rows.framePutsRow.holds Tryd.pinned (OpenSpec.ofChange Rows.framePutsSpec) :=
  OpenClaim.holds_of_wide 3 Tryd.f3 rfl rfl rfl rfl rfl rfl rfl ⟨rfl, rfl, rfl, rfl, rfl⟩ rfl rfl rfl rfl rfl (by kernel_rfl) Tryd.func3 (by kernel_rfl)
    (of_decide_eq_true (by kernel_rfl)) (by unfold Func.isWrapper; first | (rw [if_pos (by decide +kernel)]; kernel_rfl) | (rw [if_neg (by decide +kernel)]; exact ⟨rfl, rfl⟩))
    (fun os started H enc _ => lifted os started H enc)
theorem row_holds : Rows.FramePutsSaid := over
end Go.Proofs.YtacogaeciodjeaaDoor.framePuts
namespace Go.Proofs.YtacogaeciodjeaaDoor
/-- The statement: the tied card. -/
theorem framePuts_holds : Rows.FramePutsCardSaid :=
  Claim7.holds_tied_plain_at .later [] [.data] true _ false
    framePuts.row_holds (fun _ h => by cases h) (by kernel_rfl) (fun _ h => by cases h) framePuts_row_tie rfl ⟨rfl, rfl⟩ (by kernel_rfl) rfl
    (fun f fn hf hfn => by
      obtain rfl : f = 3 := Option.some.inj ((show Tryd.prog.funcNamed "bushel/bushellaw09.FramePuts" = some 3 by kernel_rfl).symm.trans hf) |>.symm
      obtain rfl : fn = Tryd.f3 := (Option.some.inj (Tryd.func3.symm.trans hfn)).symm
      exact ⟨by kernel_rfl, fun j t ht => by
        rw [Tryd.params3] at ht
        have hm : t ∈ [22, 22, 3] := by simpa using Array.mem_of_getElem? ht
        have hall : ([22, 22, 3].all fun u => !Tryd.prog.wantsStandIn u) = true := by kernel_rfl
        exact (show Tryd.prog.wantsStandIn t = false by simpa using List.all_eq_true.1 hall t hm)⟩)
    (by kernel_rfl)
#print axioms framePuts_holds
end Go.Proofs.YtacogaeciodjeaaDoor
