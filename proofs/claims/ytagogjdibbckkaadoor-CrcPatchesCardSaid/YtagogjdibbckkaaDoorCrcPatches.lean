/- CrcPatches: for any bytes and any checksum the statement's function returns true and changes nothing that was there. No condition; the row lists the package's table as the program's text lays it. -/
import Derived.Test.YtagogjdibbckkaaDoorCrcd
namespace Go.Proofs.YtagogjdibbckkaaDoor.crcPatches
set_option maxRecDepth 100000
open Go.ChangeShapes Go.WideShapes Go.ChangeAt Go.RowKit
set_option linter.unusedVariables false
set_option maxHeartbeats 1000000 in
theorem walk_long (a0 : Option Addr) (len0 cap0 : Nat) (c : Nat) (w : World) (h : 5000 < len0) (hT : Fours w) :
    Calls Tryd.prog 6 #[.slice a0 len0 cap0, .int .u32 c] w fun e w' => e = .returned (.bool true) ∧ Below w.heap.size w w' := by
  go_enter Tryd.func6, Tryd.ntmps6
  go_wp2_with fail
  refine (awake6_any w hT).mono ?_; rintro e w' ⟨rfl, hb⟩
  go_wp2_with fail
  go_ret
  exact ⟨rfl, hb⟩
set_option maxHeartbeats 2000000 in
theorem walk_short (a0 : Option Addr) (len0 cap0 : Nat) (z0 : List Int) (c : Nat) (w : World) (g0 : Ints .u8 w (.slice a0 len0 cap0) z0) (hb : Byt z0) (l0 : z0.length = len0) (hl : len0 ≤ 5000) (hc : c < 4294967296) (hT : Fours w) :
    Calls Tryd.prog 6 #[.slice a0 len0 cap0, .int .u32 c] w fun e w' => e = .returned (.bool true) ∧ Below w.heap.size w w' := by
  obtain ⟨i0, hi, hz0, hz1, hz2⟩ := info_parts Tryd.infoU8
  have HG := Lib.hid g0
  have HB := Lib.hid hb
  have HL := Lib.hid l0
  have HT := Lib.hid hT
  have H1 := Lib.hid (rsum_any _ z0 w g0 hb (by omega))
  have hm := more_lt 0 z0
  have H2 := Lib.hid (patch_any (moreN 0 z0) c w hm hc hT)
  have hE : moreN 0 (z0 ++ fourB (patchN (moreN 0 z0) c)) = c := by
    rw [← more_more 0 z0 _ (by decide) hb, patch_eq hc]
  have HE := Lib.hid hE
  have HF := Lib.hid (four_bytes (patchN (moreN 0 z0) c))
  have HF2 := Lib.hid (show (fourB (patchN (moreN 0 z0) c)).length = 4 from rfl)
  clear g0 hb l0 hT hE
  generalize fourB (patchN (moreN 0 z0) c) = p at *
  generalize moreN 0 z0 = x at *
  go_enter Tryd.func6, Tryd.ntmps6
  go_wp2_with fail
  refine (H1.out).mono ?_; rintro e w' ⟨rfl, rfl⟩
  go_wp2_with fail
  refine (H2.out).mono ?_; rintro e w1 ⟨v, rfl, hv, hb1⟩
  obtain ⟨pa, pc, rfl, hpc, hpcell⟩ := hv
  have HP : Hid (Ints .u8 w1 (.slice pa p.length pc) p) := Lib.hid ⟨pa, pc, rfl, hpc, hpcell⟩
  have HB1 := Lib.hid hb1
  clear hpc hpcell hb1 H1 H2
  rw [HF2.out] at HP ⊢
  go_wp2_with (first
    | (at_builtin; refine wpList_append_want _ (by rfl) _ _ 22 rfl w1.heap.size 5 i0 (.int .u8 0) 1 Tryd.underlying22 hi hz0 hz1 hz2 rfl .u8 _ _ [] z0 rfl rfl (World.ownsRow_lit w1 #[] 0 (Nat.le_refl _) (by unfold maxLen; omega) rfl) ((HG.out.below HB1.out).below (below_one w1 _)) (by have := HL.out; unfold maxLen; simp; omega) (by have := HL.out; simp; omega) (by simp) ?_; intro v1 w2 hown hgrow; rw [List.nil_append] at hown; have hb2 : Below w1.heap.size w1 w2 := (below_one w1 _).grown hgrow (by simp) (fun k hk => by have e : w1.heap.size = k := Option.some.inj hk; omega))
    | (at_builtin; refine wpList_append_want _ (by rfl) _ _ 22 rfl w1.heap.size 5 i0 (.int .u8 0) 1 Tryd.underlying22 hi hz0 hz1 hz2 rfl .u8 _ _ z0 p rfl rfl hown (HP.out.below hb2) (by have := HL.out; have := HF2.out; unfold maxLen; omega) (by have := HL.out; have := HF2.out; omega) hb2.size ?_; intro v2 w3 hown2 hgrow2))
  have hb3 : Below w1.heap.size w1 w3 := hb2.grown hgrow2 hb2.size (own_ge hown)
  have hb3' := Lib.hid (below_then HB1.out hb3)
  have HS := Lib.hid (rsum_any v2 _ w3 (Ints.own hown2) (bytes_append HB.out HF.out) (by rw [List.length_append]; have := HL.out; have := HF2.out; omega))
  rw [HE.out] at HS
  have HA := Lib.hid (awake6_any w3 (HT.out.call hb3'.out))
  clear hown hgrow hown2 hgrow2 hb2 hb3 HP HE HF HB HG HB1 HT
  refine (HS.out).mono ?_; rintro e w' ⟨rfl, rfl⟩
  go_wp2_with fail
  refine (HA.out).mono ?_; rintro e w' ⟨rfl, hb⟩
  go_wp2_with fail
  go_ret
  exact ⟨rfl, below_then hb3'.out hb⟩
theorem walk (a0 : Option Addr) (len0 cap0 : Nat) (z0 : List Int) (a1 : Int) (w : World) (g0 : Given .u8 w (.slice a0 len0 cap0) z0) (m0 : len0 ≤ 9223372036854775807) (w1 : (Lit.int .u32 a1).wf = true) (hT : Fours w) :
    Calls Tryd.prog 6 #[.slice a0 len0 cap0, .int .u32 a1] w fun e w' => e = .returned (.bool true) ∧ Below w.heap.size w w' := by
  have hw : 0 ≤ a1 ∧ a1 ≤ 4294967295 := by simp [Lit.wf, IntKind.min, IntKind.max, IntKind.signed, IntKind.bits] at w1; omega
  obtain ⟨c, rfl⟩ := Int.eq_ofNat_of_zero_le hw.1
  have hl := len_max g0
  by_cases h : len0 ≤ 5000
  · exact walk_short a0 len0 cap0 z0 c w g0.1 g0.byt hl h (by omega) hT
  · exact walk_long a0 len0 cap0 c w (by omega) hT
set_option maxRecDepth 100000 in
theorem lifted (os : Os) (started : os.Started) (H : Type) (enc : TypeId × Value → H) :
    ReturnsInHanded {} Tryd.checked os 6 .any (fun w args => (Rows.crcPatchesSpec.pre enc Tryd.prog Tryd.f6 [] false w args ∧ laidMetH Tryd.prog laid6 w) ∧ sizedMet enc Tryd.prog Tryd.f6 (OpenSpec.ofChange Rows.crcPatchesSpec) false w args)
      (Rows.crcPatchesSpec.post enc Tryd.prog Tryd.f6 false true false false) := by
  refine returnsInHanded_of_change_and (C := Tryd.checked) (X := fun w _ => laidMetH Tryd.prog laid6 w) (fun _ _ _ hh h => h.of_heap hh) own2 started (by kernel_rfl) Tryd.func6
    (ChangeSpec.witness_shaped (enc := enc) (C := Tryd.checked) (os := os) (X := fun w _ => laidMetH Tryd.prog laid6 w) false (World.doorLaid Tryd.prog 400 os) #[.slice none 0 0, .int .u32 0] 8 rfl (World.shaped_of_RefB (by kernel_rfl) (by kernel_rfl)) (by kernel_rfl) (by kernel_rfl) (by kernel_rfl) (door_met6 os _)) ?_
  intro W base args ds gs before hval0 hW _ _ hL _
  have hTab := fours_of hL
  have hval : ∀ (j : Nat) t v, Tryd.f6.params[j]? = some t → args[j]? = some v → Value.okWide Tryd.prog W .any base t v := hval0
  have hW' := hW
  obtain ⟨p, q, hA0, hV, rfl, hfz, hnd⟩ := hW
  have hA : DataW.TrodAll enc Tryd.prog W 0 (fun _ => true) true Tryd.f6.params.toList args.toList ds p := hA0
  rw [Tryd.params6] at hA hval
  obtain ⟨v0, vs0, d0, ds0, p0, q0, hargs, rfl, rfl, h0, r0⟩ := trodAll_cons hA
  obtain ⟨v1, vs1, d1, ds1, p1, q1, rfl, rfl, rfl, h1, r1⟩ := trodAll_cons r0
  obtain ⟨rfl, rfl, rfl⟩ := trodAll_nil r1
  obtain rfl : args = #[v0, v1] := by cases args; simp_all
  obtain ⟨rfl, rfl⟩ := trodVars_none hV
  obtain ⟨a0, len0, cap0, rfl⟩ := okWide_slice Tryd.underlying22 (hval 0 22 v0 rfl rfl)
  have k0 := h0
  have lt0 : ∀ x ∈ p0, x.block < W.heap.size := by obtain ⟨m, hm⟩ := k0; exact DataW.trod_lt m _ _ _ hm
  obtain ⟨z0, w0, m0⟩ : ∃ zs, Given .u8 W (.slice a0 len0 cap0) zs ∧ len0 ≤ 9223372036854775807 := by
    obtain ⟨fuel, hf⟩ := h0
    rcases open_ints Tryd.underlying22 Tryd.underlying5 (by kernel_rfl) hf with ⟨hcs, _⟩ | ⟨x, l, c, zs, hcs, _, hl, hm, hz, _, hcell, hwz⟩
    · simp [Value.cells] at hcs
      obtain ⟨rfl, rfl, rfl⟩ := hcs
      exact ⟨[], given_nil, by decide⟩
    · simp [Value.cells] at hcs
      obtain ⟨rfl, rfl, rfl⟩ := hcs
      exact ⟨_, given_row hl (by simpa using hz) hcell hwz, by unfold maxLen at hm; omega⟩
  obtain ⟨a1, rfl, rfl, rfl, w1⟩ := open_int Tryd.underlying23 (hval 1 23 v1 rfl rfl) h1
  clear hA0 hval0
  refine (walk a0 len0 cap0 z0 a1 W w0 m0 w1 hTab).mono fun e W' ⟨he, bel⟩ => ?_
  subst he
  exact ⟨_, rfl, _, _, _, [], _, [], hW', trodAll_mk1 (shut_bool Tryd.underlying4 _), (trodAll_cons_mk (Below.trod laidOut2 (by kernel_rfl) (of_decide_eq_true (by kernel_rfl)) k0 bel lt0) (trodAll_cons_mk (shut_int Tryd.underlying23 w1) trodAll_mk0)), rfl, bel.frame _, fun h => by cases h⟩

theorem over : Rows.crcPatchesRow.holds Tryd.pinned (OpenSpec.ofChange Rows.crcPatchesSpec) :=
  OpenClaim.holds_of_wide 6 Tryd.f6 rfl rfl rfl rfl rfl rfl rfl ⟨rfl, rfl, rfl, rfl, rfl⟩ rfl rfl rfl rfl rfl (by kernel_rfl) Tryd.func6 (by kernel_rfl)
    (of_decide_eq_true (by kernel_rfl)) (by unfold Func.isWrapper; first | (rw [if_pos (by decide +kernel)]; kernel_rfl) | (rw [if_neg (by decide +kernel)]; exact ⟨rfl, rfl⟩))
    (fun os started H enc _ => lifted os started H enc)
theorem row_holds : Rows.CrcPatchesSaid := over
end Go.Proofs.YtagogjdibbckkaaDoor.crcPatches
namespace Go.Proofs.YtagogjdibbckkaaDoor
/-- The statement: the tied card. -/
theorem crcPatches_holds : Rows.CrcPatchesCardSaid :=
  Claim7.holds_tied_plain_at .later [] [.data] true _ false
    crcPatches.row_holds (fun _ h => by cases h) (by kernel_rfl) (fun _ h => by cases h) crcPatches_row_tie rfl ⟨rfl, rfl⟩ (by kernel_rfl) rfl
    (fun f fn hf hfn => by
      obtain rfl : f = 6 := Option.some.inj ((show Tryd.prog.funcNamed "bushel/bushellaw06.CrcPatches" = some 6 by kernel_rfl).symm.trans hf) |>.symm
      obtain rfl : fn = Tryd.f6 := (Option.some.inj (Tryd.func6.symm.trans hfn)).symm
      exact ⟨by kernel_rfl, fun j t ht => by
        rw [Tryd.params6] at ht
        have hm : t ∈ [22, 23] := by simpa using Array.mem_of_getElem? ht
        have hall : ([22, 23].all fun u => !Tryd.prog.wantsStandIn u) = true := by kernel_rfl
        exact (show Tryd.prog.wantsStandIn t = false by simpa using List.all_eq_true.1 hall t hm)⟩)
    (by kernel_rfl)
#print axioms crcPatches_holds
end Go.Proofs.YtagogjdibbckkaaDoor
