/- RatioMeans: for any two numbers and any list of words the statement's function returns true and changes nothing that was there. No condition; the row lists math/bits.deBruijn32tab as the program's text lays it. -/
import Derived.Test.YtjfcnpanodkmnaaDoorRows
import Derived.Test.YtjfcnpanodkmnaaDoorCards
import Derived.Test.YtjfcnpanodkmnaaDoorTie
import Derived.Test.YtjfcnpanodkmnaaDoorLaid2
import Derived.Test.YtjfcnpanodkmnaaDoorRatz
import Derived.SevenTiedAt
namespace Go.Proofs.YtjfcnpanodkmnaaDoor.ratioMeans
set_option maxRecDepth 100000
open Go.ChangeShapes Go.WideShapes Go.ChangeAt Go.RowKit
set_option linter.unusedVariables false
set_option maxHeartbeats 4000000 in
theorem walk (n s : Int) (a0 : Option Addr) (len0 cap0 : Nat) (z0 : List Int) (w : World) (wn : (Lit.int .i64 n).wf = true) (ws : (Lit.int .i64 s).wf = true) (g0 : Given .u32 w (.slice a0 len0 cap0) z0) (m0 : len0 ≤ 9223372036854775807) (hT : Tab w) :
    Calls Tryd.prog 4 #[.int .i64 n, .int .i64 s, .slice a0 len0 cap0] w fun r w' => r = .returned (.bool true) ∧ Below w.heap.size w w' := by
  have l0 := len_max g0
  have hn : -9223372036854775808 ≤ n ∧ n ≤ 9223372036854775807 := by simpa [Lit.wf, IntKind.min, IntKind.max, IntKind.signed, IntKind.bits] using wn
  have hs : -9223372036854775808 ≤ s ∧ s ≤ 9223372036854775807 := by simpa [Lit.wf, IntKind.min, IntKind.max, IntKind.signed, IntKind.bits] using ws
  have hA := Lib.hid (fun w1 (h : Below w.heap.size w w1) => awake4_any w1 (hT.call h))
  by_cases hlen : 8 < len0
  · have b1 : (8 : Int) < (len0 : Int) := by omega
    clear g0 hT l0 hlen hn hs wn ws
    go_enter Tryd.func4, Tryd.ntmps4
    go_wp2_with fail
    refine (hA.out w (Below.refl _ _)).mono ?_; rintro r w1 ⟨rfl, hb⟩
    go_wp2_with fail
    go_ret
    exact ⟨rfl, hb⟩
  · have hW0 := g0.wlist (by omega)
    obtain ⟨S, hS⟩ := words_nat4 hW0.2.1
    have HM := Lib.hid (fun w1 (h : Below w.heap.size w w1) => pmean_any s n w1 hs.1 hs.2 hn.1 hn.2 (hT.call h))
    have HRM := Lib.hid (fun w1 => rmean_any s n w1 hs.1 hs.2 hn.1 hn.2)
    have HD := Lib.hid (fun w1 (h : Below w.heap.size w w1) => pdev_any n s _ z0 S w1 hn.1 hn.2 hs.1 hs.2 (hW0.below h) (by omega) hS (hT.call h))
    have HRD := Lib.hid (fun w1 (h : Below w.heap.size w w1) => rdev_any n s _ z0 S w1 hn.1 hn.2 hs.1 hs.2 (hW0.below h) (by omega) hS)
    have hw1 := mean_w64 (meanNeg s n) s.natAbs n.natAbs
    have hsame := Lib.hid (fun R2 w w' (h : MeanPost s n w (.returned (.float .f64 R2)) w') => mean_same h)
    generalize signN (meanNeg s n) (quoN s.natAbs n.natAbs) = R1 at *
    have HW1 := Lib.hid hw1
    have b1 : (len0 : Int) ≤ 8 := by omega
    clear g0 hT l0 hlen hW0 hS wn ws hw1 hn hs
    go_enter Tryd.func4, Tryd.ntmps4
    go_wp2_with fail
    refine (HM.out w (Below.refl _ _)).mono ?_; rintro r w1 ⟨rfl, hb1⟩
    have HE := Lib.hid hb1
    clear hb1 HM
    go_wp2_with fail
    refine (HRM.out w1).mono ?_; rintro r w2 hm
    obtain ⟨R2, rfl⟩ := mean_is_float hm
    obtain ⟨s1, s2⟩ := hsame.out R2 _ _ hm
    have HE2 := Lib.hid (below_then HE.out hm.2)
    have HS := Lib.hid (rsame_any R1 R2 w2 HW1.out s2)
    rw [s1] at HS
    clear hm s1 s2 HRM HE hsame HW1
    go_wp2_with fail
    refine (HS.out).mono ?_; rintro r w3 ⟨rfl, hd⟩
    have HE3 := Lib.hid (below_then HE2.out hd.below)
    clear hd HS HE2
    go_wp2_with fail
    refine (HD.out w3 HE3.out).mono ?_; rintro r w4 ⟨⟨R3, hR3, rfl⟩, hb4⟩
    have HR3 := Lib.hid hR3
    have HE4 := Lib.hid (below_then HE3.out hb4)
    clear hR3 hb4 HD HE3
    go_wp2_with fail
    refine (HRD.out w4 HE4.out).mono ?_; rintro r w5 hr5
    obtain ⟨R4, rfl⟩ := dev_is_float hr5
    obtain ⟨s1, s2, s3⟩ := dev_same HR3.out hr5
    have HE5 := Lib.hid (below_then HE4.out hr5.2)
    have HS := Lib.hid (rsame_any R3 R4 w5 s2 s3)
    rw [s1] at HS
    clear hr5 s1 s2 s3 HRD HE4 HR3
    go_wp2_with fail
    refine (HS.out).mono ?_; rintro r w6 ⟨rfl, hd⟩
    have HE6 := Lib.hid (below_then HE5.out hd.below)
    clear hd HS HE5
    go_wp2_with fail
    refine (hA.out _ HE6.out).mono ?_; rintro r w7 ⟨rfl, hb7⟩
    go_wp2_with fail
    go_ret
    exact ⟨rfl, below_then HE6.out hb7⟩
set_option maxRecDepth 100000 in
theorem lifted (os : Os) (started : os.Started) (H : Type) (enc : TypeId × Value → H) :
    ReturnsInHanded {} Tryd.checked os 4 .any (fun w args => (Rows.ratioMeansSpec.pre enc Tryd.prog Tryd.f4 [] false w args ∧ laidMetH Tryd.prog laid2 w) ∧ sizedMet enc Tryd.prog Tryd.f4 (OpenSpec.ofChange Rows.ratioMeansSpec) false w args)
      (Rows.ratioMeansSpec.post enc Tryd.prog Tryd.f4 false true false false) := by
  refine returnsInHanded_of_change_and (C := Tryd.checked) (X := fun w _ => laidMetH Tryd.prog laid2 w) (fun _ _ _ hh h => h.of_heap hh) own2 started (by kernel_rfl) Tryd.func4
    (ChangeSpec.witness_shaped (enc := enc) (C := Tryd.checked) (os := os) (X := fun w _ => laidMetH Tryd.prog laid2 w) false (World.doorLaid Tryd.prog 400 os) #[.int .i64 0, .int .i64 0, .slice none 0 0] 8 rfl (World.shaped_of_RefB (by kernel_rfl) (by kernel_rfl)) (by kernel_rfl) (by kernel_rfl) (by kernel_rfl) (door_met2 os _)) ?_
  intro W base args ds gs before hval0 hW _ _ hL _
  have hTab := tab_of hL
  have hval : ∀ (j : Nat) t v, Tryd.f4.params[j]? = some t → args[j]? = some v → Value.okWide Tryd.prog W .any base t v := hval0
  have hW' := hW
  obtain ⟨p, q, hA0, hV, rfl, hfz, hnd⟩ := hW
  have hA : DataW.TrodAll enc Tryd.prog W 0 (fun _ => true) true Tryd.f4.params.toList args.toList ds p := hA0
  rw [Tryd.params4] at hA hval
  obtain ⟨v0, vs0, d0, ds0, p0, q0, hargs, rfl, rfl, h0, r0⟩ := trodAll_cons hA
  obtain ⟨v1, vs1, d1, ds1, p1, q1, rfl, rfl, rfl, h1, r1⟩ := trodAll_cons r0
  obtain ⟨v2, vs2, d2, ds2, p2, q2, rfl, rfl, rfl, h2, r2⟩ := trodAll_cons r1
  obtain ⟨rfl, rfl, rfl⟩ := trodAll_nil r2
  obtain rfl : args = #[v0, v1, v2] := by cases args; simp_all
  obtain ⟨rfl, rfl⟩ := trodVars_none hV
  obtain ⟨a0, rfl, rfl, rfl, w0⟩ := open_int Tryd.underlying2 (hval 0 2 v0 rfl rfl) h0
  obtain ⟨a1, rfl, rfl, rfl, w1⟩ := open_int Tryd.underlying2 (hval 1 2 v1 rfl rfl) h1
  obtain ⟨a2, len2, cap2, rfl⟩ := okWide_slice Tryd.underlying22 (hval 2 22 v2 rfl rfl)
  have k2 := h2
  have lt2 : ∀ x ∈ p2, x.block < W.heap.size := by obtain ⟨m, hm⟩ := k2; exact DataW.trod_lt m _ _ _ hm
  obtain ⟨z2, w2, m2⟩ : ∃ zs, Given .u32 W (.slice a2 len2 cap2) zs ∧ len2 ≤ 9223372036854775807 := by
    obtain ⟨fuel, hf⟩ := h2
    rcases open_ints Tryd.underlying22 Tryd.underlying42 (by kernel_rfl) hf with ⟨hcs, _⟩ | ⟨x, l, c, zs, hcs, _, hl, hm, hz, _, hcell, hwz⟩
    · simp [Value.cells] at hcs
      obtain ⟨rfl, rfl, rfl⟩ := hcs
      exact ⟨[], given_nil, by decide⟩
    · simp [Value.cells] at hcs
      obtain ⟨rfl, rfl, rfl⟩ := hcs
      exact ⟨_, given_row hl (by simpa using hz) hcell hwz, by unfold maxLen at hm; omega⟩
  clear hA0 hval0
  refine (walk a0 a1 a2 len2 cap2 z2 W w0 w1 w2 m2 hTab).mono fun e W' ⟨he, bel⟩ => ?_
  subst he
  exact ⟨_, rfl, _, _, _, [], _, [], hW', trodAll_mk1 (shut_bool Tryd.underlying4 _), (trodAll_cons_mk (shut_int Tryd.underlying2 w0) (trodAll_cons_mk (shut_int Tryd.underlying2 w1) (trodAll_cons_mk (Below.trod laidOut2 (by kernel_rfl) (of_decide_eq_true (by kernel_rfl)) k2 bel lt2) trodAll_mk0))), rfl, bel.frame _, fun h => by cases h⟩

theorem over : Rows.ratioMeansRow.holds Tryd.pinned (OpenSpec.ofChange Rows.ratioMeansSpec) :=
  OpenClaim.holds_of_wide 4 Tryd.f4 rfl rfl rfl rfl rfl rfl rfl ⟨rfl, rfl, rfl, rfl, rfl⟩ rfl rfl rfl rfl rfl (by kernel_rfl) Tryd.func4 (by kernel_rfl)
    (of_decide_eq_true (by kernel_rfl)) (by unfold Func.isWrapper; first | (rw [if_pos (by decide +kernel)]; kernel_rfl) | (rw [if_neg (by decide +kernel)]; exact ⟨rfl, rfl⟩))
    (fun os started H enc _ => lifted os started H enc)
theorem row_holds : Rows.RatioMeansSaid := over
end Go.Proofs.YtjfcnpanodkmnaaDoor.ratioMeans
namespace Go.Proofs.YtjfcnpanodkmnaaDoor
/-- The statement: the tied card. -/
theorem ratioMeans_holds : Rows.RatioMeansCardSaid :=
  Claim7.holds_tied_plain_at .later [] [.data] true _ false
    ratioMeans.row_holds (fun _ h => by cases h) (by kernel_rfl) (fun _ h => by cases h) ratioMeans_row_tie rfl ⟨rfl, rfl⟩ (by kernel_rfl) rfl
    (fun f fn hf hfn => by
      obtain rfl : f = 4 := Option.some.inj ((show Tryd.prog.funcNamed "bushel/bushellaw04.RatioMeans" = some 4 by kernel_rfl).symm.trans hf) |>.symm
      obtain rfl : fn = Tryd.f4 := (Option.some.inj (Tryd.func4.symm.trans hfn)).symm
      exact ⟨by kernel_rfl, fun j t ht => by
        rw [Tryd.params4] at ht
        have hm : t ∈ [2, 2, 22] := by simpa using Array.mem_of_getElem? ht
        have hall : ([2, 2, 22].all fun u => !Tryd.prog.wantsStandIn u) = true := by kernel_rfl
        exact (show Tryd.prog.wantsStandIn t = false by simpa using List.all_eq_true.1 hall t hm)⟩)
    (by kernel_rfl)
#print axioms ratioMeans_holds
end Go.Proofs.YtjfcnpanodkmnaaDoor
