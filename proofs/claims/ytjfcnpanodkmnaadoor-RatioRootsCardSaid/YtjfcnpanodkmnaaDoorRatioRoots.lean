/- RatioRoots: for any two lists of words the statement's function returns true and changes nothing that was there. No condition; the row lists math/bits.deBruijn32tab as the program's text lays it. -/
import Derived.Test.YtjfcnpanodkmnaaDoorRows
import Derived.Test.YtjfcnpanodkmnaaDoorCards
import Derived.Test.YtjfcnpanodkmnaaDoorTie
import Derived.Test.YtjfcnpanodkmnaaDoorLaid2
import Derived.Test.YtjfcnpanodkmnaaDoorRatz
import Derived.SevenTiedAt
namespace Go.Proofs.YtjfcnpanodkmnaaDoor.ratioRoots
set_option maxRecDepth 100000
open Go.ChangeShapes Go.WideShapes Go.ChangeAt Go.RowKit
set_option linter.unusedVariables false
set_option maxHeartbeats 4000000 in
theorem walk (a0 : Option Addr) (len0 cap0 : Nat) (z0 : List Int) (a1 : Option Addr) (len1 cap1 : Nat) (z1 : List Int) (w : World) (g0 : Given .u32 w (.slice a0 len0 cap0) z0) (m0 : len0 ≤ 9223372036854775807) (g1 : Given .u32 w (.slice a1 len1 cap1) z1) (m1 : len1 ≤ 9223372036854775807) (hT : Tab w) :
    Calls Tryd.prog 3 #[.slice a0 len0 cap0, .slice a1 len1 cap1] w fun r w' => r = .returned (.bool true) ∧ Below w.heap.size w w' := by
  have l0 := len_max g0
  have l1 := len_max g1
  have hA := Lib.hid (fun w1 (h : Below w.heap.size w w1) => awake4_any w1 (hT.call h))
  by_cases hlen : 8 < len0 ∨ 8 < len1
  · have hc : 8 < len0 ∨ (len0 ≤ 8 ∧ 8 < len1) := by omega
    clear g0 g1 hT l0 l1 hlen
    rcases hc with h | ⟨h, h'⟩
    · have b1 : (8 : Int) < (len0 : Int) := by omega
      clear h
      go_enter Tryd.func3, Tryd.ntmps3
      go_wp2_with fail
      refine (hA.out w (Below.refl _ _)).mono ?_; rintro r w1 ⟨rfl, hb⟩
      go_wp2_with fail
      go_ret
      exact ⟨rfl, hb⟩
    · have b1 : (len0 : Int) ≤ 8 := by omega
      have b2 : (8 : Int) < (len1 : Int) := by omega
      clear h h'
      go_enter Tryd.func3, Tryd.ntmps3
      go_wp2_with fail
      refine (hA.out w (Below.refl _ _)).mono ?_; rintro r w1 ⟨rfl, hb⟩
      go_wp2_with fail
      go_ret
      exact ⟨rfl, hb⟩
  · have hW0 := g0.wlist (by omega)
    have hW1 := g1.wlist (by omega)
    obtain ⟨p, hp⟩ := words_nat4 hW0.2.1
    obtain ⟨q, hq⟩ := words_nat4 hW1.2.1
    have bp := Nat.le_trans (bits_words4 hW0.2.1 hp (show z0.length ≤ 8 by omega)) (show 8 * 32 ≤ 3000 by decide)
    have bq := Nat.le_trans (bits_words4 hW1.2.1 hq (show z1.length ≤ 8 by omega)) (show 8 * 32 ≤ 3000 by decide)
    have HJ := Lib.hid (proot_any _ _ z0 z1 p q w hW0 hW1 (by omega) hp hq bp bq hT)
    have HN0 := Lib.hid (fun w1 (h : Below w.heap.size w w1) => num_words _ z0 w1 (hW0.below h) (by omega))
    have HN1 := Lib.hid (fun w1 (h : Below w.heap.size w w1) => num_words _ z1 w1 (hW1.below h) (by omega))
    rw [hp] at HN0
    rw [hq] at HN1
    have HR := Lib.hid (fun w1 u v (hu : IsNum w1 u p) (hv : IsNum w1 v q) => rroot_any u v p q w1 hu hv bp bq)
    have b1 : (len0 : Int) ≤ 8 := by omega
    have b2 : (len1 : Int) ≤ 8 := by omega
    clear g0 g1 hT l0 l1 hlen hW0 hW1 hp hq bp bq
    go_enter Tryd.func3, Tryd.ntmps3
    go_wp2_with fail
    refine (HJ.out).mono ?_; rintro r w1 ⟨⟨R1, hR1, rfl⟩, hb1⟩
    have HR1 := Lib.hid hR1
    have HE := Lib.hid hb1
    have HN02 := Lib.hid (HN0.out w1 hb1)
    clear hR1 hb1 HJ HN0
    go_wp2_with fail
    refine (HN02.out).mono ?_; rintro r w2 ⟨u, rfl, hu, hb2⟩
    have HE2 := Lib.hid (HE.out.trans (hb2.mono HE.out.size))
    have HN12 := Lib.hid (HN1.out w2 HE2.out)
    have HU := Lib.hid hu
    obtain ⟨ub, up, ul, uc, rfl⟩ := hu.shape
    clear hu hb2 HE HN02 HN1
    go_wp2_with fail
    refine (HN12.out).mono ?_; rintro r w3 ⟨v, rfl, hv, hb3⟩
    have HE3 := Lib.hid (HE2.out.trans (hb3.mono HE2.out.size))
    have HRR := Lib.hid (HR.out w3 _ v (HU.out.below hb3) hv)
    obtain ⟨vb, vp, vl, vc, rfl⟩ := hv.shape
    clear hv hb3 HE2 HN12 HR HU
    go_wp2_with fail
    refine (HRR.out).mono ?_; rintro r w4 hrr
    obtain ⟨R2, rfl⟩ := root_is_float hrr
    obtain ⟨s1, s2, s3⟩ := root_same HR1.out hrr
    have HE4 := Lib.hid (below_then HE3.out hrr.2)
    have HS := Lib.hid (rsame_any R1 R2 w4 s2 s3)
    rw [s1] at HS
    clear hrr s1 s2 s3 HRR HE3 HR1
    go_wp2_with fail
    refine (HS.out).mono ?_; rintro r w5 ⟨rfl, hd⟩
    have HE5 := Lib.hid (below_then HE4.out hd.below)
    clear hd HS HE4
    go_wp2_with fail
    refine (hA.out _ HE5.out).mono ?_; rintro r w6 ⟨rfl, hb6⟩
    go_wp2_with fail
    go_ret
    exact ⟨rfl, below_then HE5.out hb6⟩
set_option maxRecDepth 100000 in
theorem lifted (os : Os) (started : os.Started) (H : Type) (enc : TypeId × Value → H) :
    ReturnsInHanded {} Tryd.checked os 3 .any (fun w args => (Rows.ratioRootsSpec.pre enc Tryd.prog Tryd.f3 [] false w args ∧ laidMetH Tryd.prog laid2 w) ∧ sizedMet enc Tryd.prog Tryd.f3 (OpenSpec.ofChange Rows.ratioRootsSpec) false w args)
      (Rows.ratioRootsSpec.post enc Tryd.prog Tryd.f3 false true false false) := by
  refine returnsInHanded_of_change_and (C := Tryd.checked) (X := fun w _ => laidMetH Tryd.prog laid2 w) (fun _ _ _ hh h => h.of_heap hh) own2 started (by kernel_rfl) Tryd.func3
    (ChangeSpec.witness_shaped (enc := enc) (C := Tryd.checked) (os := os) (X := fun w _ => laidMetH Tryd.prog laid2 w) false (World.doorLaid Tryd.prog 400 os) #[.slice none 0 0, .slice none 0 0] 8 rfl (World.shaped_of_RefB (by kernel_rfl) (by kernel_rfl)) (by kernel_rfl) (by kernel_rfl) (by kernel_rfl) (door_met2 os _)) ?_
  intro W base args ds gs before hval0 hW _ _ hL _
  have hTab := tab_of hL
  have hval : ∀ (j : Nat) t v, Tryd.f3.params[j]? = some t → args[j]? = some v → Value.okWide Tryd.prog W .any base t v := hval0
  have hW' := hW
  obtain ⟨p, q, hA0, hV, rfl, hfz, hnd⟩ := hW
  have hA : DataW.TrodAll enc Tryd.prog W 0 (fun _ => true) true Tryd.f3.params.toList args.toList ds p := hA0
  rw [Tryd.params3] at hA hval
  obtain ⟨v0, vs0, d0, ds0, p0, q0, hargs, rfl, rfl, h0, r0⟩ := trodAll_cons hA
  obtain ⟨v1, vs1, d1, ds1, p1, q1, rfl, rfl, rfl, h1, r1⟩ := trodAll_cons r0
  obtain ⟨rfl, rfl, rfl⟩ := trodAll_nil r1
  obtain rfl : args = #[v0, v1] := by cases args; simp_all
  obtain ⟨rfl, rfl⟩ := trodVars_none hV
  obtain ⟨a0, len0, cap0, rfl⟩ := okWide_slice Tryd.underlying22 (hval 0 22 v0 rfl rfl)
  have k0 := h0
  have lt0 : ∀ x ∈ p0, x.block < W.heap.size := by obtain ⟨m, hm⟩ := k0; exact DataW.trod_lt m _ _ _ hm
  obtain ⟨z0, w0, m0⟩ : ∃ zs, Given .u32 W (.slice a0 len0 cap0) zs ∧ len0 ≤ 9223372036854775807 := by
    obtain ⟨fuel, hf⟩ := h0
    rcases open_ints Tryd.underlying22 Tryd.underlying42 (by kernel_rfl) hf with ⟨hcs, _⟩ | ⟨x, l, c, zs, hcs, _, hl, hm, hz, _, hcell, hwz⟩
    · simp [Value.cells] at hcs
      obtain ⟨rfl, rfl, rfl⟩ := hcs
      exact ⟨[], given_nil, by decide⟩
    · simp [Value.cells] at hcs
      obtain ⟨rfl, rfl, rfl⟩ := hcs
      exact ⟨_, given_row hl (by simpa using hz) hcell hwz, by unfold maxLen at hm; omega⟩
  obtain ⟨a1, len1, cap1, rfl⟩ := okWide_slice Tryd.underlying22 (hval 1 22 v1 rfl rfl)
  have k1 := h1
  have lt1 : ∀ x ∈ p1, x.block < W.heap.size := by obtain ⟨m, hm⟩ := k1; exact DataW.trod_lt m _ _ _ hm
  obtain ⟨z1, w1, m1⟩ : ∃ zs, Given .u32 W (.slice a1 len1 cap1) zs ∧ len1 ≤ 9223372036854775807 := by
    obtain ⟨fuel, hf⟩ := h1
    rcases open_ints Tryd.underlying22 Tryd.underlying42 (by kernel_rfl) hf with ⟨hcs, _⟩ | ⟨x, l, c, zs, hcs, _, hl, hm, hz, _, hcell, hwz⟩
    · simp [Value.cells] at hcs
      obtain ⟨rfl, rfl, rfl⟩ := hcs
      exact ⟨[], given_nil, by decide⟩
    · simp [Value.cells] at hcs
      obtain ⟨rfl, rfl, rfl⟩ := hcs
      exact ⟨_, given_row hl (by simpa using hz) hcell hwz, by unfold maxLen at hm; omega⟩
  clear hA0 hval0
  refine (walk a0 len0 cap0 z0 a1 len1 cap1 z1 W w0 m0 w1 m1 hTab).mono fun e W' ⟨he, bel⟩ => ?_
  subst he
  exact ⟨_, rfl, _, _, _, [], _, [], hW', trodAll_mk1 (shut_bool Tryd.underlying4 _), (trodAll_cons_mk (Below.trod laidOut2 (by kernel_rfl) (of_decide_eq_true (by kernel_rfl)) k0 bel lt0) (trodAll_cons_mk (Below.trod laidOut2 (by kernel_rfl) (of_decide_eq_true (by kernel_rfl)) k1 bel lt1) trodAll_mk0)), rfl, bel.frame _, fun h => by cases h⟩

theorem over : Rows.ratioRootsRow.holds Tryd.pinned (OpenSpec.ofChange Rows.ratioRootsSpec) :=
  OpenClaim.holds_of_wide 3 Tryd.f3 rfl rfl rfl rfl rfl rfl rfl ⟨rfl, rfl, rfl, rfl, rfl⟩ rfl rfl rfl rfl rfl (by kernel_rfl) Tryd.func3 (by kernel_rfl)
    (of_decide_eq_true (by kernel_rfl)) (by unfold Func.isWrapper; first | (rw [if_pos (by decide +kernel)]; kernel_rfl) | (rw [if_neg (by decide +kernel)]; exact ⟨rfl, rfl⟩))
    (fun os started H enc _ => lifted os started H enc)
theorem row_holds : Rows.RatioRootsSaid := over
end Go.Proofs.YtjfcnpanodkmnaaDoor.ratioRoots
namespace Go.Proofs.YtjfcnpanodkmnaaDoor
/-- The statement: the tied card. -/
theorem ratioRoots_holds : Rows.RatioRootsCardSaid :=
  Claim7.holds_tied_plain_at .later [] [.data] true _ false
    ratioRoots.row_holds (fun _ h => by cases h) (by kernel_rfl) (fun _ h => by cases h) ratioRoots_row_tie rfl ⟨rfl, rfl⟩ (by kernel_rfl) rfl
    (fun f fn hf hfn => by
      obtain rfl : f = 3 := Option.some.inj ((show Tryd.prog.funcNamed "bushel/bushellaw04.RatioRoots" = some 3 by kernel_rfl).symm.trans hf) |>.symm
      obtain rfl : fn = Tryd.f3 := (Option.some.inj (Tryd.func3.symm.trans hfn)).symm
      exact ⟨by kernel_rfl, fun j t ht => by
        rw [Tryd.params3] at ht
        have hm : t ∈ [22, 22] := by simpa using Array.mem_of_getElem? ht
        have hall : ([22, 22].all fun u => !Tryd.prog.wantsStandIn u) = true := by kernel_rfl
        exact (show Tryd.prog.wantsStandIn t = false by simpa using List.all_eq_true.1 hall t hm)⟩)
    (by kernel_rfl)
#print axioms ratioRoots_holds
end Go.Proofs.YtjfcnpanodkmnaaDoor
