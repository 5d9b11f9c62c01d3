/- FloTells: for any float the statement's function returns true and changes nothing that was there. No condition; the row lists the two tables of math/bits as the program's text lays them. -/
import Derived.Test.YtpfcacjcikhamaaDoorRows
import Derived.Test.YtpfcacjcikhamaaDoorCards
import Derived.Test.YtpfcacjcikhamaaDoorTie
import Derived.Test.YtpfcacjcikhamaaDoorFlon
import Derived.SevenTiedAt
namespace Go.Proofs.YtpfcacjcikhamaaDoor.floTells
set_option maxRecDepth 100000
open Go.ChangeShapes Go.WideShapes Go.ChangeAt Go.RowKit
set_option linter.unusedVariables false
theorem w64_of {a : Nat} (h : (Lit.float .f64 a).wf = true) : W64 a := by
  simpa [Lit.wf, W64] using h
theorem near_exact {c : Nat} {q m k : Int} (hc : Canon c q) (hq : q ≤ 971) (h0 : c ≠ 0) (hs : IsSplit c q m k) : nearW m.toNat k = rungOf c q := by
  obtain ⟨m0, m1, m2, m3⟩ := id hs
  have hge := hs.ge
  have hz : m.toNat ≠ 0 := by omega
  have hl := m2.log2 h0
  have hlc := log2_le hc.1
  have hlz := log2_le (c := m.toNat) (by omega)
  have hL : bitsZ (m.toNat : Int) = m.toNat.log2 + 1 := by unfold bitsZ; rw [if_neg (by omega), Int.toNat_natCast]
  have hq0 := hc.2.1
  have hb := bits_lt_nat hz
  unfold nearW
  rw [if_neg (by omega), if_neg (by omega)]
  obtain ⟨f1, f2, f3, f4, f5⟩ := near_facts (e := k) hb (by omega) (by omega)
  have hu : rU (bitsZ (m.toNat : Int)) k ≤ k := by unfold rU; omega
  refine (fvc hc hq).nearest (SameD.trans ?_ m2)
  exact ⟨(k - rU (bitsZ (m.toNat : Int)) k).toNat, .inr ⟨by omega, (f4 hu).1⟩⟩
theorem sign_back {x R : Nat} (hx : W64 x) (h : R = x % 9223372036854775808) : signN (negB x) R = x := by
  unfold W64 at hx
  unfold signN negB flipN
  by_cases k : 9223372036854775808 ≤ x
  · simp only [k, decide_true, if_true]; rw [if_pos (by omega)]; omega
  · simp only [k, decide_false, Bool.false_eq_true, if_false]; omega
theorem words_of (m : Int) (h0 : 0 ≤ m) (h1 : m < 9007199254740992) : wv [m % 4294967296, m / 4294967296] = ((m.toNat : Nat) : Int) := by
  simp [wv, wvN]; omega
set_option maxHeartbeats 4000000 in
theorem walk (x : Nat) (wx : (Lit.float .f64 x).wf = true) (w : World) (hT : Tab w) (hT2 : Tab64 w) :
    Calls Tryd.prog 5 #[.float .f64 x] w fun e w' => e = .returned (.bool true) ∧ Below w.heap.size w w' := by
  have hx := w64_of wx
  have K := Lib.hid (fun w => fkind_any x w hx)
  have R := Lib.hid (fun w => rkind_any x w hx)
  have HA : Hid (∀ w1, Below w.heap.size w w1 → Calls Tryd.prog 34 #[] w1 fun e w' => e = .returned (.bool true) ∧ Below w.heap.size w w') := Lib.hid (fun w1 h => (awake3_any w1 (hT.call h) (hT2.call h)).mono (fun e w' ⟨h1, h2⟩ => ⟨h1, h.trans (h2.mono h.size)⟩))
  have Sx := Lib.hid (fun w => rsame_any x x w hx hx)
  have sx : sameB x x = true := by unfold sameB; simp
  rw [sx] at Sx
  have HT := Lib.hid hT
  have HT2 := Lib.hid hT2
  clear wx hT hT2 sx
  by_cases hk : kindI x = 1
  · obtain ⟨g1, g2, g3, g4, g5⟩ := kind_one hx hk
    obtain ⟨c, q, hc, hq, h0, hr⟩ := canon_of_fin g4 g5
    have P := Lib.hid (psplit_fin x c q w hx hk hc hq h0 hr HT2.out)
    have Q := Lib.hid (fun w => rsplit_fin x c q w hx hk hc hq h0 hr)
    have hback := Lib.hid (sign_back hx hr)
    have hex := Lib.hid (fun m k h => near_exact (m := m) (k := k) hc hq h0 h)
    have hC := Lib.hid (And.intro hc (And.intro hq h0))
    rw [hk] at K R
    unfold PSplitPost at P
    unfold SplitPost at Q
    generalize hb : negB x = b at *
    clear hk g1 g2 g3 g4 g5 hr hb hc hq h0
    go_enter Tryd.func5, Tryd.ntmps5
    go_wp2_with fail
    refine (P.out).mono ?_; rintro e w1 ⟨⟨m, k, hs, rfl⟩, hd1⟩
    have hs := Lib.hid hs
    clear P
    go_wp2_with fail
    refine (Q.out w1).mono ?_; rintro e w2 ⟨⟨m', k', hs', rfl⟩, hd2⟩
    obtain ⟨rfl, rfl⟩ := hs'.unique hs.out
    have hd := Lib.hid (hd1.trans hd2)
    have hv := hex.out _ _ hs'
    have hm0 := hs'.1
    have hm1 := hs'.2.2.2
    have hb2 := rank_bounds hC.out.1 hC.out.2.1 hC.out.2.2 hs'.2.2.1
    have hge := hs'.ge
    have hqq := hC.out.1.2.1
    have J := Lib.hid (fun w1 (hb : Below w.heap.size w w1) => join_any b _ [m' % 4294967296, m' / 4294967296] m'.toNat k' _ (two_words (m' % 4294967296) (m' / 4294967296) (by omega) (by omega) w1) (by simp) (words_of m' (by omega) hm1) (by omega) (by omega) (HT.out.call (hb.trans ((below_one w1 _).mono hb.size))))
    rw [hv, hback.out] at J
    clear Q hs hs' hex hback hv hd1 hd2 hge hqq hb2
    go_wp2_with fail
    refine (K.out _).mono ?_; rintro e w3 ⟨rfl, rfl⟩
    go_wp2_with fail
    refine (R.out _).mono ?_; rintro e w3 ⟨rfl, hd3⟩
    have hd := Lib.hid (hd.out.trans hd3)
    clear hd3
    go_wp2_with fail
    refine (R.out _).mono ?_; rintro e w4 ⟨rfl, hd4⟩
    have hd := Lib.hid (hd.out.trans hd4)
    clear hd4
    go_wp2_with fail
    refine (J.out _ hd.out.below).mono ?_; rintro e w5 ⟨rfl, hb5⟩
    have hE := Lib.hid (hd.out.below.trans (((below_one w4 _).trans (hb5.mono (below_one w4 _).size)).mono hd.out.below.size))
    clear hb5 J
    go_wp2_with fail
    refine (Sx.out _).mono ?_; rintro e w6 ⟨rfl, hd6⟩
    have hE := Lib.hid (hE.out.trans (hd6.below.mono hE.out.size))
    clear hd6
    go_wp2_with fail
    refine (HA.out _ hE.out).mono ?_; rintro e w7 ⟨rfl, hE7⟩
    go_wp2_with fail
    go_ret
    exact ⟨rfl, hE7⟩
  · have P := Lib.hid (fun w => psplit_other x w hx hk)
    have Q := Lib.hid (fun w => rsplit_other x w hx hk)
    by_cases hz : kindI x = 0
    · have hxz : x = 0 ∨ x = 9223372036854775808 := by
        have hzz : isZeroB x = true := by
          unfold kindI at hz
          cases h1 : isNaNB x <;> rw [h1] at hz
          · cases h2 : isInfB x <;> rw [h2] at hz
            · cases h3 : isZeroB x <;> rw [h3] at hz
              simp at hz
            · simp at hz
          · simp at hz
        unfold isZeroB at hzz
        simp only [decide_eq_true_eq] at hzz
        unfold W64 at hx; omega
      have hbk : signN (belowB x) (nearW 0 0) = x := by
        rcases hxz with h | h <;> subst h <;> decide
      have J := Lib.hid (fun w1 (hb : Below w.heap.size w w1) => join_any (belowB x) _ [0, 0] 0 0 _ (two_words 0 0 (by decide) (by decide) w1) (by simp) (by decide) (by decide) (by decide) (HT.out.call (hb.trans ((below_one w1 _).mono hb.size))))
      rw [hbk] at J
      rw [hz] at K R
      generalize belowB x = b at *
      clear hbk hxz hz hk
      go_enter Tryd.func5, Tryd.ntmps5
      go_wp2_with fail
      refine (P.out _).mono ?_; rintro e w1 ⟨rfl, rfl⟩
      go_wp2_with fail
      refine (Q.out _).mono ?_; rintro e w2 ⟨rfl, hd⟩
      have hd := Lib.hid hd
      go_wp2_with fail
      refine (K.out _).mono ?_; rintro e w3 ⟨rfl, rfl⟩
      go_wp2_with fail
      refine (R.out _).mono ?_; rintro e w3 ⟨rfl, hd3⟩
      have hd := Lib.hid (hd.out.trans hd3)
      clear hd3
      go_wp2_with fail
      refine (R.out _).mono ?_; rintro e w4 ⟨rfl, hd4⟩
      have hd := Lib.hid (hd.out.trans hd4)
      clear hd4
      go_wp2_with fail
      refine (J.out _ hd.out.below).mono ?_; rintro e w5 ⟨rfl, hb5⟩
      have hE := Lib.hid (hd.out.below.trans (((below_one w4 _).trans (hb5.mono (below_one w4 _).size)).mono hd.out.below.size))
      clear hb5 J
      go_wp2_with fail
      refine (Sx.out _).mono ?_; rintro e w6 ⟨rfl, hd6⟩
      have hE := Lib.hid (hE.out.trans (hd6.below.mono hE.out.size))
      clear hd6
      go_wp2_with fail
      refine (HA.out _ hE.out).mono ?_; rintro e w7 ⟨rfl, hE7⟩
      go_wp2_with fail
      go_ret
      exact ⟨rfl, hE7⟩
    · have h2 : 2 ≤ kindI x := by
        unfold kindI at hk hz ⊢
        cases h1 : isNaNB x <;> rw [h1] at hz hk
        · cases h2 : isInfB x <;> rw [h2] at hz hk
          · cases h3 : isZeroB x <;> rw [h3] at hz hk <;> simp at hz hk
          · simp
        · simp
      generalize belowB x = b at *
      generalize kindI x = kx at *
      clear hz hk
      go_enter Tryd.func5, Tryd.ntmps5
      go_wp2_with fail
      refine (P.out _).mono ?_; rintro e w1 ⟨rfl, rfl⟩
      go_wp2_with fail
      refine (Q.out _).mono ?_; rintro e w2 ⟨rfl, hd⟩
      have hd := Lib.hid hd
      go_wp2_with fail
      refine (K.out _).mono ?_; rintro e w3 ⟨rfl, rfl⟩
      go_wp2_with fail
      refine (R.out _).mono ?_; rintro e w3 ⟨rfl, hd3⟩
      have hd := Lib.hid (hd.out.trans hd3)
      clear hd3
      go_wp2_with fail
      refine (R.out _).mono ?_; rintro e w4 ⟨rfl, hd4⟩
      have hd := Lib.hid (hd.out.trans hd4)
      clear hd4
      go_wp2_with fail
      refine (HA.out _ hd.out.below).mono ?_; rintro e w7 ⟨rfl, hE7⟩
      go_wp2_with fail
      go_ret
      exact ⟨rfl, hE7⟩
set_option maxRecDepth 100000 in
theorem lifted (os : Os) (started : os.Started) (H : Type) (enc : TypeId × Value → H) :
    ReturnsInHanded {} Tryd.checked os 5 .any (fun w args => (Rows.floTellsSpec.pre enc Tryd.prog Tryd.f5 [] false w args ∧ laidMetH Tryd.prog laid3 w) ∧ sizedMet enc Tryd.prog Tryd.f5 (OpenSpec.ofChange Rows.floTellsSpec) false w args)
      (Rows.floTellsSpec.post enc Tryd.prog Tryd.f5 false true false false) := by
  refine returnsInHanded_of_change_and (C := Tryd.checked) (X := fun w _ => laidMetH Tryd.prog laid3 w) (fun _ _ _ hh h => h.of_heap hh) own2 started (by kernel_rfl) Tryd.func5
    (ChangeSpec.witness_shaped (enc := enc) (C := Tryd.checked) (os := os) (X := fun w _ => laidMetH Tryd.prog laid3 w) false (World.doorLaid Tryd.prog 800 os) #[.float .f64 0] 8 rfl (World.shaped_of_RefB (by kernel_rfl) (by kernel_rfl)) (by kernel_rfl) (by kernel_rfl) (by kernel_rfl) (door_met3 os _)) ?_
  intro W base args ds gs before hval0 hW _ _ hL _
  have hTab := tab_of3 hL
  have hTab64 := tab64_of3 hL
  have hval : ∀ (j : Nat) t v, Tryd.f5.params[j]? = some t → args[j]? = some v → Value.okWide Tryd.prog W .any base t v := hval0
  have hW' := hW
  obtain ⟨p, q, hA0, hV, rfl, hfz, hnd⟩ := hW
  have hA : DataW.TrodAll enc Tryd.prog W 0 (fun _ => true) true Tryd.f5.params.toList args.toList ds p := hA0
  rw [Tryd.params5] at hA hval
  obtain ⟨v0, vs0, d0, ds0, p0, q0, hargs, rfl, rfl, h0, r0⟩ := trodAll_cons hA
  obtain ⟨rfl, rfl, rfl⟩ := trodAll_nil r0
  obtain rfl : args = #[v0] := by cases args; simp_all
  obtain ⟨rfl, rfl⟩ := trodVars_none hV
  obtain ⟨a0, rfl, rfl, rfl, w0⟩ := open_float Tryd.underlying53 (hval 0 53 v0 rfl rfl) h0
  clear hA0 hval0
  simp only [List.append_nil] at hW'
  refine (walk a0 w0 W hTab hTab64).mono fun e W' ⟨he, bel⟩ => ?_
  subst he
  exact ⟨_, rfl, _, _, _, [], _, [], hW', trodAll_mk1 (shut_bool Tryd.underlying4 _), (trodAll_cons_mk (shut_float Tryd.underlying53 w0) trodAll_mk0), rfl, bel.frame _, fun h => by cases h⟩

theorem over : Rows.floTellsRow.holds Tryd.pinned (OpenSpec.ofChange Rows.floTellsSpec) :=
  OpenClaim.holds_of_wide 5 Tryd.f5 rfl rfl rfl rfl rfl rfl rfl ⟨rfl, rfl, rfl, rfl, rfl⟩ rfl rfl rfl rfl rfl (by kernel_rfl) Tryd.func5 (by kernel_rfl)
    (of_decide_eq_true (by kernel_rfl)) (by unfold Func.isWrapper; first | (rw [if_pos (by decide +kernel)]; kernel_rfl) | (rw [if_neg (by decide +kernel)]; exact ⟨rfl, rfl⟩))
    (fun os started H enc _ => lifted os started H enc)
theorem row_holds : Rows.FloTellsSaid := over
end Go.Proofs.YtpfcacjcikhamaaDoor.floTells
namespace Go.Proofs.YtpfcacjcikhamaaDoor
/-- The statement: the tied card. -/
theorem floTells_holds : Rows.FloTellsCardSaid :=
  Claim7.holds_tied_plain_at .later [] [.data, .data] true _ false
    floTells.row_holds (fun _ h => by cases h) (by kernel_rfl) (fun _ h => by cases h) floTells_row_tie rfl ⟨rfl, rfl⟩ (by kernel_rfl) rfl
    (fun f fn hf hfn => by
      obtain rfl : f = 5 := Option.some.inj ((show Tryd.prog.funcNamed "bushel/bushellaw03.FloTells" = some 5 by kernel_rfl).symm.trans hf) |>.symm
      obtain rfl : fn = Tryd.f5 := (Option.some.inj (Tryd.func5.symm.trans hfn)).symm
      exact ⟨by kernel_rfl, fun j t ht => by
        rw [Tryd.params5] at ht
        have hm : t ∈ [53] := by simpa using Array.mem_of_getElem? ht
        have hall : ([53].all fun u => !Tryd.prog.wantsStandIn u) = true := by kernel_rfl
        exact (show Tryd.prog.wantsStandIn t = false by simpa using List.all_eq_true.1 hall t hm)⟩)
    (by kernel_rfl)
#print axioms floTells_holds
end Go.Proofs.YtpfcacjcikhamaaDoor
