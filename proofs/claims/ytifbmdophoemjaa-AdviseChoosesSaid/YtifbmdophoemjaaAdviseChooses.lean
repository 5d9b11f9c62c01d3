/- AdviseChooses: for any number of dimensions, sizes and number of sets the statement's function returns true and changes nothing that was there. No condition. -/
import Derived.Test.YtifbmdophoemjaaRows
import Derived.Test.YtifbmdophoemjaaAdvj
namespace Go.Proofs.Ytifbmdophoemjaa.adviseChooses
set_option maxRecDepth 100000
open Go.ChangeShapes Go.WideShapes Go.ChangeAt Go.RowKit
set_option linter.unusedVariables false
theorem own : ownKnob Try.prog.godebug = none := by kernel_rfl
theorem laidOut : laidOutB Try.prog = true := by kernel_rfl
set_option maxHeartbeats 16000000 in
theorem walk (d : Int) (a1 : Option Addr) (len1 cap1 : Nat) (s : List Int) (k : Int) (w : World) (hd : (Lit.int .i64 d).wf = true) (w1 : Given .i64 w (.slice a1 len1 cap1) s) (hk : (Lit.int .i64 k).wf = true) :
    Calls Try.prog 4 #[.int .i64 d, .slice a1 len1 cap1, .int .i64 k] w fun e w' => e = .returned (.bool true) ∧ Below w.heap.size w w' := by
  have HA := Lib.hid (fun w => awake18_any w)
  have hlen1 := len_max w1
  obtain rfl : s.length = len1 := by omega
  have HS := Lib.hid (show Szs w (.slice a1 s.length cap1) s from w1.1)
  have HB0 := Lib.hid (Below.refl w.heap.size w)
  clear w1 hlen1
  by_cases h1 : 100 < s.length
  · have h2 : (100 : Int) < (s.length : Int) := by omega
    go_enter Try.func4, Try.ntmps4
    go_wp2_with fail
    refine (HA.out _).mono ?_; rintro e w1 ⟨rfl, hb⟩
    have HZ := Lib.hid (below_then HB0.out hb)
    clear hb
    go_wp2_with fail
    go_ret
    exact ⟨rfl, HZ.out⟩
  have h1' : ¬ (100 : Int) < (s.length : Int) := by omega
  have HP := Lib.hid (pchoose_any w d k _ s hd hk HS.out (by omega))
  have HW := Lib.hid (fun w1 (hb1 : Below w.heap.size w w1) => rwrong_any w1 d _ s hd (HS.out.below hb1) (by omega))
  have HR := Lib.hid (fun w1 (hb1 : Below w.heap.size w w1) ho h0 h64 => rchoose_any w1 k _ s hk (HS.out.below hb1) ho h0 h64)
  have HM := Lib.hid (fun w u v l hu hv hl => masks17_any u v l w hu hv hl)
  have hkl := (cho_is s k.toNat)
  have hcl := cho_len s k.toNat
  have hL : (choN s k.toNat).length ≤ 1000000 := by omega
  by_cases h3 : s.length = 64 ∧ 3 < k
  · obtain ⟨h3, h4⟩ := h3
    have h3' : ((s.length : Int) == 64) = true := by rw [beq_iff_eq]; omega
    clear HP HW HR HM hkl hcl hL
    go_enter Try.func4, Try.ntmps4
    go_wp2_with fail
    refine (HA.out _).mono ?_; rintro e w1 ⟨rfl, hb⟩
    have HZ := Lib.hid (below_then HB0.out hb)
    clear hb
    go_wp2_with fail
    go_ret
    exact ⟨rfl, HZ.out⟩
  have hor : ((s.length : Int) == 64) = false ∨ (((s.length : Int) == 64) = true ∧ ¬ 3 < k) := by
    by_cases q : s.length = 64
    · exact .inr ⟨by rw [beq_iff_eq]; omega, fun h => h3 ⟨q, h⟩⟩
    · exact .inl (by rw [beq_eq_false_iff_ne]; omega)
  by_cases hw : wrongN d s = 0
  rotate_left
  · have hc : ¬ checkN d s [] = 0 := by rw [check_bad hw]; exact hw
    have HP2 := Lib.hid (show Calls Try.prog 11 #[.int .i64 d, .slice a1 s.length cap1, .int .i64 k] w fun e w' => e = .returned (.tuple #[.slice none 0 0, .int .i64 (wrongN d s)]) ∧ Below w.heap.size w w' from by
      refine HP.out.mono ?_
      rintro e w1 ⟨v, rfl, (⟨h, -⟩ | ⟨-, rfl⟩), hb⟩
      · exact absurd h hc
      · rw [check_bad hw]; exact ⟨rfl, hb⟩)
    clear HP HR HM hkl hcl hL hc
    generalize wrongN d s = C at *
    have c1 : (C == C) = true := by simp
    have c2 : (C != 0) = true := by rw [bne_iff_ne]; exact hw
    clear hw h1 h3
    rcases hor with h64 | ⟨h64, h3k⟩
    · go_enter Try.func4, Try.ntmps4
      go_wp2_with fail
      refine Calls.mono HP2.out ?_; rintro e w1 ⟨rfl, hb⟩
      have HB1 := Lib.hid hb
      clear hb HP2
      go_wp2_with fail
      refine Calls.mono (HW.out _ HB1.out) ?_; rintro e w3 ⟨rfl, rfl⟩
      clear HW
      go_wp2_with fail
      refine (HA.out _).mono ?_; rintro e w4 ⟨rfl, hb⟩
      have HZ := Lib.hid (below_then HB1.out hb)
      clear hb
      go_wp2_with fail
      go_ret
      exact ⟨rfl, HZ.out⟩
    · go_enter Try.func4, Try.ntmps4
      go_wp2_with fail
      refine Calls.mono HP2.out ?_; rintro e w1 ⟨rfl, hb⟩
      have HB1 := Lib.hid hb
      clear hb HP2
      go_wp2_with fail
      refine Calls.mono (HW.out _ HB1.out) ?_; rintro e w3 ⟨rfl, rfl⟩
      clear HW
      go_wp2_with fail
      refine (HA.out _).mono ?_; rintro e w4 ⟨rfl, hb⟩
      have HZ := Lib.hid (below_then HB1.out hb)
      clear hb
      go_wp2_with fail
      go_ret
      exact ⟨rfl, HZ.out⟩
  · obtain ⟨n, rfl, hk1, hk6, hlen, hok⟩ := wrong_ok hw
    have hp := pow64 hk6
    have HR2 := Lib.hid (fun w1 hb1 => HR.out w1 hb1 hok (by omega) (by omega))
    have hc : checkN n s [] = 0 := check_yes hw (fun k hk => nomatch hk)
    have HP2 := Lib.hid (show Calls Try.prog 11 #[.int .i64 n, .slice a1 s.length cap1, .int .i64 k] w fun e w' => ∃ u, e = .returned (.tuple #[u, .int .i64 0]) ∧ Msk w' u (choN s k.toNat) ∧ Below w.heap.size w w' from by
      refine HP.out.mono ?_
      rintro e w1 ⟨v, rfl, (⟨-, u, rfl, hu⟩ | ⟨h, -⟩), hb⟩
      · exact ⟨u, rfl, hu, hb⟩
      · exact absurd hc h)
    rw [hw] at HW
    have HL := Lib.hid hL
    clear HP HR hkl hcl hL hc hw hok hlen hp h1 h3
    generalize choN s k.toNat = L at *
    rcases hor with h64 | ⟨h64, h3k⟩
    · go_enter Try.func4, Try.ntmps4
      go_wp2_with fail
      refine Calls.mono HP2.out ?_; rintro e w1 ⟨u, rfl, hu, hb⟩
      have HB1 := Lib.hid hb
      have HU := Lib.hid hu
      obtain ⟨p, pc, rfl⟩ := hu.len
      clear hb HP2 hu
      go_wp2_with fail
      refine Calls.mono (HW.out _ HB1.out) ?_; rintro e w3 ⟨rfl, rfl⟩
      have HR3 := Lib.hid (HR2.out _ HB1.out)
      clear HW HR2
      go_wp2_with fail
      refine Calls.mono HR3.out ?_; rintro e w4 ⟨⟨t, rfl, ht⟩, hb⟩
      have HB2 := Lib.hid (below_then HB1.out hb)
      have HM2 := Lib.hid (HM.out w4 _ _ L (HU.out.below hb) ht HL.out)
      obtain ⟨q, qc, rfl⟩ := ht.len
      clear hb ht HR3 HB1 HU HM
      go_wp2_with fail
      refine Calls.mono HM2.out ?_; rintro e w5 ⟨rfl, hb⟩
      have HB3 := Lib.hid (below_then HB2.out hb)
      clear hb HM2 HB2
      go_wp2_with fail
      refine (HA.out _).mono ?_; rintro e w6 ⟨rfl, hb⟩
      have HZ := Lib.hid (below_then HB3.out hb)
      clear hb
      go_wp2_with fail
      go_ret
      exact ⟨rfl, HZ.out⟩
    · go_enter Try.func4, Try.ntmps4
      go_wp2_with fail
      refine Calls.mono HP2.out ?_; rintro e w1 ⟨u, rfl, hu, hb⟩
      have HB1 := Lib.hid hb
      have HU := Lib.hid hu
      obtain ⟨p, pc, rfl⟩ := hu.len
      clear hb HP2 hu
      go_wp2_with fail
      refine Calls.mono (HW.out _ HB1.out) ?_; rintro e w3 ⟨rfl, rfl⟩
      have HR3 := Lib.hid (HR2.out _ HB1.out)
      clear HW HR2
      go_wp2_with fail
      refine Calls.mono HR3.out ?_; rintro e w4 ⟨⟨t, rfl, ht⟩, hb⟩
      have HB2 := Lib.hid (below_then HB1.out hb)
      have HM2 := Lib.hid (HM.out w4 _ _ L (HU.out.below hb) ht HL.out)
      obtain ⟨q, qc, rfl⟩ := ht.len
      clear hb ht HR3 HB1 HU HM
      go_wp2_with fail
      refine Calls.mono HM2.out ?_; rintro e w5 ⟨rfl, hb⟩
      have HB3 := Lib.hid (below_then HB2.out hb)
      clear hb HM2 HB2
      go_wp2_with fail
      refine (HA.out _).mono ?_; rintro e w6 ⟨rfl, hb⟩
      have HZ := Lib.hid (below_then HB3.out hb)
      clear hb
      go_wp2_with fail
      go_ret
      exact ⟨rfl, HZ.out⟩
set_option maxRecDepth 100000 in
theorem lifted (os : Os) (started : os.Started) (H : Type) (enc : TypeId × Value → H) :
    ReturnsInHanded {} Try.checked os 4 .any (Rows.adviseChoosesSpec.pre6 enc Try.prog Try.f4 Rows.adviseChoosesRow.domain false) (Rows.adviseChoosesSpec.post enc Try.prog Try.f4 false true false false) := by
  refine returnsInHanded_of_change (C := Try.checked) own started (by kernel_rfl) Try.func4
    (ChangeSpec.witness6 (enc := enc) (C := Try.checked) false ⟨#[], #[.int .i64 0, .slice none 0 0, .int .i64 0], []⟩ 8 (by kernel_rfl) (by kernel_rfl) (by kernel_rfl) (by kernel_rfl)) ?_
  intro W base args ds gs before hval0 hW hcnd _
  have hval : ∀ (j : Nat) t v, Try.f4.params[j]? = some t → args[j]? = some v → Value.okWide Try.prog W .any base t v := hval0
  have hW' := hW
  obtain ⟨p, q, hA0, hV, rfl, hfz, hnd⟩ := hW
  have hA : DataW.TrodAll enc Try.prog W 0 (fun _ => true) true Try.f4.params.toList args.toList ds p := hA0
  rw [Try.params4] at hA hval
  obtain ⟨v0, vs0, d0, ds0, p0, q0, hargs, rfl, rfl, h0, r0⟩ := trodAll_cons hA
  obtain ⟨v1, vs1, d1, ds1, p1, q1, rfl, rfl, rfl, h1, r1⟩ := trodAll_cons r0
  obtain ⟨v2, vs2, d2, ds2, p2, q2, rfl, rfl, rfl, h2, r2⟩ := trodAll_cons r1
  obtain ⟨rfl, rfl, rfl⟩ := trodAll_nil r2
  obtain rfl : args = #[v0, v1, v2] := by cases args; simp_all
  obtain ⟨rfl, rfl⟩ := trodVars_none hV
  obtain ⟨a0, rfl, rfl, rfl, w0⟩ := open_int Try.underlying3 (hval 0 3 v0 rfl rfl) h0
  obtain ⟨a1, len1, cap1, rfl⟩ := okWide_slice Try.underlying22 (hval 1 22 v1 rfl rfl)
  have k1 := h1
  have lt1 : ∀ x ∈ p1, x.block < W.heap.size := by obtain ⟨m, hm⟩ := k1; exact DataW.trod_lt m _ _ _ hm
  obtain ⟨z1, w1⟩ : ∃ zs, Given .i64 W (.slice a1 len1 cap1) zs := by
    obtain ⟨fuel, hf⟩ := h1
    rcases open_ints Try.underlying22 Try.underlying2 (by kernel_rfl) hf with ⟨hcs, _⟩ | ⟨x, l, c, zs, hcs, _, hl, hm, hz, _, hcell, hwz⟩
    · simp [Value.cells] at hcs
      obtain ⟨rfl, rfl, rfl⟩ := hcs
      exact ⟨[], given_nil⟩
    · simp [Value.cells] at hcs
      obtain ⟨rfl, rfl, rfl⟩ := hcs
      exact ⟨_, given_row hl (by simpa using hz) hcell hwz⟩
  obtain ⟨a2, rfl, rfl, rfl, w2⟩ := open_int Try.underlying3 (hval 2 3 v2 rfl rfl) h2
  clear hA0 hval0
  refine (walk a0 a1 len1 cap1 z1 a2 W w0 w1 w2).mono fun e W' ⟨he, bel⟩ => ?_
  subst he
  exact ⟨_, rfl, _, _, _, [], _, [], hW', trodAll_mk1 (shut_bool Try.underlying4 _), (trodAll_cons_mk (shut_int Try.underlying3 w0) (trodAll_cons_mk (Below.trod laidOut (by kernel_rfl) (of_decide_eq_true (by kernel_rfl)) k1 bel lt1) (trodAll_cons_mk (shut_int Try.underlying3 w2) trodAll_mk0))), rfl, bel.frame _, fun h => by cases h⟩

theorem over : Rows.adviseChoosesRow.holds Try.pinned (OpenSpec.ofChange Rows.adviseChoosesSpec) :=
  OpenClaim.holds_of_wide 4 Try.f4 rfl rfl rfl rfl rfl rfl rfl ⟨rfl, rfl, rfl, rfl, rfl⟩ rfl rfl rfl rfl rfl (by kernel_rfl) Try.func4 (by kernel_rfl)
    (of_decide_eq_true (by kernel_rfl)) (by unfold Func.isWrapper; first | (rw [if_pos (by decide +kernel)]; kernel_rfl) | (rw [if_neg (by decide +kernel)]; exact ⟨rfl, rfl⟩))
    (fun os started H enc _ => lifted os started H enc)
end Go.Proofs.Ytifbmdophoemjaa.adviseChooses
namespace Go.Proofs.Ytifbmdophoemjaa
/-- The statement. -/
theorem adviseChooses_holds : Rows.AdviseChoosesSaid := adviseChooses.over
#print axioms adviseChooses_holds
end Go.Proofs.Ytifbmdophoemjaa
