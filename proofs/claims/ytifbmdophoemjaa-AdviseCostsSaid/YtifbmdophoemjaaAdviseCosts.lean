/- AdviseCosts: for any number of dimensions, sizes and views the statement's function returns true and changes nothing that was there. No condition. -/
import Derived.Test.YtifbmdophoemjaaRows
import Derived.Test.YtifbmdophoemjaaAdvj
namespace Go.Proofs.Ytifbmdophoemjaa.adviseCosts
set_option maxRecDepth 100000
open Go.ChangeShapes Go.WideShapes Go.ChangeAt Go.RowKit
set_option linter.unusedVariables false
theorem own : ownKnob Try.prog.godebug = none := by kernel_rfl
theorem laidOut : laidOutB Try.prog = true := by kernel_rfl
set_option maxHeartbeats 16000000 in
theorem walk (d : Int) (a1 : Option Addr) (len1 cap1 : Nat) (s : List Int) (a2 : Option Addr) (len2 cap2 : Nat) (z2 : List Int) (w : World) (hd : (Lit.int .i64 d).wf = true) (w1 : Given .i64 w (.slice a1 len1 cap1) s) (w2 : Given .u32 w (.slice a2 len2 cap2) z2) :
    Calls Try.prog 3 #[.int .i64 d, .slice a1 len1 cap1, .slice a2 len2 cap2] w fun e w' => e = .returned (.bool true) ∧ Below w.heap.size w w' := by
  have HA := Lib.hid (fun w => awake18_any w)
  have hlen1 := len_max w1
  have hlen2 := len_max w2
  obtain ⟨vs, hm, hbd, hl⟩ := given_msk w2
  obtain rfl : vs.length = len2 := by omega
  obtain rfl : s.length = len1 := by omega
  have HS := Lib.hid (show Szs w (.slice a1 s.length cap1) s from w1.1)
  have HU := Lib.hid hm
  have HBd := Lib.hid hbd
  have HB0 := Lib.hid (Below.refl w.heap.size w)
  clear w1 w2 hlen1 hlen2 hl hm hbd
  by_cases h1 : 100 < s.length
  · have h2 : (100 : Int) < (s.length : Int) := by omega
    go_enter Try.func3, Try.ntmps3
    go_wp2_with fail
    refine (HA.out _).mono ?_; rintro e w1 ⟨rfl, hb⟩
    have HZ := Lib.hid (below_then HB0.out hb)
    clear hb
    go_wp2_with fail
    go_ret
    exact ⟨rfl, HZ.out⟩
  have h1' : ¬ (100 : Int) < (s.length : Int) := by omega
  by_cases h2 : 30 < vs.length
  · have h2' : (30 : Int) < (vs.length : Int) := by omega
    go_enter Try.func3, Try.ntmps3
    go_wp2_with fail
    refine (HA.out _).mono ?_; rintro e w1 ⟨rfl, hb⟩
    have HZ := Lib.hid (below_then HB0.out hb)
    clear hb
    go_wp2_with fail
    go_ret
    exact ⟨rfl, HZ.out⟩
  have h2' : ¬ (30 : Int) < (vs.length : Int) := by omega
  have HP := Lib.hid (pcost_any w d _ _ s vs hd HS.out HU.out HBd.out (by omega) (by omega))
  have HG := Lib.hid (fun w1 (hb1 : Below w.heap.size w w1) => pgain_any w1 d _ _ s vs hd (HS.out.below hb1) (HU.out.below hb1) HBd.out (by omega) (by omega))
  have HW := Lib.hid (fun w1 (hb1 : Below w.heap.size w w1) => rwrong_any w1 d _ s hd (HS.out.below hb1) (by omega))
  by_cases hw : wrongN d s = 0
  rotate_left
  · have hc : ¬ checkN d s vs = 0 := by rw [check_bad hw]; exact hw
    rw [costR_no hc, check_bad hw] at HP
    rw [gainR_no hc, check_bad hw] at HG
    generalize wrongN d s = C at *
    have c1 : (C == C) = true := by simp
    have c2 : (C != 0) = true := by rw [bne_iff_ne]; exact hw
    have c3 : (C == 0) = false := by rw [beq_eq_false_iff_ne]; exact hw
    clear hc hw h1 h2
    go_enter Try.func3, Try.ntmps3
    go_wp2_with fail
    refine Calls.mono HP.out ?_; rintro e w1 ⟨rfl, hb⟩
    have HB1 := Lib.hid hb
    clear hb HP
    go_wp2_with fail
    refine Calls.mono (HG.out _ HB1.out) ?_; rintro e w2 ⟨rfl, hb⟩
    have HB2 := Lib.hid (below_then HB1.out hb)
    clear hb HG HB1
    go_wp2_with fail
    refine Calls.mono (HW.out _ HB2.out) ?_; rintro e w3 ⟨rfl, rfl⟩
    clear HW
    go_wp2_with fail
    go_loopw [12, 11] (fun iv xv wr => iv = .int .i64 0 ∧ xv = .int .i64 C ∧ wr = w2) (fun _ _ _ => 0)
    case atStart => exact ⟨rfl, rfl, by trivial⟩
    case round =>
      obtain ⟨rfl, rfl, rfl⟩ := hrel
      go_wp2_with fail
      refine (HA.out _).mono ?_; rintro e w4 ⟨rfl, hb⟩
      have HZ := Lib.hid (below_then HB2.out hb)
      clear hb
      go_wp2_with fail
      go_ret
      exact ⟨rfl, HZ.out⟩
  · obtain ⟨k, rfl, hk1, hk6, hlen, hok⟩ := wrong_ok hw
    have hp := pow64 hk6
    have h64 : s.length ≤ 64 := by omega
    have h0 : 0 < s.length := by omega
    rw [hw] at HW
    by_cases hc : checkN k s vs = 0
    · obtain ⟨-, hvs⟩ := check_ok hc
      rw [costR_ok hc] at HP
      rw [gainR_ok hc] at HG
      have HR := Lib.hid (fun w1 (hb1 : Below w.heap.size w w1) => rcost_any w1 _ _ s vs (HS.out.below hb1) (HU.out.below hb1) hok h0 hvs h64 (by omega))
      have HR0 := Lib.hid (fun w1 (hb1 : Below w.heap.size w w1) => rcost_any w1 _ (.slice none 0 0) s [] (HS.out.below hb1) ⟨none, 0, rfl, Nat.le_refl _, .inl rfl⟩ hok h0 (fun v hv => nomatch hv) h64 (by decide))
      have hr1 := cost_range hok h0 h64 hvs
      have hr2 := cost_range (vs := []) hok h0 h64 (fun v hv => nomatch hv)
      have HV := Lib.hid (fun j (hj : j < vs.length) => hvs _ (getD_memN hj))
      generalize costN s vs = C1 at *
      generalize costN s [] = C0 at *
      have hww : wrap64 (C0 - C1) = C0 - C1 := wrap64_in (by omega) (by omega)
      have hww2 : IntKind.i64.wrap (C0 - C1) = C0 - C1 := IntWalk.i64_in _ (by omega)
      have c1 : (C1 == C1) = true := by simp
      have c2 : (C0 - C1 == C0 - C1) = true := by simp
      clear hc hvs hok hlen hp h1 h2 hw hr1 hr2
      go_enter Try.func3, Try.ntmps3
      go_wp2_with fail
      refine Calls.mono HP.out ?_; rintro e w1 ⟨rfl, hb⟩
      have HB1 := Lib.hid hb
      clear hb HP
      go_wp2_with fail
      refine Calls.mono (HG.out _ HB1.out) ?_; rintro e w2 ⟨rfl, hb⟩
      have HB2 := Lib.hid (below_then HB1.out hb)
      clear hb HG HB1
      go_wp2_with fail
      refine Calls.mono (HW.out _ HB2.out) ?_; rintro e w3 ⟨rfl, rfl⟩
      clear HW
      go_wp2_with fail
      go_loopw [12, 11] (fun iv xv wr => ∃ j : Nat, j ≤ vs.length ∧ iv = .int .i64 j ∧ xv = .int .i64 0 ∧ wr = w2) (fun iv _ _ => vs.length - (intOf iv).toNat)
      case atStart => exact ⟨0, Nat.zero_le _, rfl, rfl, by trivial⟩
      case round =>
        obtain ⟨j, hj, rfl, rfl, rfl⟩ := hrel
        by_cases hlt : j < vs.length
        · have hlt' : (j : Int) < (vs.length : Int) := by omega
          obtain ⟨b0, off, rfl, hc0⟩ := Msk.at (HU.out.below HB2.out) hlt
          have hv := HV.out j hlt
          have hx := HBd.out.getD j
          generalize vs.getD j 0 = x at *
          have hg : ¬ (s.length : Int) ≤ (x : Int) := by omega
          have hcw : IntKind.i64.wrap (x : Int) = (x : Int) := IntWalk.i64_in _ (by omega)
          clear hv
          go_wp2_with fail
          go_roundw
          case rel => exact ⟨j + 1, by omega, by go_num, rfl, by trivial⟩
          case measure => simp [intOf]; omega
        · have hjn : j = vs.length := by omega
          subst hjn
          have hlt' : ¬ (vs.length : Int) < (vs.length : Int) := by omega
          have HR1 := Lib.hid (HR.out _ HB2.out)
          have HR2 := Lib.hid (HR0.out _ HB2.out)
          clear HR HR0 HV
          go_wp2_with fail
          refine Calls.mono HR1.out ?_; rintro e w3 ⟨rfl, rfl⟩
          go_wp2_with fail
          refine Calls.mono HR2.out ?_; rintro e w3 ⟨rfl, rfl⟩
          go_wp2_with fail
          refine (HA.out _).mono ?_; rintro e w4 ⟨rfl, hb⟩
          have HZ := Lib.hid (below_then HB2.out hb)
          clear hb
          go_wp2_with fail
          go_ret
          exact ⟨rfl, HZ.out⟩
    · have hE : checkN k s vs = 11 := by
        unfold checkN at hc ⊢
        rw [if_pos hw] at hc ⊢
        by_cases q : vs.all (fun v => decide (v < s.length)) = true
        · rw [if_pos q] at hc; exact absurd rfl hc
        · rw [if_neg q]
      have hex : (∀ j, j < vs.length → vs.getD j 0 < s.length) → False := fun h => hc (check_yes hw h)
      have HEx := Lib.hid hex
      rw [costR_no hc, hE] at HP
      rw [gainR_no hc, hE] at HG
      clear hc hok hlen hp h1 h2 hw hE hex
      go_enter Try.func3, Try.ntmps3
      go_wp2_with fail
      refine Calls.mono HP.out ?_; rintro e w1 ⟨rfl, hb⟩
      have HB1 := Lib.hid hb
      clear hb HP
      go_wp2_with fail
      refine Calls.mono (HG.out _ HB1.out) ?_; rintro e w2 ⟨rfl, hb⟩
      have HB2 := Lib.hid (below_then HB1.out hb)
      clear hb HG HB1
      go_wp2_with fail
      refine Calls.mono (HW.out _ HB2.out) ?_; rintro e w3 ⟨rfl, rfl⟩
      clear HW
      go_wp2_with fail
      go_loopw [12, 11] (fun iv xv wr => ∃ (j : Nat) (x : Int), j ≤ vs.length ∧ iv = .int .i64 j ∧ xv = .int .i64 x ∧ wr = w2 ∧ Hid ((x = 0 ∧ ∀ i, i < j → vs.getD i 0 < s.length) ∨ x = 11)) (fun iv _ _ => vs.length - (intOf iv).toNat)
      case atStart => exact ⟨0, 0, Nat.zero_le _, rfl, rfl, by trivial, Lib.hid (.inl ⟨rfl, fun i hi => by omega⟩)⟩
      case round =>
        obtain ⟨j, x, hj, rfl, rfl, rfl, HX⟩ := hrel
        rcases HX.out with ⟨rfl, hgo⟩ | rfl
        · by_cases hlt : j < vs.length
          · have hlt' : (j : Int) < (vs.length : Int) := by omega
            obtain ⟨b0, off, rfl, hc0⟩ := Msk.at (HU.out.below HB2.out) hlt
            have hx := HBd.out.getD j
            by_cases hv : vs.getD j 0 < s.length
            · have HX2 := Lib.hid (show ((0 : Int) = 0 ∧ ∀ i, i < j + 1 → vs.getD i 0 < s.length) ∨ (0 : Int) = 11 from .inl ⟨rfl, fun i hi => if e : i = j then e ▸ hv else hgo i (by omega)⟩)
              clear hgo HX
              generalize vs.getD j 0 = x at *
              have hg : ¬ (s.length : Int) ≤ (x : Int) := by omega
              have hcw : IntKind.i64.wrap (x : Int) = (x : Int) := IntWalk.i64_in _ (by omega)
              clear hv
              go_wp2_with fail
              go_roundw
              case rel => exact ⟨j + 1, 0, by omega, by go_num, rfl, by trivial, HX2⟩
              case measure => simp [intOf]; omega
            · clear hgo HX
              generalize vs.getD j 0 = x at *
              have hg : (s.length : Int) ≤ (x : Int) := by omega
              have hcw : IntKind.i64.wrap (x : Int) = (x : Int) := IntWalk.i64_in _ (by omega)
              clear hv
              go_wp2_with fail
              go_roundw
              case rel => exact ⟨j + 1, 11, by omega, by go_num, rfl, by trivial, Lib.hid (.inr rfl)⟩
              case measure => simp [intOf]; omega
          · exact (HEx.out fun i hi => hgo i (by omega)).elim
        · clear HX HEx
          go_wp2_with fail
          refine (HA.out _).mono ?_; rintro e w4 ⟨rfl, hb⟩
          have HZ := Lib.hid (below_then HB2.out hb)
          clear hb
          go_wp2_with fail
          go_ret
          exact ⟨rfl, HZ.out⟩
set_option maxRecDepth 100000 in
theorem lifted (os : Os) (started : os.Started) (H : Type) (enc : TypeId × Value → H) :
    ReturnsInHanded {} Try.checked os 3 .any (Rows.adviseCostsSpec.pre6 enc Try.prog Try.f3 Rows.adviseCostsRow.domain false) (Rows.adviseCostsSpec.post enc Try.prog Try.f3 false true false false) := by
  refine returnsInHanded_of_change (C := Try.checked) own started (by kernel_rfl) Try.func3
    (ChangeSpec.witness6 (enc := enc) (C := Try.checked) false ⟨#[], #[.int .i64 0, .slice none 0 0, .slice none 0 0], []⟩ 8 (by kernel_rfl) (by kernel_rfl) (by kernel_rfl) (by kernel_rfl)) ?_
  intro W base args ds gs before hval0 hW hcnd _
  have hval : ∀ (j : Nat) t v, Try.f3.params[j]? = some t → args[j]? = some v → Value.okWide Try.prog W .any base t v := hval0
  have hW' := hW
  obtain ⟨p, q, hA0, hV, rfl, hfz, hnd⟩ := hW
  have hA : DataW.TrodAll enc Try.prog W 0 (fun _ => true) true Try.f3.params.toList args.toList ds p := hA0
  rw [Try.params3] at hA hval
  obtain ⟨v0, vs0, d0, ds0, p0, q0, hargs, rfl, rfl, h0, r0⟩ := trodAll_cons hA
  obtain ⟨v1, vs1, d1, ds1, p1, q1, rfl, rfl, rfl, h1, r1⟩ := trodAll_cons r0
  obtain ⟨v2, vs2, d2, ds2, p2, q2, rfl, rfl, rfl, h2, r2⟩ := trodAll_cons r1
  obtain ⟨rfl, rfl, rfl⟩ := trodAll_nil r2
  obtain rfl : args = #[v0, v1, v2] := by cases args; simp_all
  obtain ⟨rfl, rfl⟩ := trodVars_none hV
  obtain ⟨a0, rfl, rfl, rfl, w0⟩ := open_int Try.underlying3 (hval 0 3 v0 rfl rfl) h0
  obtain ⟨a1, len1, cap1, rfl⟩ := okWide_slice Try.underlying22 (hval 1 22 v1 rfl rfl)
  have k1 := h1
  have lt1 : ∀ x ∈ p1, x.block < W.heap.size := by obtain ⟨m, hm⟩ := k1; exact DataW.trod_lt m _ _ _ hm
  obtain ⟨z1, w1⟩ : ∃ zs, Given .i64 W (.slice a1 len1 cap1) zs := by
    obtain ⟨fuel, hf⟩ := h1
    rcases open_ints Try.underlying22 Try.underlying2 (by kernel_rfl) hf with ⟨hcs, _⟩ | ⟨x, l, c, zs, hcs, _, hl, hm, hz, _, hcell, hwz⟩
    · simp [Value.cells] at hcs
      obtain ⟨rfl, rfl, rfl⟩ := hcs
      exact ⟨[], given_nil⟩
    · simp [Value.cells] at hcs
      obtain ⟨rfl, rfl, rfl⟩ := hcs
      exact ⟨_, given_row hl (by simpa using hz) hcell hwz⟩
  obtain ⟨a2, len2, cap2, rfl⟩ := okWide_slice Try.underlying23 (hval 2 23 v2 rfl rfl)
  have k2 := h2
  have lt2 : ∀ x ∈ p2, x.block < W.heap.size := by obtain ⟨m, hm⟩ := k2; exact DataW.trod_lt m _ _ _ hm
  obtain ⟨z2, w2⟩ : ∃ zs, Given .u32 W (.slice a2 len2 cap2) zs := by
    obtain ⟨fuel, hf⟩ := h2
    rcases open_ints Try.underlying23 Try.underlying29 (by kernel_rfl) hf with ⟨hcs, _⟩ | ⟨x, l, c, zs, hcs, _, hl, hm, hz, _, hcell, hwz⟩
    · simp [Value.cells] at hcs
      obtain ⟨rfl, rfl, rfl⟩ := hcs
      exact ⟨[], given_nil⟩
    · simp [Value.cells] at hcs
      obtain ⟨rfl, rfl, rfl⟩ := hcs
      exact ⟨_, given_row hl (by simpa using hz) hcell hwz⟩
  clear hA0 hval0
  refine (walk a0 a1 len1 cap1 z1 a2 len2 cap2 z2 W w0 w1 w2).mono fun e W' ⟨he, bel⟩ => ?_
  subst he
  exact ⟨_, rfl, _, _, _, [], _, [], hW', trodAll_mk1 (shut_bool Try.underlying4 _), (trodAll_cons_mk (shut_int Try.underlying3 w0) (trodAll_cons_mk (Below.trod laidOut (by kernel_rfl) (of_decide_eq_true (by kernel_rfl)) k1 bel lt1) (trodAll_cons_mk (Below.trod laidOut (by kernel_rfl) (of_decide_eq_true (by kernel_rfl)) k2 bel lt2) trodAll_mk0))), rfl, bel.frame _, fun h => by cases h⟩

theorem over : Rows.adviseCostsRow.holds Try.pinned (OpenSpec.ofChange Rows.adviseCostsSpec) :=
  OpenClaim.holds_of_wide 3 Try.f3 rfl rfl rfl rfl rfl rfl rfl ⟨rfl, rfl, rfl, rfl, rfl⟩ rfl rfl rfl rfl rfl (by kernel_rfl) Try.func3 (by kernel_rfl)
    (of_decide_eq_true (by kernel_rfl)) (by unfold Func.isWrapper; first | (rw [if_pos (by decide +kernel)]; kernel_rfl) | (rw [if_neg (by decide +kernel)]; exact ⟨rfl, rfl⟩))
    (fun os started H enc _ => lifted os started H enc)
end Go.Proofs.Ytifbmdophoemjaa.adviseCosts
namespace Go.Proofs.Ytifbmdophoemjaa
/-- The statement. -/
theorem adviseCosts_holds : Rows.AdviseCostsSaid := adviseCosts.over
#print axioms adviseCosts_holds
end Go.Proofs.Ytifbmdophoemjaa
