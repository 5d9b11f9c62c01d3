/- LatticeCloses: for any sets and set the statement's function returns true and changes nothing that was there. No condition. -/
import Derived.Test.YtdopgpijbilffaaRows
import Derived.Test.YtdopgpijbilffaaLatp
import Derived.WalkKit
import Derived.ProofKit
import Derived.OpenShut
import Derived.Below
namespace Go.Proofs.Ytdopgpijbilffaa.latticeCloses
set_option maxRecDepth 100000
open Go.ChangeShapes Go.WideShapes Go.ChangeAt Go.RowKit
set_option linter.unusedVariables false
theorem own : ownKnob Try.prog.godebug = none := by kernel_rfl
theorem laidOut : laidOutB Try.prog = true := by kernel_rfl
theorem nat_of32 {x : Int} (h : (Lit.int .u32 x).wf = true) : ∃ n : Nat, x = n ∧ n < 4294967296 := by
  have := wf_u32 h
  exact ⟨x.toNat, by omega, by omega⟩
set_option maxHeartbeats 8000000 in
theorem walk (a0 : Option Addr) (len0 cap0 : Nat) (z0 : List Int) (a1 : Int) (w : World) (w0 : Given .u32 w (.slice a0 len0 cap0) z0) (w1 : (Lit.int .u32 a1).wf = true) :
    Calls Try.prog 6 #[.slice a0 len0 cap0, .int .u32 a1] w fun e w' => e = .returned (.bool true) ∧ Below w.heap.size w w' := by
  have HA := Lib.hid (fun w => awake17_any w)
  have hlen := len_max w0
  obtain ⟨l, hm, hb, hl⟩ := given_msk w0
  obtain rfl : l.length = len0 := by omega
  obtain ⟨a, rfl, ha⟩ := nat_of32 w1
  have HM := Lib.hid hm
  have HBd := Lib.hid hb
  clear w0 w1 hlen hl hm hb
  have HB0 := Lib.hid (Below.refl w.heap.size w)
  by_cases h1 : 200 < l.length
  · have h2 : (200 : Int) < (l.length : Int) := by omega
    go_enter Try.func6, Try.ntmps6
    go_wp2_with fail
    refine (HA.out _).mono ?_; rintro e w1 ⟨rfl, hb⟩
    have HZ := Lib.hid (below_then HB0.out hb)
    clear hb
    go_wp2_with fail
    go_ret
    exact ⟨rfl, HZ.out⟩
  · have h2 : ¬ (200 : Int) < (l.length : Int) := by omega
    by_cases h3 : l.length ≤ 12
    · have h4 : ¬ (12 : Int) < (l.length : Int) := by omega
      have HP := Lib.hid (pclose_any w _ l HM.out HBd.out h3)
      have HC := Lib.hid (fun w1 x (hx : x < 4294967296) (hb1 : Below w.heap.size w w1) => rcom17_any w1 _ l x (HM.out.below hb1) HBd.out hx (by omega))
      have HI := Lib.hid (fun x => com_iff HBd.out x)
      have HCl := Lib.hid (fun x h => @clo_lt l HBd.out x h)
      go_enter Try.func6, Try.ntmps6
      go_wp2_with fail
      refine Calls.mono HP.out ?_; rintro e w2 ⟨⟨v, L, rfl, hp, hmem, hL, hown⟩, hb2⟩
      have HB2 := Lib.hid hb2
      have HU := Lib.hid (msk_of hown)
      have HX := Lib.hid (And.intro hp hmem)
      have HBL := Lib.hid (show Bd L from fun x hx => HCl.out x ((hmem x).1 hx))
      obtain ⟨ua, uc, rfl⟩ := own_slice hown
      clear hp hmem hown hb2 HP
      go_wp2_with fail
      go_loopw [8, 7] (fun iv bv wr => ∃ (k : Nat) (b : Bool), k ≤ L.length ∧ iv = .int .i64 k ∧ bv = .bool b ∧ Hid (b = hasN (L.take k) a) ∧ Hid (Drew w2 wr)) (fun iv _ _ => L.length - (intOf iv).toNat)
      case atStart => exact ⟨0, false, Nat.zero_le _, rfl, rfl, Lib.hid (by rw [List.take_zero]; rfl), Lib.hid (Drew.refl _)⟩
      case round =>
        obtain ⟨k, b, hk, rfl, rfl, HJ, HD⟩ := hrel
        by_cases hlt : k < L.length
        · have hlt' : (k : Int) < (L.length : Int) := by omega
          obtain ⟨b0, off, rfl, hc0⟩ := Msk.at (HU.out.below HD.out.below) hlt
          have hkx := getD_mem17 hlt
          have hx32 := HBL.out.getD k
          have hcom : comN l (L.getD k 0) = true := (HI.out _).2 ((HX.out.2 _).1 hkx)
          have HJ2 := Lib.hid (show (b || decide (L.getD k 0 = a)) = hasN (L.take (k + 1)) a by
            rw [take_next hlt, HJ.out]
            unfold hasN
            rw [List.any_append]
            congr 1
            rw [List.any_cons, List.any_nil, Bool.or_false]
            by_cases q : L.getD k 0 = a
            · rw [q, decide_eq_true rfl]; exact (beq_self_eq_true _).symm
            · rw [decide_eq_false q]; exact (beq_false_of_ne q).symm)
          have HCx := Lib.hid (show ∀ w5, Drew w2 w5 → Calls Try.prog 21 #[.slice a0 l.length cap0, .int .u32 ((L.getD k 0 : Nat) : Int)] w5 fun e w' => e = .returned (.bool true) ∧ w' = w5 from fun w5 hd => by
            refine Calls.mono (HC.out w5 _ hx32 (below_then HB2.out hd.below)) ?_
            rintro e w6 ⟨rfl, rfl⟩
            exact ⟨by rw [hcom], rfl⟩)
          have HN := Lib.hid (fun n => HD.out.then (show Drew wr (wr.drewN n) from ⟨n, rfl⟩))
          have HPr := Lib.hid (show 0 < k → L.getD (k - 1) 0 < L.getD k 0 from fun h0 => by
            have := List.pairwise_iff_getElem.1 HX.out.1 (k - 1) k (by omega) hlt (by omega)
            simpa [List.getD, hlt, show k - 1 < L.length by omega] using this)
          have HPc := Lib.hid (show 0 < k → wr.cell? ⟨b0, off + (k - 1), none⟩ = some (.int .u32 ((L.getD (k - 1) 0 : Nat) : Int)) from fun h0 => by
            obtain ⟨b9, off9, e9, hc9⟩ := Msk.at (HU.out.below HD.out.below) (k := k - 1) (by omega)
            injection e9 with e9
            injection e9 with e8 e7
            subst e8 e7
            exact hc9)
          have heq : (((L.getD k 0 : Nat) : Int) == (a : Int)) = decide (L.getD k 0 = a) := by
            by_cases q : L.getD k 0 = a
            · rw [q, decide_eq_true rfl]; exact beq_self_eq_true _
            · rw [decide_eq_false q, beq_eq_false_iff_ne]; omega
          clear hkx hcom
          generalize decide (L.getD k 0 = a) = dq at *
          generalize L.getD k 0 = x at *
          by_cases h0 : 0 < k
          · have h0' : (0 : Int) < (k : Int) := by omega
            have hd0 : decide ((0 : Int) < (k : Int)) = true := decide_eq_true h0'
            have hcp := HPc.out h0
            have hpr := HPr.out h0
            generalize L.getD (k - 1) 0 = y at *
            have hle : ¬ (x : Int) ≤ (y : Int) := by omega
            have hlef : decide ((x : Int) ≤ (y : Int)) = false := decide_eq_false hle
            have hm0 : (0 : Int) ≤ (k : Int) - 1 := by omega
            have hm1 : (k : Int) - 1 < (L.length : Int) := by omega
            have hm2 : ((k : Int) - 1).toNat = k - 1 := by omega
            have hm3 : (1 : Int) ≤ (k : Int) := by omega
            have hmw : IntKind.i64.wrap ((k : Int) - 1) = (k : Int) - 1 := IntWalk.i64_in _ (by omega)
            clear HPr HPc
            go_wp2_with fail
            go_quiet ((go_at_call 21; with_reducible exact Calls.quiet_of_same (HCx.out _ (HN.out _))))
            have HD2 := Lib.hid (HN.out nq)
            clear HJ HCl HX HI HC HBL HU HCx HN
            cases b
            · go_wp2_with fail
              go_roundw
              · exact ⟨k + 1, dq, by omega, by go_num, rfl, Lib.hid HJ2.out, HD2⟩
              · simp only [intOf]; omega
            · go_wp2_with fail
              go_roundw
              · exact ⟨k + 1, true, by omega, by go_num, rfl, Lib.hid HJ2.out, HD2⟩
              · simp only [intOf]; omega
          · have h0' : ¬ (0 : Int) < (k : Int) := by omega
            have hd0 : decide ((0 : Int) < (k : Int)) = false := decide_eq_false h0'
            clear HPr HPc
            go_wp2_with fail
            go_quiet ((go_at_call 21; with_reducible exact Calls.quiet_of_same (HCx.out _ (HN.out _))))
            have HD2 := Lib.hid (HN.out nq)
            clear HJ HCl HX HI HC HBL HU HCx HN
            cases b
            · go_wp2_with fail
              go_roundw
              · exact ⟨k + 1, dq, by omega, by go_num, rfl, Lib.hid HJ2.out, HD2⟩
              · simp only [intOf]; omega
            · go_wp2_with fail
              go_roundw
              · exact ⟨k + 1, true, by omega, by go_num, rfl, Lib.hid HJ2.out, HD2⟩
              · simp only [intOf]; omega
        · have hkn : k = L.length := by omega
          subst hkn
          have hlt' : ¬ (L.length : Int) < (L.length : Int) := by omega
          have HB4 := Lib.hid (below_then HB2.out HD.out.below)
          have HBb := Lib.hid (show comN l a = b by
            have h5 := HJ.out
            rw [List.take_length] at h5
            rw [h5]
            cases hh : hasN L a with
            | true => exact (HI.out a).2 ((HX.out.2 a).1 (hasN_iff.1 hh))
            | false =>
              cases hc : comN l a with
              | false => rfl
              | true =>
                have := hasN_iff.2 ((HX.out.2 a).2 ((HI.out a).1 hc))
                rw [hh] at this
                cases this)
          have HCa := Lib.hid (HC.out wr a ha HB4.out)
          rw [HBb.out] at HCa
          clear HJ HBb HC HI HX HU HBL HCl
          have hbb : (b == b) = true := by simp
          go_wp2_with fail
          refine Calls.mono HCa.out ?_; rintro e w7 ⟨rfl, rfl⟩
          cases b
          all_goals (
            go_wp2_with fail
            refine (HA.out _).mono ?_; rintro e w8 ⟨rfl, hb⟩
            have HZ := Lib.hid (below_then HB4.out hb)
            clear hb
            go_wp2_with fail
            go_ret
            exact ⟨rfl, HZ.out⟩)
    · have h4 : (12 : Int) < (l.length : Int) := by omega
      have HP := Lib.hid (pclose_many w (.slice a0 l.length cap0) l.length ⟨_, _, rfl⟩ h3)
      go_enter Try.func6, Try.ntmps6
      go_wp2_with fail
      refine Calls.mono HP.out ?_; rintro e w2 ⟨rfl, rfl⟩
      go_wp2_with fail
      refine (HA.out _).mono ?_; rintro e w6 ⟨rfl, hb⟩
      have HZ := Lib.hid (below_then HB0.out hb)
      clear hb
      go_wp2_with fail
      go_ret
      exact ⟨rfl, HZ.out⟩
set_option maxRecDepth 100000 in
theorem lifted (os : Os) (started : os.Started) (H : Type) (enc : TypeId × Value → H) :
    ReturnsInHanded {} Try.checked os 6 .any (Rows.latticeClosesSpec.pre6 enc Try.prog Try.f6 Rows.latticeClosesRow.domain false) (Rows.latticeClosesSpec.post enc Try.prog Try.f6 false true false false) := by
  refine returnsInHanded_of_change (C := Try.checked) own started (by kernel_rfl) Try.func6
    (ChangeSpec.witness6 (enc := enc) (C := Try.checked) false ⟨#[], #[.slice none 0 0, .int .u32 0], []⟩ 8 (by kernel_rfl) (by kernel_rfl) (by kernel_rfl) (by kernel_rfl)) ?_
  intro W base args ds gs before hval0 hW hcnd _
  have hval : ∀ (j : Nat) t v, Try.f6.params[j]? = some t → args[j]? = some v → Value.okWide Try.prog W .any base t v := hval0
  have hW' := hW
  obtain ⟨p, q, hA0, hV, rfl, hfz, hnd⟩ := hW
  have hA : DataW.TrodAll enc Try.prog W 0 (fun _ => true) true Try.f6.params.toList args.toList ds p := hA0
  rw [Try.params6] at hA hval
  obtain ⟨v0, vs0, d0, ds0, p0, q0, hargs, rfl, rfl, h0, r0⟩ := trodAll_cons hA
  obtain ⟨v1, vs1, d1, ds1, p1, q1, rfl, rfl, rfl, h1, r1⟩ := trodAll_cons r0
  obtain ⟨rfl, rfl, rfl⟩ := trodAll_nil r1
  obtain rfl : args = #[v0, v1] := by cases args; simp_all
  obtain ⟨rfl, rfl⟩ := trodVars_none hV
  obtain ⟨a0, len0, cap0, rfl⟩ := okWide_slice Try.underlying23 (hval 0 23 v0 rfl rfl)
  have k0 := h0
  have lt0 : ∀ x ∈ p0, x.block < W.heap.size := by obtain ⟨m, hm⟩ := k0; exact DataW.trod_lt m _ _ _ hm
  obtain ⟨z0, w0⟩ : ∃ zs, Given .u32 W (.slice a0 len0 cap0) zs := by
    obtain ⟨fuel, hf⟩ := h0
    rcases open_ints Try.underlying23 Try.underlying22 (by kernel_rfl) hf with ⟨hcs, _⟩ | ⟨x, l, c, zs, hcs, _, hl, hm, hz, _, hcell, hwz⟩
    · simp [Value.cells] at hcs
      obtain ⟨rfl, rfl, rfl⟩ := hcs
      exact ⟨[], given_nil⟩
    · simp [Value.cells] at hcs
      obtain ⟨rfl, rfl, rfl⟩ := hcs
      exact ⟨_, given_row hl (by simpa using hz) hcell hwz⟩
  obtain ⟨a1, rfl, rfl, rfl, w1⟩ := open_int Try.underlying22 (hval 1 22 v1 rfl rfl) h1
  clear hA0 hval0
  refine (walk a0 len0 cap0 z0 a1 W w0 w1).mono fun e W' ⟨he, bel⟩ => ?_
  subst he
  exact ⟨_, rfl, _, _, _, [], _, [], hW', trodAll_mk1 (shut_bool Try.underlying4 _), (trodAll_cons_mk (Below.trod laidOut (by kernel_rfl) (of_decide_eq_true (by kernel_rfl)) k0 bel lt0) (trodAll_cons_mk (shut_int Try.underlying22 w1) trodAll_mk0)), rfl, bel.frame _, fun h => by cases h⟩

theorem over : Rows.latticeClosesRow.holds Try.pinned (OpenSpec.ofChange Rows.latticeClosesSpec) :=
  OpenClaim.holds_of_wide 6 Try.f6 rfl rfl rfl rfl rfl rfl rfl ⟨rfl, rfl, rfl, rfl, rfl⟩ rfl rfl rfl rfl rfl (by kernel_rfl) Try.func6 (by kernel_rfl)
    (of_decide_eq_true (by kernel_rfl)) (by unfold Func.isWrapper; first | (rw [if_pos (by decide +kernel)]; kernel_rfl) | (rw [if_neg (by decide +kernel)]; exact ⟨rfl, rfl⟩))
    (fun os started H enc _ => lifted os started H enc)
end Go.Proofs.Ytdopgpijbilffaa.latticeCloses
namespace Go.Proofs.Ytdopgpijbilffaa
/-- The statement. -/
theorem latticeCloses_holds : Rows.LatticeClosesSaid := latticeCloses.over
#print axioms latticeCloses_holds
end Go.Proofs.Ytdopgpijbilffaa

