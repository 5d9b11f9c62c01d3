/- TourneyLeast: for any rows of bytes and any number the statement's function returns true and changes nothing that was there. No condition. -/
import Derived.Test.YtgiekjckfgdfnaaToui
import Derived.ProofKit
namespace Go.Proofs.Ytgiekjckfgdfnaa.tourneyLeast
set_option maxRecDepth 100000
open Go.ChangeShapes Go.WideShapes Go.ChangeAt Go.RowKit
set_option linter.unusedVariables false
theorem own : ownKnob Try.prog.godebug = none := by kernel_rfl
theorem laidOut : laidOutB Try.prog = true := by kernel_rfl
/-- What Least hands back on both sides. -/
theorem two_least {Ls : List (List Int)} {k : Int} {F R : List Nat} (hF : LeastL Ls k F) (hl : R.length = (min k Ls.length).toNat) (hR : PutsL (ltB fun k => Ls.getD k []) Ls.length Ls.length R) : R = F := by
  obtain ⟨⟨L, hp⟩, h⟩ := hF
  exact puts_all (ltB_ord _) hp hR (by rw [hl, h])
theorem few_least {Ls : List (List Int)} {k : Int} {F : List Nat} (hF : LeastL Ls k F) (hn : Ls.length ≤ 100) : F.length ≤ 1000 := by
  rw [hF.2]; omega
set_option maxHeartbeats 8000000 in
theorem walk (v : Value) (Ls : List (List Int)) (k : Int) (w : World) (h : Byss w v Ls) (hbt : ∀ l ∈ Ls, Bt l) (hk : (Lit.int .i64 k).wf = true) :
    Calls Try.prog 3 #[v, .int .i64 k] w fun e w' => e = .returned (.bool true) ∧ Below w.heap.size w w' := by
  have HA := Lib.hid (fun w => awake16_any w)
  have hk2 : -9223372036854775808 ≤ k ∧ k ≤ 9223372036854775807 := by
    simp [Lit.wf, IntKind.min, IntKind.max, IntKind.signed, IntKind.bits] at hk
    omega
  obtain ⟨hk0, hk1⟩ := hk2
  have HB := Lib.hid h
  have HBT := Lib.hid hbt
  obtain ⟨va, vc, rfl, -, hmx, -⟩ := h.r
  clear h hbt hk
  by_cases h1 : 100 < Ls.length
  · have h2 : (100 : Int) < (Ls.length : Int) := by omega
    go_enter Try.func3, Try.ntmps3
    go_wp2_with fail
    refine (HA.out _).mono ?_; rintro e w1 ⟨rfl, b1⟩
    have B1 := Lib.hid b1
    clear b1
    go_wp2_with fail
    go_ret
    exact ⟨rfl, B1.out⟩
  · have h2 : ¬ (100 : Int) < (Ls.length : Int) := by omega
    have HN := Lib.hid (show Ls.length ≤ 100 by omega)
    clear h1
    go_enter Try.func3, Try.ntmps3
    go_wp2_with fail
    go_loopw [5] (fun iv wr => ∃ t : Nat, t ≤ Ls.length ∧ iv = .int .i64 t ∧ Hid (∀ i, i < t → (Ls.getD i []).length ≤ 100) ∧ Hid (wr = w)) (fun iv _ => Ls.length - (intOf iv).toNat)
    case atStart => exact ⟨0, Nat.zero_le _, rfl, Lib.hid (fun i hi => by omega), Lib.hid rfl⟩
    case round =>
      obtain ⟨t, ht, rfl, HJ, HW⟩ := hrel
      obtain rfl := HW.out
      by_cases hl : t < Ls.length
      · have hl' : (t : Int) < (Ls.length : Int) := by omega
        obtain ⟨bb, off, q, rfl, -, cq, Iq⟩ := HB.out.at hl
        obtain ⟨pq, cc, rfl, -⟩ := Iq
        have HJ2 := Lib.hid (fun (e : (Ls.getD t []).length ≤ 100) => show ∀ i, i < t + 1 → (Ls.getD i []).length ≤ 100 from fun i hi => if e2 : i = t then by subst e2; exact e else HJ.out i (by omega))
        generalize (Ls.getD t []).length = z at *
        by_cases hz : 100 < z
        · have hz' : (100 : Int) < (z : Int) := by omega
          go_wp2_with fail
          refine (HA.out _).mono ?_; rintro e w1 ⟨rfl, b1⟩
          have B1 := Lib.hid b1
          clear b1
          go_wp2_with fail
          go_ret
          exact ⟨rfl, B1.out⟩
        · have hz' : ¬ (100 : Int) < (z : Int) := by omega
          have HJ3 := Lib.hid (HJ2.out (by omega))
          go_wp2_with fail
          go_roundw
          case rel => exact ⟨t + 1, by omega, by go_num, HJ3, Lib.hid (by trivial)⟩
          case measure => simp [intOf]; omega
      · have e : t = Ls.length := by omega
        subst e
        have hl' : ¬ (Ls.length : Int) < (Ls.length : Int) := by omega
        have HSm := Lib.hid (show ∀ l ∈ Ls, l.length ≤ 1000 from fun l hl => by
          obtain ⟨i, hi, rfl⟩ := List.getElem_of_mem hl
          have := HJ.out i hi
          have e : Ls.getD i [] = Ls[i] := by simp [List.getD, hi]
          rw [e] at this
          omega)
        have HP := Lib.hid (fun w1 (hb : Below wr.heap.size wr w1) => least_any w1 _ Ls k (HB.out.below hb) HBT.out (by have := HN.out; omega) hk0 hk1)
        have HR := Lib.hid (fun w1 (hb : Below wr.heap.size wr w1) => rleast16_any w1 _ Ls k (HB.out.below hb) HSm.out (by have := HN.out; omega) hk0 hk1)
        have HS := Lib.hid (fun w1 (hb : Below wr.heap.size wr w1) => sort_any w1 _ Ls (HB.out.below hb) HBT.out (by have := HN.out; omega))
        have HR2 := Lib.hid (fun w1 (hb : Below wr.heap.size wr w1) => rleast16_any w1 _ Ls Ls.length (HB.out.below hb) HSm.out (by have := HN.out; omega) (by omega) (by omega))
        clear HJ HB HBT HSm
        go_wp2_with fail
        refine (HP.out _ (Below.refl _ _)).mono ?_; rintro e w2 ⟨⟨u, rfl, F, hF, ho⟩, hb⟩
        have HF := Lib.hid hF
        have HU := Lib.hid (ints_of16 ho)
        have HB2 := Lib.hid hb
        obtain ⟨pa, pc, rfl⟩ := own_any16 ho
        clear hF ho hb HP
        go_wp2_with fail
        refine (HR.out _ HB2.out).mono ?_; rintro e w3 ⟨⟨u, rfl, R, hl, hR, ho⟩, hb⟩
        obtain rfl := two_least HF.out hl hR
        have HI := Lib.hid (rints_any w3 _ _ _ (HU.out.below hb) (ints_of16 ho) (by simpa using few_least HF.out HN.out))
        have HB3 := Lib.hid (below_then HB2.out hb)
        obtain ⟨pb, pd, rfl⟩ := own_any16 ho
        clear hl hR ho hb HR HU HB2 HF
        go_wp2_with fail
        refine HI.out.mono ?_; rintro e w4 ⟨rfl, hb⟩
        have HB4 := Lib.hid (below_then HB3.out hb)
        clear hb HI HB3
        go_wp2_with fail
        refine (HS.out _ HB4.out).mono ?_; rintro e w5 ⟨⟨u, rfl, F2, hF, ho⟩, hb⟩
        have HF := Lib.hid hF
        have HU := Lib.hid (ints_of16 ho)
        have HB5 := Lib.hid (below_then HB4.out hb)
        obtain ⟨pe, pf, rfl⟩ := own_any16 ho
        clear hF ho hb HS HB4
        go_wp2_with fail
        refine (HR2.out _ HB5.out).mono ?_; rintro e w6 ⟨⟨u, rfl, R2, hl, hR, ho⟩, hb⟩
        obtain rfl := two_least HF.out hl hR
        have HI := Lib.hid (rints_any w6 _ _ _ (HU.out.below hb) (ints_of16 ho) (by simpa using few_least HF.out HN.out))
        have HB6 := Lib.hid (below_then HB5.out hb)
        obtain ⟨pg, ph, rfl⟩ := own_any16 ho
        clear hl hR ho hb HR2 HU HB5 HF
        go_wp2_with fail
        refine HI.out.mono ?_; rintro e w7 ⟨rfl, hb⟩
        have HB7 := Lib.hid (below_then HB6.out hb)
        clear hb HI HB6
        go_wp2_with fail
        refine (HA.out _).mono ?_; rintro e w8 ⟨rfl, hb⟩
        have HB8 := Lib.hid (below_then HB7.out hb)
        clear hb HB7
        go_wp2_with fail
        go_ret
        exact ⟨rfl, HB8.out⟩
set_option maxRecDepth 100000 in
theorem lifted (os : Os) (started : os.Started) (H : Type) (enc : TypeId × Value → H) :
    ReturnsInHanded {} Try.checked os 3 .any (Rows.tourneyLeastSpec.pre6 enc Try.prog Try.f3 Rows.tourneyLeastRow.domain false) (Rows.tourneyLeastSpec.post enc Try.prog Try.f3 false true false false) := by
  refine returnsInHanded_of_change (C := Try.checked) own started (by kernel_rfl) Try.func3
    (ChangeSpec.witness6 (enc := enc) (C := Try.checked) false ⟨#[], #[.slice none 0 0, .int .i64 0], []⟩ 8 (by kernel_rfl) (by kernel_rfl) (by kernel_rfl) (by kernel_rfl)) ?_
  intro W base args ds gs before hval0 hW hcnd _
  have hval : ∀ (j : Nat) t v, Try.f3.params[j]? = some t → args[j]? = some v → Value.okWide Try.prog W .any base t v := hval0
  have hW' := hW
  obtain ⟨p, q, hA0, hV, rfl, hfz, hnd⟩ := hW
  have hA : DataW.TrodAll enc Try.prog W 0 (fun _ => true) true Try.f3.params.toList args.toList ds p := hA0
  rw [Try.params3] at hA hval
  obtain ⟨v0, vs0, d0, ds0, p0, q0, hargs, rfl, rfl, h0, r0⟩ := trodAll_cons hA
  obtain ⟨v1, vs1, d1, ds1, p1, q1, rfl, rfl, rfl, h1, r1⟩ := trodAll_cons r0
  obtain ⟨rfl, rfl, rfl⟩ := trodAll_nil r1
  obtain rfl : args = #[v0, v1] := by cases args; simp_all
  obtain ⟨rfl, rfl⟩ := trodVars_none hV
  obtain ⟨a0, len0, cap0, rfl⟩ := okWide_slice Try.underlying22 (hval 0 22 v0 rfl rfl)
  have k0 := h0
  have lt0 : ∀ x ∈ p0, x.block < W.heap.size := by obtain ⟨m, hm⟩ := k0; exact DataW.trod_lt m _ _ _ hm
  obtain ⟨z0, s0, w0⟩ := byss_of h0 ⟨_, _, _, rfl⟩
  obtain ⟨a1, rfl, rfl, rfl, w1⟩ := open_int Try.underlying3 (hval 1 3 v1 rfl rfl) h1
  clear hA0 hval0
  refine (walk (.slice a0 len0 cap0) z0 a1 W s0 w0 w1).mono fun e W' ⟨he, bel⟩ => ?_
  subst he
  exact ⟨_, rfl, _, _, _, [], _, [], hW', trodAll_mk1 (shut_bool Try.underlying4 _), (trodAll_cons_mk (Below.trod laidOut (by kernel_rfl) (of_decide_eq_true (by kernel_rfl)) k0 bel lt0) (trodAll_cons_mk (shut_int Try.underlying3 w1) trodAll_mk0)), rfl, bel.frame _, fun h => by cases h⟩

theorem over : Rows.tourneyLeastRow.holds Try.pinned (OpenSpec.ofChange Rows.tourneyLeastSpec) :=
  OpenClaim.holds_of_wide 3 Try.f3 rfl rfl rfl rfl rfl rfl rfl ⟨rfl, rfl, rfl, rfl, rfl⟩ rfl rfl rfl rfl rfl (by kernel_rfl) Try.func3 (by kernel_rfl)
    (of_decide_eq_true (by kernel_rfl)) (by unfold Func.isWrapper; first | (rw [if_pos (by decide +kernel)]; kernel_rfl) | (rw [if_neg (by decide +kernel)]; exact ⟨rfl, rfl⟩))
    (fun os started H enc _ => lifted os started H enc)
end Go.Proofs.Ytgiekjckfgdfnaa.tourneyLeast
namespace Go.Proofs.Ytgiekjckfgdfnaa
/-- The statement. -/
theorem tourneyLeast_holds : Rows.TourneyLeastSaid := tourneyLeast.over
#print axioms tourneyLeast_holds
end Go.Proofs.Ytgiekjckfgdfnaa

