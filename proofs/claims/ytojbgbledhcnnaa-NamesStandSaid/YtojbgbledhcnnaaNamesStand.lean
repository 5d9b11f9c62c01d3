/- NamesStand: for any slice of texts and any text the statement's function returns true and changes nothing that was there. No condition. -/
import Derived.Test.YtojbgbledhcnnaaNamh
import Derived.ProofKit
import Derived.ChangeMaps5
namespace Go.Proofs.Ytojbgbledhcnnaa.namesStand
set_option maxRecDepth 100000
open Go.ChangeShapes Go.WideShapes Go.ChangeAt Go.RowKit
set_option linter.unusedVariables false
theorem own : ownKnob Try.prog.godebug = none := by kernel_rfl
theorem laidOut : laidOutB Try.prog = true := by kernel_rfl
set_option maxHeartbeats 2000000 in
theorem walk (a0 : Option Addr) (len0 cap0 : Nat) (l : List ByteArray) (s : ByteArray) (w : World) (w0 : GivenS w (.slice a0 len0 cap0) l) (hs : s.size ≤ maxLen) :
    Calls Try.prog 4 #[.slice a0 len0 cap0, .string s] w fun e w' => e = .returned (.bool true) ∧ Below w.heap.size w w' := by
  have HA := Lib.hid (fun w => awake10_any w)
  have hl := w0.len
  by_cases h1 : 100 < len0
  · have h2 : (100 : Int) < (len0 : Int) := by omega
    go_enter Try.func4, Try.ntmps4
    go_wp2_with fail
    refine (HA.out _).mono ?_; rintro e w1 ⟨rfl, b1⟩
    have B1 := Lib.hid b1
    clear b1
    go_wp2_with fail
    go_ret
    exact ⟨rfl, B1.out⟩
  · have h2 : (len0 : Int) ≤ 100 := by omega
    have HP := Lib.hid (place_any _ l s w w0.1)
    have HQ := Lib.hid (rplace_any _ l s w w0.1)
    have HT := Lib.hid (twice_any _ l w w0.1 (by omega) w0.2)
    have HR := Lib.hid (fun w' (hb : Below w.heap.size w w') => rtwice_any _ l w' (w0.1.below hb))
    obtain ⟨⟨a, cap, e, h3, h4, h5⟩, h6⟩ := w0
    injection e with e1 e2 e3
    subst e1 e3 e2
    clear h6
    generalize placeL l s = p at *
    generalize twiceL l = t at *
    have q1 : (p == p) = true := by simp
    have q2 : (t == t) = true := by simp
    rcases h5 with rfl | ⟨b, off, rfl, hlt, hc⟩
    · go_enter Try.func4, Try.ntmps4
      go_wp2_with fail
      refine wp_loop_rounds 1 ?_
      rw [rounds_succ]
      go_wp2_with fail
      refine (HP.out).mono ?_; rintro e w1 ⟨rfl, rfl⟩
      go_wp2_with fail
      refine (HQ.out).mono ?_; rintro e w1 ⟨rfl, rfl⟩
      go_wp2_with fail
      refine (HT.out).mono ?_; rintro e w1 ⟨rfl, b1⟩
      have B1 := Lib.hid b1
      have HR1 := Lib.hid (HR.out _ b1)
      clear b1
      go_wp2_with fail
      refine (HR1.out).mono ?_; rintro e w2 ⟨rfl, b1⟩
      have B2 := Lib.hid (below_then B1.out b1.below)
      clear b1
      go_wp2_with fail
      refine (HA.out _).mono ?_; rintro e w3 ⟨rfl, b1⟩
      have B3 := Lib.hid (below_then B2.out b1)
      clear b1
      go_wp2_with fail
      go_ret
      exact ⟨rfl, B3.out⟩
    · have HC := Lib.hid hc
      clear hc
      go_enter Try.func4, Try.ntmps4
      go_wp2_with fail
      go_loopw [5] (fun i wr => ∃ k : Nat, k ≤ l.length ∧ i = .int .i64 k ∧ w = wr) (fun i _ => l.length - (intOf i).toNat)
      case atStart => exact ⟨0, Nat.zero_le _, rfl, rfl⟩
      case round =>
        obtain ⟨k, hk, rfl, rfl⟩ := hrel
        by_cases hlk : k < l.length
        · have hx := HC.out k hlk
          generalize txt l k = x at *
          by_cases hz : 1000 < x.size
          · have hz2 : (1000 : Int) < (x.size : Int) := by omega
            go_wp2_with fail
            refine (HA.out _).mono ?_; rintro e w1 ⟨rfl, b1⟩
            have B1 := Lib.hid b1
            clear b1
            go_wp2_with fail
            go_ret
            exact ⟨rfl, B1.out⟩
          · have hz2 : (x.size : Int) ≤ 1000 := by omega
            go_wp2_with fail
            go_roundw
            case rel => exact ⟨k + 1, by omega, by go_num, by trivial⟩
            case measure => simp [intOf]; omega
        · have : k = l.length := by omega
          subst this
          go_wp2_with fail
          refine (HP.out).mono ?_; rintro e w1 ⟨rfl, rfl⟩
          go_wp2_with fail
          refine (HQ.out).mono ?_; rintro e w1 ⟨rfl, rfl⟩
          go_wp2_with fail
          refine (HT.out).mono ?_; rintro e w1 ⟨rfl, b1⟩
          have B1 := Lib.hid b1
          have HR1 := Lib.hid (HR.out _ b1)
          clear b1
          go_wp2_with fail
          refine (HR1.out).mono ?_; rintro e w2 ⟨rfl, b1⟩
          have B2 := Lib.hid (below_then B1.out b1.below)
          clear b1
          go_wp2_with fail
          refine (HA.out _).mono ?_; rintro e w3 ⟨rfl, b1⟩
          have B3 := Lib.hid (below_then B2.out b1)
          clear b1
          go_wp2_with fail
          go_ret
          exact ⟨rfl, B3.out⟩
set_option maxRecDepth 100000 in
theorem lifted (os : Os) (started : os.Started) (H : Type) (enc : TypeId × Value → H) :
    ReturnsInHanded {} Try.checked os 4 .any (Rows.namesStandSpec.pre6 enc Try.prog Try.f4 Rows.namesStandRow.domain false) (Rows.namesStandSpec.post enc Try.prog Try.f4 false true false false) := by
  refine returnsInHanded_of_change (C := Try.checked) own started (by kernel_rfl) Try.func4
    (ChangeSpec.witness6 (enc := enc) (C := Try.checked) false ⟨#[], #[.slice none 0 0, .string ByteArray.empty], []⟩ 8 (by kernel_rfl) (by kernel_rfl) (by kernel_rfl) (by kernel_rfl)) ?_
  intro W base args ds gs before hval0 hW hcnd _
  have hval : ∀ (j : Nat) t v, Try.f4.params[j]? = some t → args[j]? = some v → Value.okWide Try.prog W .any base t v := hval0
  have hW' := hW
  obtain ⟨p, q, hA0, hV, rfl, hfz, hnd⟩ := hW
  have hA : DataW.TrodAll enc Try.prog W 0 (fun _ => true) true Try.f4.params.toList args.toList ds p := hA0
  rw [Try.params4] at hA hval
  obtain ⟨v0, vs0, d0, ds0, p0, q0, hargs, rfl, rfl, h0, r0⟩ := trodAll_cons hA
  obtain ⟨v1, vs1, d1, ds1, p1, q1, rfl, rfl, rfl, h1, r1⟩ := trodAll_cons r0
  obtain ⟨rfl, rfl, rfl⟩ := trodAll_nil r1
  obtain rfl : args = #[v0, v1] := by cases args; simp_all
  obtain ⟨rfl, rfl⟩ := trodVars_none hV
  obtain ⟨a0, len0, cap0, rfl⟩ := okWide_slice Try.underlying24 (hval 0 24 v0 rfl rfl)
  have k0 := h0
  have lt0 : ∀ x ∈ p0, x.block < W.heap.size := by obtain ⟨m, hm⟩ := k0; exact DataW.trod_lt m _ _ _ hm
  obtain ⟨z0, w0⟩ : ∃ zs, GivenS W (.slice a0 len0 cap0) zs := by
    obtain ⟨fuel, hf⟩ := h0
    rcases open_strings Try.underlying24 Try.underlying9 (by kernel_rfl) hf with ⟨hcs, _⟩ | ⟨x, l, c, zs, hcs, _, hl, hm, hz, _, hcell, hwz⟩
    · simp [Value.cells] at hcs
      obtain ⟨rfl, rfl, rfl⟩ := hcs
      exact ⟨[], givenS_nil⟩
    · simp [Value.cells] at hcs
      obtain ⟨rfl, rfl, rfl⟩ := hcs
      exact ⟨_, givenS_row hl hm (by simpa using hz) hcell hwz⟩
  obtain ⟨a1, rfl, rfl, rfl, w1⟩ := Go.ChangeMaps.open_string Try.underlying9 (hval 1 9 v1 rfl rfl) h1
  clear hA0 hval0
  refine (walk a0 len0 cap0 z0 a1 W w0 w1).mono fun e W' ⟨he, bel⟩ => ?_
  subst he
  exact ⟨_, rfl, _, _, _, [], _, [], hW', trodAll_mk1 (shut_bool Try.underlying4 _), (trodAll_cons_mk (Below.trod laidOut (by kernel_rfl) (of_decide_eq_true (by kernel_rfl)) k0 bel lt0) (trodAll_cons_mk (Go.ChangeMaps.shut_string Try.underlying9 w1) trodAll_mk0)), rfl, bel.frame _, fun h => by cases h⟩

theorem over : Rows.namesStandRow.holds Try.pinned (OpenSpec.ofChange Rows.namesStandSpec) :=
  OpenClaim.holds_of_wide 4 Try.f4 rfl rfl rfl rfl rfl rfl rfl ⟨rfl, rfl, rfl, rfl, rfl⟩ rfl rfl rfl rfl rfl (by kernel_rfl) Try.func4 (by kernel_rfl)
    (of_decide_eq_true (by kernel_rfl)) (by unfold Func.isWrapper; first | (rw [if_pos (by decide +kernel)]; kernel_rfl) | (rw [if_neg (by decide +kernel)]; exact ⟨rfl, rfl⟩))
    (fun os started H enc _ => lifted os started H enc)
end Go.Proofs.Ytojbgbledhcnnaa.namesStand
namespace Go.Proofs.Ytojbgbledhcnnaa
/-- The statement. -/
theorem namesStand_holds : Rows.NamesStandSaid := namesStand.over
#print axioms namesStand_holds
end Go.Proofs.Ytojbgbledhcnnaa
