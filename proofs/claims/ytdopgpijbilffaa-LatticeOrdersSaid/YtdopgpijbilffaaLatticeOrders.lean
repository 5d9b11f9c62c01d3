/- LatticeOrders: for any sets the statement's function returns true and changes nothing that was there. No condition. -/
import Derived.Test.YtdopgpijbilffaaRows
import Derived.Test.YtdopgpijbilffaaLatp
import Derived.WalkKit
import Derived.ProofKit
import Derived.OpenShut
import Derived.Below
namespace Go.Proofs.Ytdopgpijbilffaa.latticeOrders
set_option maxRecDepth 100000
open Go.ChangeShapes Go.WideShapes Go.ChangeAt Go.RowKit
set_option linter.unusedVariables false
theorem own : ownKnob Try.prog.godebug = none := by kernel_rfl
theorem laidOut : laidOutB Try.prog = true := by kernel_rfl
theorem nat_of32 {x : Int} (h : (Lit.int .u32 x).wf = true) : ∃ n : Nat, x = n ∧ n < 4294967296 := by
  have := wf_u32 h
  exact ⟨x.toNat, by omega, by omega⟩
set_option maxHeartbeats 8000000 in
theorem walk (a0 : Option Addr) (len0 cap0 : Nat) (z0 : List Int) (w : World) (w0 : Given .u32 w (.slice a0 len0 cap0) z0) :
    Calls Try.prog 4 #[.slice a0 len0 cap0] w fun e w' => e = .returned (.bool true) ∧ Below w.heap.size w w' := by
  have HA := Lib.hid (fun w => awake17_any w)
  have hlen := len_max w0
  obtain ⟨l, hm, hb, hl⟩ := given_msk w0
  obtain rfl : l.length = len0 := by omega
  clear w0 hlen hl
  have HB0 := Lib.hid (Below.refl w.heap.size w)
  by_cases h1 : 100 < l.length
  · have h2 : (100 : Int) < (l.length : Int) := by omega
    clear hm
    go_enter Try.func4, Try.ntmps4
    go_wp2_with fail
    refine (HA.out _).mono ?_; rintro e w1 ⟨rfl, hb⟩
    have HZ := Lib.hid (below_then HB0.out hb)
    clear hb
    go_wp2_with fail
    go_ret
    exact ⟨rfl, HZ.out⟩
  · have h2 : ¬ (100 : Int) < (l.length : Int) := by omega
    have HP := Lib.hid (porder_any w _ l hm hb (by omega))
    have HR := Lib.hid (fun w1 (hb1 : Below w.heap.size w w1) => rorder17_any w1 _ l (Msk.below hm hb1) hb (by omega))
    have HM := Lib.hid (fun w u v l hu hv hl => masks17_any u v l w hu hv hl)
    clear hm
    go_enter Try.func4, Try.ntmps4
    go_wp2_with fail
    refine Calls.mono HP.out ?_; rintro e w1 ⟨⟨u, rfl, hu, hown⟩, hb1⟩
    have HB1 := Lib.hid hb1
    have HU := Lib.hid (msk_of hown)
    have HUl := Lib.hid hu
    obtain ⟨pa, pc, rfl⟩ := own_slice hown
    have HR1 := Lib.hid (HR.out w1 hb1)
    clear hown hu hb1 HP HR
    go_wp2_with fail
    refine Calls.mono HR1.out ?_; rintro e w2 ⟨⟨u, rfl, hu⟩, hb2⟩
    have HB2 := Lib.hid (below_then HB1.out hb2)
    have HM2 := Lib.hid (HM.out w2 _ _ (ordN l 33) (HU.out.below hb2) hu HUl.out)
    obtain ⟨qa, qc, rfl⟩ := hu.len
    clear hu hb2 HR1 HB1 HU HUl HM
    generalize ordN l 33 = O at *
    go_wp2_with fail
    refine Calls.mono HM2.out ?_; rintro e w3 ⟨rfl, hb3⟩
    have HB3 := Lib.hid (below_then HB2.out hb3)
    clear hb3 HB2 HM2
    go_wp2_with fail
    refine (HA.out _).mono ?_; rintro e w4 ⟨rfl, hb⟩
    have HZ := Lib.hid (below_then HB3.out hb)
    clear hb
    go_wp2_with fail
    go_ret
    exact ⟨rfl, HZ.out⟩
set_option maxRecDepth 100000 in
theorem lifted (os : Os) (started : os.Started) (H : Type) (enc : TypeId × Value → H) :
    ReturnsInHanded {} Try.checked os 4 .any (Rows.latticeOrdersSpec.pre6 enc Try.prog Try.f4 Rows.latticeOrdersRow.domain false) (Rows.latticeOrdersSpec.post enc Try.prog Try.f4 false true false false) := by
  refine returnsInHanded_of_change (C := Try.checked) own started (by kernel_rfl) Try.func4
    (ChangeSpec.witness6 (enc := enc) (C := Try.checked) false ⟨#[], #[.slice none 0 0], []⟩ 8 (by kernel_rfl) (by kernel_rfl) (by kernel_rfl) (by kernel_rfl)) ?_
  intro W base args ds gs before hval0 hW hcnd _
  have hval : ∀ (j : Nat) t v, Try.f4.params[j]? = some t → args[j]? = some v → Value.okWide Try.prog W .any base t v := hval0
  have hW' := hW
  obtain ⟨p, q, hA0, hV, rfl, hfz, hnd⟩ := hW
  have hA : DataW.TrodAll enc Try.prog W 0 (fun _ => true) true Try.f4.params.toList args.toList ds p := hA0
  rw [Try.params4] at hA hval
  obtain ⟨v0, vs0, d0, ds0, p0, q0, hargs, rfl, rfl, h0, r0⟩ := trodAll_cons hA
  obtain ⟨rfl, rfl, rfl⟩ := trodAll_nil r0
  obtain rfl : args = #[v0] := by cases args; simp_all
  obtain ⟨rfl, rfl⟩ := trodVars_none hV
  obtain ⟨a0, len0, cap0, rfl⟩ := okWide_slice Try.underlying23 (hval 0 23 v0 rfl rfl)
  have k0 := h0
  have lt0 : ∀ x ∈ p0, x.block < W.heap.size := by obtain ⟨m, hm⟩ := k0; exact DataW.trod_lt m _ _ _ hm
  obtain ⟨z0, w0⟩ : ∃ zs, Given .u32 W (.slice a0 len0 cap0) zs := by
    obtain ⟨fuel, hf⟩ := h0
    rcases open_ints Try.underlying23 Try.underlying22 (by kernel_rfl) hf with ⟨hcs, _⟩ | ⟨x, l, c, zs, hcs, _, hl, hm, hz, _, hcell, hwz⟩
    · simp [Value.cells] at hcs
      obtain ⟨rfl, rfl, rfl⟩ := hcs
      exact ⟨[], given_nil⟩
    · simp [Value.cells] at hcs
      obtain ⟨rfl, rfl, rfl⟩ := hcs
      exact ⟨_, given_row hl (by simpa using hz) hcell hwz⟩
  clear hA0 hval0
  refine (walk a0 len0 cap0 z0 W w0).mono fun e W' ⟨he, bel⟩ => ?_
  subst he
  exact ⟨_, rfl, _, _, _, [], _, [], hW', trodAll_mk1 (shut_bool Try.underlying4 _), (trodAll_cons_mk (Below.trod laidOut (by kernel_rfl) (of_decide_eq_true (by kernel_rfl)) k0 bel lt0) trodAll_mk0), rfl, bel.frame _, fun h => by cases h⟩

theorem over : Rows.latticeOrdersRow.holds Try.pinned (OpenSpec.ofChange Rows.latticeOrdersSpec) :=
  OpenClaim.holds_of_wide 4 Try.f4 rfl rfl rfl rfl rfl rfl rfl ⟨rfl, rfl, rfl, rfl, rfl⟩ rfl rfl rfl rfl rfl (by kernel_rfl) Try.func4 (by kernel_rfl)
    (of_decide_eq_true (by kernel_rfl)) (by unfold Func.isWrapper; first | (rw [if_pos (by decide +kernel)]; kernel_rfl) | (rw [if_neg (by decide +kernel)]; exact ⟨rfl, rfl⟩))
    (fun os started H enc _ => lifted os started H enc)
end Go.Proofs.Ytdopgpijbilffaa.latticeOrders
namespace Go.Proofs.Ytdopgpijbilffaa
/-- The statement. -/
theorem latticeOrders_holds : Rows.LatticeOrdersSaid := latticeOrders.over
#print axioms latticeOrders_holds
end Go.Proofs.Ytdopgpijbilffaa

