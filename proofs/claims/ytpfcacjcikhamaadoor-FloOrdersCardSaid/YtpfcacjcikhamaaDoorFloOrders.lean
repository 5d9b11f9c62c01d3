/- FloOrders: for any two floats the statement's function returns true and changes nothing that was there. No condition; the row lists the two tables of math/bits as the program's text lays them. -/
import Derived.Test.YtpfcacjcikhamaaDoorRows
import Derived.Test.YtpfcacjcikhamaaDoorCards
import Derived.Test.YtpfcacjcikhamaaDoorTie
import Derived.Test.YtpfcacjcikhamaaDoorFlon
import Derived.SevenTiedAt
namespace Go.Proofs.YtpfcacjcikhamaaDoor.floOrders
set_option maxRecDepth 100000
open Go.ChangeShapes Go.WideShapes Go.ChangeAt Go.RowKit
set_option linter.unusedVariables false
theorem three (a b : Nat) : (lessB a b = true ∧ sameB a b = false ∧ lessB b a = false) ∨ (lessB a b = false ∧ sameB a b = true ∧ lessB b a = false) ∨ (lessB a b = false ∧ sameB a b = false ∧ lessB b a = true) := by
  unfold lessB sameB
  rcases Int.lt_trichotomy (keyI a) (keyI b) with h | h | h
  · refine .inl ⟨by simpa using h, by simp; omega, by simp; omega⟩
  · refine .inr (.inl ⟨by simp; omega, by simpa using h, by simp; omega⟩)
  · refine .inr (.inr ⟨by simp; omega, by simp; omega, by simpa using h⟩)
theorem w64_of {a : Nat} (h : (Lit.float .f64 a).wf = true) : W64 a := by
  simpa [Lit.wf, W64] using h
set_option maxHeartbeats 4000000 in
theorem walk (a b : Nat) (wa : (Lit.float .f64 a).wf = true) (wb : (Lit.float .f64 b).wf = true) (w : World) (hT : Tab w) (hT2 : Tab64 w) :
    Calls Tryd.prog 6 #[.float .f64 a, .float .f64 b] w fun e w' => e = .returned (.bool true) ∧ Below w.heap.size w w' := by
  have ha := w64_of wa
  have hb := w64_of wb
  have L1 := Lib.hid (fun w => fless_any a b w ha hb)
  have L2 := Lib.hid (fun w => fless_any b a w hb ha)
  have S1 := Lib.hid (fun w => fsame_any a b w ha hb)
  have L3 := Lib.hid (fun w => rless_any a b w ha hb)
  have S3 := Lib.hid (fun w => rsame_any a b w ha hb)
  have M1 := Lib.hid (fun w => fleast_any a b w ha hb)
  have M2 := Lib.hid (fun w => fmost_any a b w ha hb)
  have M3 := Lib.hid (fun w => rleast_any a b w ha hb)
  have M4 := Lib.hid (fun w => rmost_any a b w ha hb)
  have Sa := Lib.hid (fun w => rsame_any a a w ha ha)
  have Sb := Lib.hid (fun w => rsame_any b b w hb hb)
  have sa : sameB a a = true := by unfold sameB; simp
  have sb : sameB b b = true := by unfold sameB; simp
  rw [sa] at Sa
  rw [sb] at Sb
  have HA : Hid (∀ w1, Drawn w w1 → Calls Tryd.prog 34 #[] w1 fun e w' => e = .returned (.bool true) ∧ Below w.heap.size w w') := Lib.hid (fun w1 h => (awake3_any w1 (hT.call h.below) (hT2.call h.below)).mono (fun e w' ⟨h1, h2⟩ => ⟨h1, h.below.trans (h2.mono h.below.size)⟩))
  clear wa wb ha hb hT hT2 sa sb
  rcases three a b with ⟨h1, h2, h3⟩ | ⟨h1, h2, h3⟩ | ⟨h1, h2, h3⟩
  all_goals
    simp only [h1, h2, h3, if_true, if_false, Bool.false_eq_true] at L1 L2 S1 L3 S3 M1 M2 M3 M4
    clear h1 h2 h3
    go_enter Tryd.func6, Tryd.ntmps6
    go_wp2_with (first
      | ((with_reducible refine (L3.out _).mono ?_); rintro e w' ⟨rfl, n, rfl⟩)
      | ((with_reducible refine (S3.out _).mono ?_); rintro e w' ⟨rfl, n, rfl⟩)
      | ((with_reducible refine (L1.out _).mono ?_); rintro e w' ⟨rfl, rfl⟩)
      | ((with_reducible refine (L2.out _).mono ?_); rintro e w' ⟨rfl, rfl⟩)
      | ((with_reducible refine (S1.out _).mono ?_); rintro e w' ⟨rfl, rfl⟩)
      | ((with_reducible refine (M1.out _).mono ?_); rintro e w' ⟨rfl, rfl⟩)
      | ((with_reducible refine (M2.out _).mono ?_); rintro e w' ⟨rfl, rfl⟩)
      | ((with_reducible refine (M3.out _).mono ?_); rintro e w' ⟨rfl, n, rfl⟩)
      | ((with_reducible refine (M4.out _).mono ?_); rintro e w' ⟨rfl, n, rfl⟩)
      | ((with_reducible refine (Sa.out _).mono ?_); rintro e w' ⟨rfl, n, rfl⟩)
      | ((with_reducible refine (Sb.out _).mono ?_); rintro e w' ⟨rfl, n, rfl⟩)
      | ((with_reducible refine (HA.out _ (by repeat (first | exact Drawn.refl _ | apply Drawn.next))).mono ?_); rintro e w' ⟨rfl, hE⟩))
    go_ret
    exact ⟨rfl, hE⟩
set_option maxRecDepth 100000 in
theorem lifted (os : Os) (started : os.Started) (H : Type) (enc : TypeId × Value → H) :
    ReturnsInHanded {} Tryd.checked os 6 .any (fun w args => (Rows.floOrdersSpec.pre enc Tryd.prog Tryd.f6 [] false w args ∧ laidMetH Tryd.prog laid3 w) ∧ sizedMet enc Tryd.prog Tryd.f6 (OpenSpec.ofChange Rows.floOrdersSpec) false w args)
      (Rows.floOrdersSpec.post enc Tryd.prog Tryd.f6 false true false false) := by
  refine returnsInHanded_of_change_and (C := Tryd.checked) (X := fun w _ => laidMetH Tryd.prog laid3 w) (fun _ _ _ hh h => h.of_heap hh) own2 started (by kernel_rfl) Tryd.func6
    (ChangeSpec.witness_shaped (enc := enc) (C := Tryd.checked) (os := os) (X := fun w _ => laidMetH Tryd.prog laid3 w) false (World.doorLaid Tryd.prog 800 os) #[.float .f64 0, .float .f64 0] 8 rfl (World.shaped_of_RefB (by kernel_rfl) (by kernel_rfl)) (by kernel_rfl) (by kernel_rfl) (by kernel_rfl) (door_met3 os _)) ?_
  intro W base args ds gs before hval0 hW _ _ hL _
  have hTab := tab_of3 hL
  have hTab64 := tab64_of3 hL
  have hval : ∀ (j : Nat) t v, Tryd.f6.params[j]? = some t → args[j]? = some v → Value.okWide Tryd.prog W .any base t v := hval0
  have hW' := hW
  obtain ⟨p, q, hA0, hV, rfl, hfz, hnd⟩ := hW
  have hA : DataW.TrodAll enc Tryd.prog W 0 (fun _ => true) true Tryd.f6.params.toList args.toList ds p := hA0
  rw [Tryd.params6] at hA hval
  obtain ⟨v0, vs0, d0, ds0, p0, q0, hargs, rfl, rfl, h0, r0⟩ := trodAll_cons hA
  obtain ⟨v1, vs1, d1, ds1, p1, q1, rfl, rfl, rfl, h1, r1⟩ := trodAll_cons r0
  obtain ⟨rfl, rfl, rfl⟩ := trodAll_nil r1
  obtain rfl : args = #[v0, v1] := by cases args; simp_all
  obtain ⟨rfl, rfl⟩ := trodVars_none hV
  obtain ⟨a0, rfl, rfl, rfl, w0⟩ := open_float Tryd.underlying53 (hval 0 53 v0 rfl rfl) h0
  obtain ⟨a1, rfl, rfl, rfl, w1⟩ := open_float Tryd.underlying53 (hval 1 53 v1 rfl rfl) h1
  clear hA0 hval0
  simp only [List.append_nil] at hW'
  refine (walk a0 a1 w0 w1 W hTab hTab64).mono fun e W' ⟨he, bel⟩ => ?_
  subst he
  exact ⟨_, rfl, _, _, _, [], _, [], hW', trodAll_mk1 (shut_bool Tryd.underlying4 _), (trodAll_cons_mk (shut_float Tryd.underlying53 w0) (trodAll_cons_mk (shut_float Tryd.underlying53 w1) trodAll_mk0)), rfl, bel.frame _, fun h => by cases h⟩

theorem over : Rows.floOrdersRow.holds Tryd.pinned (OpenSpec.ofChange Rows.floOrdersSpec) :=
  OpenClaim.holds_of_wide 6 Tryd.f6 rfl rfl rfl rfl rfl rfl rfl ⟨rfl, rfl, rfl, rfl, rfl⟩ rfl rfl rfl rfl rfl (by kernel_rfl) Tryd.func6 (by kernel_rfl)
    (of_decide_eq_true (by kernel_rfl)) (by unfold Func.isWrapper; first | (rw [if_pos (by decide +kernel)]; kernel_rfl) | (rw [if_neg (by decide +kernel)]; exact ⟨rfl, rfl⟩))
    (fun os started H enc _ => lifted os started H enc)
theorem row_holds : Rows.FloOrdersSaid := over
end Go.Proofs.YtpfcacjcikhamaaDoor.floOrders
namespace Go.Proofs.YtpfcacjcikhamaaDoor
/-- The statement: the tied card. -/
theorem floOrders_holds : Rows.FloOrdersCardSaid :=
  Claim7.holds_tied_plain_at .later [] [.data, .data] true _ false
    floOrders.row_holds (fun _ h => by cases h) (by kernel_rfl) (fun _ h => by cases h) floOrders_row_tie rfl ⟨rfl, rfl⟩ (by kernel_rfl) rfl
    (fun f fn hf hfn => by
      obtain rfl : f = 6 := Option.some.inj ((show Tryd.prog.funcNamed "bushel/bushellaw03.FloOrders" = some 6 by kernel_rfl).symm.trans hf) |>.symm
      obtain rfl : fn = Tryd.f6 := (Option.some.inj (Tryd.func6.symm.trans hfn)).symm
      exact ⟨by kernel_rfl, fun j t ht => by
        rw [Tryd.params6] at ht
        have hm : t ∈ [53, 53] := by simpa using Array.mem_of_getElem? ht
        have hall : ([53, 53].all fun u => !Tryd.prog.wantsStandIn u) = true := by kernel_rfl
        exact (show Tryd.prog.wantsStandIn t = false by simpa using List.all_eq_true.1 hall t hm)⟩)
    (by kernel_rfl)
#print axioms floOrders_holds
end Go.Proofs.YtpfcacjcikhamaaDoor
