/- WholeDivides: for every a, b (int64) and d (uint64) the statement's function returns true and changes nothing that was there. No condition. -/
import Derived.Test.YtbpdgbahallgoaaRows
import Derived.Test.YtbpdgbahallgoaaAwake1
import Derived.WalkKit
import Derived.ProofKit
import Derived.OpenShut
import Derived.Below
namespace Go.Proofs.Ytbpdgbahallgoaa.wholeDivides
open Go.ChangeShapes Go.WideShapes Go.ChangeAt Go.RowKit
set_option linter.unusedVariables false
theorem own : ownKnob Try.prog.godebug = none := by kernel_rfl
set_option maxHeartbeats 1000000 in
theorem walk_zero (a b d : Int) (w : World)
    (HA : Hid (∀ w, Calls Try.prog 18 #[.int .i64 a] w fun e w' => e = .returned (.int .u64 0) ∧ w = w'))
    (HB : Hid (∀ w, Calls Try.prog 18 #[.int .i64 b] w fun e w' => e = .returned (.int .u64 0) ∧ w = w'))
    (HG : Hid (∀ w, Calls Try.prog 30 #[.int .i64 a, .int .i64 b] w fun e w' => e = .returned (.int .u64 0) ∧ ∃ n, w' = w.drewN n)) :
    Calls Try.prog 7 #[.int .i64 a, .int .i64 b, .int .u64 d] w fun e w' => e = .returned (.bool true) ∧ Below w.heap.size w w' := by
  go_enter Try.func7, Try.ntmps7
  go_wp2_with fail
  refine (HG.out _).mono ?_; rintro e w' ⟨rfl, n, rfl⟩
  go_wp2_with fail
  refine (HA.out _).mono ?_; rintro e w' ⟨rfl, rfl⟩
  go_wp2_with fail
  refine (HB.out _).mono ?_; rintro e w' ⟨rfl, rfl⟩
  go_wp2_with fail
  refine (awake_any _).mono ?_; rintro e w' ⟨rfl, hb⟩
  go_wp2_with fail
  go_ret
  exact ⟨rfl, (below_drewN (Below.refl _ _) n).trans hb⟩
set_option maxHeartbeats 1000000 in
theorem walk_some (a b d X Y G : Int) (w : World) (x0 : 0 ≤ X) (x1 : X ≤ 18446744073709551615) (y0 : 0 ≤ Y) (y1 : Y ≤ 18446744073709551615) (g0 : 1 ≤ G) (g1 : G ≤ 18446744073709551615) (d0 : 0 ≤ d) (d1 : d ≤ 18446744073709551615)
    (HA : Hid (∀ w, Calls Try.prog 18 #[.int .i64 a] w fun e w' => e = .returned (.int .u64 X) ∧ w = w'))
    (HB : Hid (∀ w, Calls Try.prog 18 #[.int .i64 b] w fun e w' => e = .returned (.int .u64 Y) ∧ w = w'))
    (HG : Hid (∀ w, Calls Try.prog 30 #[.int .i64 a, .int .i64 b] w fun e w' => e = .returned (.int .u64 G) ∧ ∃ n, w' = w.drewN n))
    (hn : (X == 0) = false ∨ (X == 0) = true ∧ (Y == 0) = false) (ex : (X % G != 0) = false) (ey : (Y % G != 0) = false)
    (hd : (d == 0) = true ∨ (d == 0) = false ∧ ((X % d != 0) = true ∨ (X % d != 0) = false ∧ ((Y % d != 0) = true ∨ (Y % d != 0) = false ∧ (G % d == 0) = true))) :
    Calls Try.prog 7 #[.int .i64 a, .int .i64 b, .int .u64 d] w fun e w' => e = .returned (.bool true) ∧ Below w.heap.size w w' := by
  have gz : (G == 0) = false := by simp; omega
  have gz2 : G ≠ 0 := by omega
  rcases hn with hn | ⟨hn, hn2⟩ <;> rcases hd with hd | ⟨hd, hd2 | ⟨hd2, hd3 | ⟨hd3, hd4⟩⟩⟩
  all_goals
    try (have hdz : d ≠ 0 := by intro e; rw [e] at hd; simp at hd)
    go_enter Try.func7, Try.ntmps7
    go_wp2_with fail
    refine (HG.out _).mono ?_; rintro e w' ⟨rfl, n, rfl⟩
    go_wp2_with fail
    refine (HA.out _).mono ?_; rintro e w' ⟨rfl, rfl⟩
    go_wp2_with fail
    refine (HB.out _).mono ?_; rintro e w' ⟨rfl, rfl⟩
    go_wp2_with fail
    refine (awake_any _).mono ?_; rintro e w' ⟨rfl, hb⟩
    go_wp2_with fail
    go_ret
    exact ⟨rfl, (below_drewN (Below.refl _ _) n).trans hb⟩
theorem nat_zero (x : Nat) (h : x = 0) : ((x : Int) == 0) = true := by simp [h]
theorem walk (a b d : Int) (w0 : (Lit.int .i64 a).wf = true) (w1 : (Lit.int .i64 b).wf = true) (w2 : (Lit.int .u64 d).wf = true) (w : World) :
    Calls Try.prog 7 #[.int .i64 a, .int .i64 b, .int .u64 d] w fun e w' => e = .returned (.bool true) ∧ Below w.heap.size w w' := by
  obtain ⟨a1, a2⟩ := bounds_i64 w0
  obtain ⟨b1, b2⟩ := bounds_i64 w1
  obtain ⟨d1, d2⟩ := bounds_u64 w2
  have HA := Lib.hid (abs_any a a1 a2)
  have HB := Lib.hid (abs_any b b1 b2)
  have HG := Lib.hid (gcd_any a b a1 a2 b1 b2)
  have ka : a.natAbs ≤ 9223372036854775808 := by omega
  have kb : b.natAbs ≤ 9223372036854775808 := by omega
  generalize a.natAbs = x at *
  generalize b.natAbs = y at *
  by_cases h : x = 0 ∧ y = 0
  · obtain ⟨rfl, rfl⟩ := h
    exact walk_zero a b d w HA HB HG
  · have hg : 0 < Nat.gcd x y := by
      rcases Nat.eq_zero_or_pos (Nat.gcd x y) with e | e
      · exact absurd (Nat.gcd_eq_zero_iff.1 e) h
      · exact e
    have hgx := Nat.gcd_dvd_left x y
    have hgy := Nat.gcd_dvd_right x y
    have hgm : Nat.gcd x y ≤ 9223372036854775808 := by
      rcases Nat.eq_zero_or_pos x with e | e
      · exact Nat.le_trans (Nat.le_of_dvd (by omega) hgy) kb
      · exact Nat.le_trans (Nat.le_of_dvd e hgx) ka
    obtain ⟨D, rfl⟩ := Int.eq_ofNat_of_zero_le d1
    have hall : D ∣ x → D ∣ y → D ∣ Nat.gcd x y := fun p q => Nat.dvd_gcd p q
    generalize Nat.gcd x y = g at *
    refine walk_some a b D x y g w (by omega) (by omega) (by omega) (by omega) (by omega) (by omega) (by omega) (by omega) HA HB HG ?_ ?_ ?_ ?_
    · by_cases e : x = 0
      · exact .inr ⟨by simp [e], by simp; omega⟩
      · exact .inl (by simpa using e)
    · have := Nat.mod_eq_zero_of_dvd hgx
      have e : (x : Int) % g = 0 := by omega
      simp [e]
    · have := Nat.mod_eq_zero_of_dvd hgy
      have e : (y : Int) % g = 0 := by omega
      simp [e]
    · by_cases e : D = 0
      · exact .inl (by simp [e])
      · refine .inr ⟨by simpa using e, ?_⟩
        by_cases ex : x % D = 0
        · refine .inr ⟨by have : (x : Int) % D = 0 := by omega
                          simp [this], ?_⟩
          by_cases ey : y % D = 0
          · refine .inr ⟨by have : (y : Int) % D = 0 := by omega
                            simp [this], ?_⟩
            have := Nat.mod_eq_zero_of_dvd (hall (Nat.dvd_of_mod_eq_zero ex) (Nat.dvd_of_mod_eq_zero ey))
            have : (g : Int) % D = 0 := by omega
            simp [this]
          · refine .inl ?_
            have : ¬ (y : Int) % D = 0 := by omega
            simp only [bne_iff_ne]; exact this
        · refine .inl ?_
          have : ¬ (x : Int) % D = 0 := by omega
          simp only [bne_iff_ne]; exact this
set_option maxRecDepth 100000 in
theorem lifted (os : Os) (started : os.Started) (H : Type) (enc : TypeId × Value → H) :
    ReturnsInHanded {} Try.checked os 7 .any (Rows.wholeDividesSpec.pre6 enc Try.prog Try.f7 Rows.wholeDividesRow.domain false) (Rows.wholeDividesSpec.post enc Try.prog Try.f7 false true false false) := by
  refine returnsInHanded_of_change (C := Try.checked) own started (by kernel_rfl) Try.func7
    (ChangeSpec.witness6 (enc := enc) (C := Try.checked) false ⟨#[], #[.int .i64 0, .int .i64 0, .int .u64 0], []⟩ 8 (by kernel_rfl) (by kernel_rfl) (by kernel_rfl) (by kernel_rfl)) ?_
  intro W base args ds gs before hval0 hW hcnd _
  have hval : ∀ (j : Nat) t v, Try.f7.params[j]? = some t → args[j]? = some v → Value.okWide Try.prog W .any base t v := hval0
  have hW' := hW
  obtain ⟨p, q, hA0, hV, rfl, hfz, hnd⟩ := hW
  have hA : DataW.TrodAll enc Try.prog W 0 (fun _ => true) true Try.f7.params.toList args.toList ds p := hA0
  rw [Try.params7] at hA hval
  obtain ⟨v0, vs0, d0, ds0, p0, q0, hargs, rfl, rfl, h0, r0⟩ := trodAll_cons hA
  obtain ⟨v1, vs1, d1, ds1, p1, q1, rfl, rfl, rfl, h1, r1⟩ := trodAll_cons r0
  obtain ⟨v2, vs2, d2, ds2, p2, q2, rfl, rfl, rfl, h2, r2⟩ := trodAll_cons r1
  obtain ⟨rfl, rfl, rfl⟩ := trodAll_nil r2
  obtain rfl : args = #[v0, v1, v2] := by cases args; simp_all
  obtain ⟨rfl, rfl⟩ := trodVars_none hV
  obtain ⟨a0, rfl, rfl, rfl, w0⟩ := open_int Try.underlying2 (hval 0 2 v0 rfl rfl) h0
  obtain ⟨a1, rfl, rfl, rfl, w1⟩ := open_int Try.underlying2 (hval 1 2 v1 rfl rfl) h1
  obtain ⟨a2, rfl, rfl, rfl, w2⟩ := open_int Try.underlying32 (hval 2 32 v2 rfl rfl) h2
  clear hA0 hval0
  simp only [List.append_nil] at hW'
  refine (walk a0 a1 a2 w0 w1 w2 W).mono fun e W' ⟨he, bel⟩ => ?_
  subst he
  exact ⟨_, rfl, _, _, _, [], _, [], hW', trodAll_mk1 (shut_bool Try.underlying4 _), (trodAll_cons_mk (shut_int Try.underlying2 w0) (trodAll_cons_mk (shut_int Try.underlying2 w1) (trodAll_cons_mk (shut_int Try.underlying32 w2) trodAll_mk0))), rfl, bel.frame _, fun h => by cases h⟩

theorem over : Rows.wholeDividesRow.holds Try.pinned (OpenSpec.ofChange Rows.wholeDividesSpec) :=
  OpenClaim.holds_of_wide 7 Try.f7 rfl rfl rfl rfl rfl rfl rfl ⟨rfl, rfl, rfl, rfl, rfl⟩ rfl rfl rfl rfl rfl (by kernel_rfl) Try.func7 (by kernel_rfl)
    (of_decide_eq_true (by kernel_rfl)) (by unfold Func.isWrapper; first | (rw [if_pos (by decide +kernel)]; kernel_rfl) | (rw [if_neg (by decide +kernel)]; exact ⟨rfl, rfl⟩))
    (fun os started H enc _ => lifted os started H enc)
end Go.Proofs.Ytbpdgbahallgoaa.wholeDivides
namespace Go.Proofs.Ytbpdgbahallgoaa
/-- The statement. -/
theorem wholeDivides_holds : Rows.WholeDividesSaid := wholeDivides.over
#print axioms wholeDivides_holds
end Go.Proofs.Ytbpdgbahallgoaa
