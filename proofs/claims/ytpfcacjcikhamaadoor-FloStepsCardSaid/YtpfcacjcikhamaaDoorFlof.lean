/- Which of two floats comes first: what the reference returns. -/
import Derived.Test.YtpfcacjcikhamaaDoorFloe
namespace Go.Proofs.YtpfcacjcikhamaaDoor
set_option maxRecDepth 100000
open Go.RowKit
set_option linter.unusedVariables false
theorem key_cases {x : Nat} (hx : W64 x) : (isNaNB x = true ∧ keyI x = 18446744073709551615) ∨
    (isNaNB x = false ∧ negB x = true ∧ belowB x = true ∧ 9223372036854775808 ≤ x ∧ x ≤ 18442240474082181120 ∧ keyI x = 18446744073709551615 - x ∧ skey x = 9223372036854775808 - x) ∨
    (isNaNB x = false ∧ negB x = false ∧ belowB x = false ∧ x ≤ 9218868437227405312 ∧ keyI x = x + 9223372036854775808 ∧ skey x = x) := by
  by_cases hn : isNaNB x = true
  · exact .inl ⟨hn, by unfold keyI; rw [if_pos hn]⟩
  · have hn' : isNaNB x = false := by simpa using hn
    have h2 := (notNan_of hx hn').2
    unfold W64 at hx
    refine .inr ?_
    by_cases k : 9223372036854775808 ≤ x
    · have hb : negB x = true := by unfold negB; simp [k]
      refine .inl ⟨hn', hb, by unfold belowB; rw [hn', hb]; rfl, k, by omega, ?_, skey_neg k⟩
      unfold keyI
      rw [if_neg hn, if_pos hb]
    · have hb : negB x = false := by unfold negB; simp; omega
      refine .inr ⟨hn', hb, by unfold belowB; rw [hn', hb]; rfl, by omega, ?_, skey_pos (by omega)⟩
      unfold keyI
      rw [if_neg hn, hb, if_neg (by decide)]
theorem kind_nan (x : Nat) : (kindI x == 3) = isNaNB x := by
  unfold kindI
  cases isNaNB x
  · cases isInfB x <;> cases isZeroB x <;> rfl
  · rfl
theorem same_nan {x y : Nat} (hx : W64 x) (hy : W64 y) (h : isNaNB x = true ∨ isNaNB y = true) : sameB x y = (isNaNB x && isNaNB y) := by
  unfold sameB
  rcases key_cases hx with ⟨h1, h2⟩ | ⟨h1, h2, h3, h4, h5, h6, h7⟩ | ⟨h1, h2, h3, h4, h5, h6⟩ <;> rcases key_cases hy with ⟨k1, k2⟩ | ⟨k1, k2, k3, k4, k5, k6, k7⟩ | ⟨k1, k2, k3, k4, k5, k6⟩
  all_goals (rw [h1, k1] at h ⊢; simp at h)
  all_goals (simp; omega)
theorem same_num {x y : Nat} (hx : W64 x) (hy : W64 y) (h1 : isNaNB x = false) (k1 : isNaNB y = false) : sameB x y = ((FloatKind.f64.format.order x y == some .eq) && (belowB x == belowB y)) := by
  rw [ord_eq (notNan_of hx h1) (notNan_of hy k1)]
  unfold sameB
  rcases key_cases hx with ⟨h, h2⟩ | ⟨h, h2, h3, h4, h5, h6, h7⟩ | ⟨h, h2, h3, h4, h5, h6⟩ <;> rcases key_cases hy with ⟨k, k2⟩ | ⟨k, k2, k3, k4, k5, k6, k7⟩ | ⟨k, k2, k3, k4, k5, k6⟩
  all_goals (first | (rw [h1] at h; cases h; done) | (rw [k1] at k; cases k; done) | skip)
  all_goals (rw [h3, k3]; simp; omega)
theorem less_nan_l {x y : Nat} (hx : W64 x) (hy : W64 y) (h : isNaNB x = true) : lessB x y = false := by
  unfold lessB
  have := key_range hy
  unfold keyI at *
  rw [if_pos h]
  simp; omega
theorem less_nan_r {x y : Nat} (hx : W64 x) (hy : W64 y) (h : isNaNB x = false) (k : isNaNB y = true) : lessB x y = true := by
  unfold lessB
  rcases key_cases hx with ⟨h1, h2⟩ | ⟨h1, h2, h3, h4, h5, h6, h7⟩ | ⟨h1, h2, h3, h4, h5, h6⟩ <;> rcases key_cases hy with ⟨k1, k2⟩ | ⟨k1, k2, k3, k4, k5, k6, k7⟩ | ⟨k1, k2, k3, k4, k5, k6⟩
  all_goals (first | (rw [h1] at h; cases h; done) | (rw [k1] at k; cases k; done) | skip)
  all_goals (simp; omega)
theorem less_num {x y : Nat} (hx : W64 x) (hy : W64 y) (h1 : isNaNB x = false) (k1 : isNaNB y = false) : lessB x y = ((FloatKind.f64.format.order x y == some .lt) || ((FloatKind.f64.format.order x y == some .eq) && (belowB x && !belowB y))) := by
  rw [ord_eq (notNan_of hx h1) (notNan_of hy k1), ord_lt (notNan_of hx h1) (notNan_of hy k1)]
  unfold lessB
  rcases key_cases hx with ⟨h, h2⟩ | ⟨h, h2, h3, h4, h5, h6, h7⟩ | ⟨h, h2, h3, h4, h5, h6⟩ <;> rcases key_cases hy with ⟨k, k2⟩ | ⟨k, k2, k3, k4, k5, k6, k7⟩ | ⟨k, k2, k3, k4, k5, k6⟩
  all_goals (first | (rw [h1] at h; cases h; done) | (rw [k1] at k; cases k; done) | skip)
  all_goals (rw [h3, k3, Bool.eq_iff_iff]; simp; omega)
theorem kind_ne (x y : Nat) (h : isNaNB x = true ∨ isNaNB y = true) : (kindI x == kindI y) = (isNaNB x && isNaNB y) := by
  unfold kindI
  revert h
  generalize isNaNB x = a
  generalize isNaNB y = b
  generalize isInfB x = c
  generalize isInfB y = d
  generalize isZeroB x = e
  generalize isZeroB y = f
  intro h
  cases a <;> cases b <;> cases c <;> cases d <;> cases e <;> cases f <;> first | rfl | (simp at h)
set_option maxHeartbeats 1000000 in
theorem rsame_any (x y : Nat) (w : World) (hx : W64 x) (hy : W64 y) :
    Calls Tryd.prog 35 #[.float .f64 x, .float .f64 y] w fun e w' => e = .returned (.bool (sameB x y)) ∧ Drawn w w' := by
  have hA := Lib.hid (fun w => rkind_any x w hx)
  have hB := Lib.hid (fun w => rkind_any y w hy)
  have hC := Lib.hid (fun w => rbelow_any x w hx)
  have hD := Lib.hid (fun w => rbelow_any y w hy)
  have kx := kind_nan x
  have ky := kind_nan y
  by_cases h : isNaNB x = true ∨ isNaNB y = true
  · rw [same_nan hx hy h]
    have hk := kind_ne x y h
    generalize isNaNB x = a at *
    generalize isNaNB y = b at *
    generalize kindI x = p at *
    generalize kindI y = q at *
    clear hC hD
    cases a <;> cases b <;> simp at h
    all_goals
      clear h
      go_enter Tryd.func35, Tryd.ntmps35
      go_wp2_with (first | ((with_reducible refine (hA.out _).mono ?_); rintro e w' ⟨rfl, n, rfl⟩) | ((with_reducible refine (hB.out _).mono ?_); rintro e w' ⟨rfl, n, rfl⟩))
      go_ret
      exact ⟨ret_bool (by simp), by repeat (first | exact Drawn.refl _ | apply Drawn.next)⟩
  · have h1 : isNaNB x = false := by cases e : isNaNB x with | false => rfl | true => exact absurd (.inl e) h
    have h2 : isNaNB y = false := by cases e : isNaNB y with | false => rfl | true => exact absurd (.inr e) h
    rw [same_num hx hy h1 h2]
    rw [h1] at kx
    rw [h2] at ky
    clear h1 h2 h
    generalize kindI x = p at *
    generalize kindI y = q at *
    generalize belowB x = a at *
    generalize belowB y = b at *
    generalize hE : (FloatKind.f64.format.order x y == some .eq) = l at *
    cases l
    all_goals
      go_enter Tryd.func35, Tryd.ntmps35
      go_wp2_with (first | ((with_reducible refine (hA.out _).mono ?_); rintro e w' ⟨rfl, n, rfl⟩) | ((with_reducible refine (hB.out _).mono ?_); rintro e w' ⟨rfl, n, rfl⟩) | ((with_reducible refine (hC.out _).mono ?_); rintro e w' ⟨rfl, rfl⟩) | ((with_reducible refine (hD.out _).mono ?_); rintro e w' ⟨rfl, rfl⟩))
      go_ret
      exact ⟨ret_bool (by simp), by repeat (first | exact Drawn.refl _ | apply Drawn.next)⟩
set_option maxHeartbeats 1000000 in
theorem rless_any (x y : Nat) (w : World) (hx : W64 x) (hy : W64 y) :
    Calls Tryd.prog 37 #[.float .f64 x, .float .f64 y] w fun e w' => e = .returned (.bool (lessB x y)) ∧ Drawn w w' := by
  have hA := Lib.hid (fun w => rkind_any x w hx)
  have hB := Lib.hid (fun w => rkind_any y w hy)
  have hC := Lib.hid (fun w => rbelow_any x w hx)
  have hD := Lib.hid (fun w => rbelow_any y w hy)
  have kx := kind_nan x
  have ky := kind_nan y
  have hz : (isNaNB x = true ∧ lessB x y = false) ∨ (isNaNB x = false ∧ isNaNB y = true ∧ lessB x y = true) ∨ (isNaNB x = false ∧ isNaNB y = false) := by
    cases e : isNaNB x with
    | true => exact .inl ⟨rfl, less_nan_l hx hy e⟩
    | false =>
      cases e2 : isNaNB y with
      | true => exact .inr (.inl ⟨rfl, rfl, less_nan_r hx hy e e2⟩)
      | false => exact .inr (.inr ⟨rfl, rfl⟩)
  rcases hz with ⟨h1, hl⟩ | ⟨h1, h2, hl⟩ | ⟨h1, h2⟩
  · rw [hl]
    rw [h1] at kx
    have kx2 : (kindI x != 3) = false := bne_of kx
    generalize kindI x = p at *
    generalize kindI y = q at *
    clear hC hD h1 hl ky
    go_enter Tryd.func37, Tryd.ntmps37
    go_wp2_with (first | ((with_reducible refine (hA.out _).mono ?_); rintro e w' ⟨rfl, n, rfl⟩) | ((with_reducible refine (hB.out _).mono ?_); rintro e w' ⟨rfl, n, rfl⟩))
    go_ret
    exact ⟨rfl, by repeat (first | exact Drawn.refl _ | apply Drawn.next)⟩
  · rw [hl]
    rw [h1] at kx
    rw [h2] at ky
    have kx2 : (kindI x != 3) = true := bne_of kx
    generalize kindI x = p at *
    generalize kindI y = q at *
    clear hC hD h1 h2 hl
    go_enter Tryd.func37, Tryd.ntmps37
    go_wp2_with (first | ((with_reducible refine (hA.out _).mono ?_); rintro e w' ⟨rfl, n, rfl⟩) | ((with_reducible refine (hB.out _).mono ?_); rintro e w' ⟨rfl, n, rfl⟩))
    go_ret
    exact ⟨rfl, by repeat (first | exact Drawn.refl _ | apply Drawn.next)⟩
  · rw [less_num hx hy h1 h2]
    rw [h1] at kx
    rw [h2] at ky
    clear h1 h2
    generalize kindI x = p at *
    generalize kindI y = q at *
    generalize belowB x = a at *
    generalize belowB y = b at *
    generalize hE : (FloatKind.f64.format.order x y == some .eq) = l at *
    generalize hL : (FloatKind.f64.format.order x y == some .lt) = m at *
    cases l <;> cases m <;> cases a
    all_goals
      go_enter Tryd.func37, Tryd.ntmps37
      go_wp2_with (first | ((with_reducible refine (hA.out _).mono ?_); rintro e w' ⟨rfl, n, rfl⟩) | ((with_reducible refine (hB.out _).mono ?_); rintro e w' ⟨rfl, n, rfl⟩) | ((with_reducible refine (hC.out _).mono ?_); rintro e w' ⟨rfl, rfl⟩) | ((with_reducible refine (hD.out _).mono ?_); rintro e w' ⟨rfl, rfl⟩))
      go_ret
      exact ⟨ret_bool (by simp), by repeat (first | exact Drawn.refl _ | apply Drawn.next)⟩
theorem rleast_any (x y : Nat) (w : World) (hx : W64 x) (hy : W64 y) :
    Calls Tryd.prog 41 #[.float .f64 x, .float .f64 y] w fun e w' => e = .returned (.float .f64 (if lessB y x then y else x)) ∧ Drawn w w' := by
  have hA := Lib.hid (rless_any y x w hy hx)
  generalize lessB y x = l at *
  cases l
  all_goals
    go_enter Tryd.func41, Tryd.ntmps41
    go_wp2_with fail
    refine (hA.out).mono ?_; rintro e w' ⟨rfl, hw⟩
    go_wp2_with fail
    go_ret
    exact ⟨rfl, hw⟩
theorem rmost_any (x y : Nat) (w : World) (hx : W64 x) (hy : W64 y) :
    Calls Tryd.prog 43 #[.float .f64 x, .float .f64 y] w fun e w' => e = .returned (.float .f64 (if lessB x y then y else x)) ∧ Drawn w w' := by
  have hA := Lib.hid (rless_any x y w hx hy)
  generalize lessB x y = l at *
  cases l
  all_goals
    go_enter Tryd.func43, Tryd.ntmps43
    go_wp2_with fail
    refine (hA.out).mono ?_; rintro e w' ⟨rfl, hw⟩
    go_wp2_with fail
    go_ret
    exact ⟨rfl, hw⟩
end Go.Proofs.YtpfcacjcikhamaaDoor
