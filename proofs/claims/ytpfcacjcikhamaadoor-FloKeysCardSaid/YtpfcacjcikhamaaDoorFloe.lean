/- Kinds of floats and their order: what the reference returns. -/
import Derived.Test.YtpfcacjcikhamaaDoorFlod
namespace Go.Proofs.YtpfcacjcikhamaaDoor
set_option maxRecDepth 100000
open Go.RowKit
set_option linter.unusedVariables false
/-- Nothing but draws lies between two worlds. -/
def Drawn (w w' : World) : Prop := ∃ n, w' = w.drewN n
theorem Drawn.refl (w : World) : Drawn w w := ⟨0, rfl⟩
theorem Drawn.next {w v : World} (h : Drawn w v) (n : Nat) : Drawn w (v.drewN n) := by
  obtain ⟨k, rfl⟩ := h
  exact ⟨k + n, by simp [World.drewN, Nat.add_assoc]⟩
theorem Drawn.one {w v : World} (h : Drawn w v) : Drawn w v.drew := h.next 1
theorem Drawn.trans {u v w : World} (h : Drawn u v) (k : Drawn v w) : Drawn u w := by
  obtain ⟨n, rfl⟩ := k; exact h.next n
theorem Drawn.below {w v : World} (h : Drawn w v) : Below w.heap.size w v := by
  obtain ⟨k, rfl⟩ := h; exact below_drewN (Below.refl _ _) k
/-- The NaN that a difference of two infinities is. -/
def nanOf (w : World) (x : Nat) : Nat := (Question.nanBits .f64 x x).cut (w.tape w.drawn (Question.nanBits .f64 x x))
theorem nanOf_nan (w : World) (x : Nat) : isNaNB (nanOf w x) = true ∧ W64 (nanOf w x) := by
  have key : ∀ t : Nat, 9218868437227405312 < (t % 2 * 9223372036854775808 + 9218868437227405312 + 1 + t / 2 % 4503599627370495) % 9223372036854775808 ∧ t % 2 * 9223372036854775808 + 9218868437227405312 + 1 + t / 2 % 4503599627370495 < 18446744073709551616 := fun t => by
    have h1 : t / 2 % 4503599627370495 < 4503599627370495 := Nat.mod_lt _ (by decide)
    generalize t / 2 % 4503599627370495 = u at *
    rcases Nat.mod_two_eq_zero_or_one t with h | h <;> rw [h] <;> omega
  have h := key (w.tape w.drawn (Question.nanBits .f64 x x))
  exact ⟨decide_eq_true h.1, h.2⟩
theorem sub_inf {x : Nat} (hx : W64 x) (h : isInfB x = true) : floatBits .sub .f64 x x = none := by
  have hn : notNan x := ⟨hx, by unfold isInfB at h; simp at h; omega⟩
  show Ieee.double.sub x x = none
  unfold Ieee.Format.sub
  rcases word_forms hn with ⟨s, c, q, h1, h2, h3, h4⟩ | ⟨s, h3, h4⟩
  · have := rung_lt h1 h2
    unfold isInfB at h
    simp only [decide_eq_true_eq] at h
    unfold W64 at hx
    unfold skey at h4
    cases s
    · simp only [Bool.false_eq_true, if_false] at h4
      by_cases k : x < 9223372036854775808
      · rw [if_pos k] at h4; omega
      · rw [if_neg k] at h4; omega
    · simp only [if_true] at h4
      by_cases k : x < 9223372036854775808
      · rw [if_pos k] at h4; omega
      · rw [if_neg k] at h4; omega
  · rw [h3]; cases s <;> rfl
theorem sub_fin {x : Nat} (hx : W64 x) (h : isInfB x = false) (hn : isNaNB x = false) : floatBits .sub .f64 x x = some 0 := by
  have hn := notNan_of hx hn
  show Ieee.double.sub x x = some 0
  unfold Ieee.Format.sub
  rcases word_forms hn with ⟨s, c, q, h1, h2, h3, h4⟩ | ⟨s, h3, h4⟩
  · rw [h3]
    simp only [Ieee.Datum.opposite, Ieee.Datum.sum]
    have e : Ieee.signed s c (q - min q q).toNat + Ieee.signed (!s) c (q - min q q).toNat = 0 := by
      rw [Int.min_self, Int.sub_self]
      unfold Ieee.signed
      cases s <;> simp <;> omega
    rw [e]
    cases s <;> rfl
  · unfold isInfB at h
    unfold W64 at hx
    unfold skey at h4
    simp at h
    cases s
    · simp only [Bool.false_eq_true, if_false] at h4
      by_cases k : x < 9223372036854775808
      · rw [if_pos k] at h4; omega
      · rw [if_neg k] at h4; omega
    · simp only [if_true] at h4
      by_cases k : x < 9223372036854775808
      · rw [if_pos k] at h4; omega
      · rw [if_neg k] at h4; omega
theorem run_nan {P : Program} (x : Nat) (h : floatBits .sub .f64 x x = none) (t : TypeId) (w : World) : (binOp .sub t (.float .f64 x) (.float .f64 x)).run P w = .ok (.float .f64 (nanOf w x)) w.drew := by
  have h2 : FloatKind.f64.format.sub x x = none := h
  simp [binOp, Op.floatArith, h2, nanOf, Question.forced]
set_option maxHeartbeats 400000 in
theorem rkind_any (x : Nat) (w : World) (hx : W64 x) :
    Calls Tryd.prog 33 #[.float .f64 x] w fun e w' => e = .returned (.int .i64 (kindI x)) ∧ Drawn w w' := by
  have hZ := zero_test x hx
  unfold kindI
  by_cases hn : isNaNB x = true
  · have hE : (FloatKind.f64.format.order x x != some .eq) = true := by rw [bne_of (ord_nan_l hn x .eq)]; rfl
    rw [hn]
    go_enter Tryd.func33, Tryd.ntmps33
    go_wp2_with fail
    go_ret
    exact ⟨rfl, Drawn.refl _⟩
  · have hn' : isNaNB x = false := by simpa using hn
    have hE : (FloatKind.f64.format.order x x != some .eq) = false := by rw [bne_of (ord_eq (notNan_of hx hn') (notNan_of hx hn'))]; simp
    rw [hn']
    by_cases hi : isInfB x = true
    · have hz : isZeroB x = false := by unfold isInfB at hi; unfold isZeroB; simp at hi ⊢; omega
      rw [hz] at hZ
      rw [hi, hz]
      have hop := fun t w => run_nan (P := Tryd.prog) x (sub_inf hx hi) t w
      have hq : (FloatKind.f64.format.order (nanOf w x) 0 != some .eq) = true := by rw [bne_of (ord_nan_l (nanOf_nan w x).1 0 .eq)]; rfl
      clear hz hi hn' hn
      go_enter Tryd.func33, Tryd.ntmps33
      go_wp2_with (simp only [hop])
      go_ret
      exact ⟨rfl, (Drawn.refl _).one⟩
    · have hi' : isInfB x = false := by simpa using hi
      rw [hi']
      have hop : ∀ t w, (binOp .sub t (.float .f64 x) (.float .f64 x)).run Tryd.prog w = .ok (.float .f64 0) w := fun t w => run_float_arith w .sub t .f64 x x 0 (sub_fin hx hi' hn')
      have hq : (FloatKind.f64.format.order 0 0 != some .eq) = false := by rw [bne_of (ord_eq (x := 0) (y := 0) ⟨by decide, by decide⟩ ⟨by decide, by decide⟩)]; rfl
      generalize isZeroB x = z at *
      clear hi' hi hn' hn
      cases z
      all_goals
        go_enter Tryd.func33, Tryd.ntmps33
        go_wp2_with (simp only [hop])
        go_ret
        exact ⟨rfl, Drawn.refl _⟩
def belowB (x : Nat) : Bool := !isNaNB x && negB x
set_option maxHeartbeats 400000 in
theorem rbelow_any (x : Nat) (w : World) (hx : W64 x) :
    Calls Tryd.prog 67 #[.float .f64 x] w fun e w' => e = .returned (.bool (belowB x)) ∧ w = w' := by
  have hZ := zero_test x hx
  by_cases hn : isNaNB x = true
  · have hL := ord_nan_l hn 0 .lt
    have hz : isZeroB x = false := by have := nan_of hn; unfold isZeroB; simp; omega
    rw [hz] at hZ
    have hr : belowB x = false := by unfold belowB; rw [hn]; rfl
    rw [hr]
    clear hn hz hr
    go_enter Tryd.func67, Tryd.ntmps67
    go_wp2_with fail
    go_ret
    exact ⟨rfl, rfl⟩
  · have hn' : isNaNB x = false := by simpa using hn
    have hr : belowB x = negB x := by unfold belowB; rw [hn']; rfl
    have hL := ord_lt (notNan_of hx hn') (y := 0) ⟨by decide, by decide⟩
    rw [skey_pos (x := 0) (by omega)] at hL
    rw [hr]
    by_cases hz : isZeroB x = true
    · have hz2 : x = 0 ∨ x = 9223372036854775808 := by unfold isZeroB at hz; unfold W64 at hx; simp at hz; omega
      clear hr hn hn' hz hZ hL
      rcases hz2 with rfl | rfl
      · have hop : ∀ t w, (binOp .quo t (.float .f64 4607182418800017408) (.float .f64 0)).run Tryd.prog w = .ok (.float .f64 9218868437227405312) w := fun t w => run_float_arith w .quo t .f64 _ _ _ (by decide +kernel)
        have h1 : (FloatKind.f64.format.order 0 0 == some .lt) = false := by decide +kernel
        have h2 : (FloatKind.f64.format.order 0 0 == some .eq) = true := by decide +kernel
        have h3 : (FloatKind.f64.format.order 9218868437227405312 0 == some .lt) = false := by decide +kernel
        have h4 : negB 0 = false := by decide
        rw [h4]
        clear h4
        go_enter Tryd.func67, Tryd.ntmps67
        go_wp2_with (simp only [hop])
        go_ret
        exact ⟨rfl, rfl⟩
      · have hop : ∀ t w, (binOp .quo t (.float .f64 4607182418800017408) (.float .f64 9223372036854775808)).run Tryd.prog w = .ok (.float .f64 18442240474082181120) w := fun t w => run_float_arith w .quo t .f64 _ _ _ (by decide +kernel)
        have h1 : (FloatKind.f64.format.order 9223372036854775808 0 == some .lt) = false := by decide +kernel
        have h2 : (FloatKind.f64.format.order 9223372036854775808 0 == some .eq) = true := by decide +kernel
        have h3 : (FloatKind.f64.format.order 18442240474082181120 0 == some .lt) = true := by decide +kernel
        have h4 : negB 9223372036854775808 = true := by decide
        rw [h4]
        clear h4
        go_enter Tryd.func67, Tryd.ntmps67
        go_wp2_with (simp only [hop])
        go_ret
        exact ⟨rfl, rfl⟩
    · have hz' : isZeroB x = false := by simpa using hz
      have hN : decide (skey x < ((0 : Nat) : Int)) = negB x := by
        unfold isZeroB at hz'
        unfold W64 at hx
        unfold negB skey
        simp only [decide_eq_false_iff_not] at hz'
        rw [decide_eq_decide]
        by_cases k : x < 9223372036854775808
        · rw [if_pos k]; omega
        · rw [if_neg k]; omega
      rw [hz'] at hZ
      rw [hN] at hL
      generalize negB x = b at *
      clear hN hz hz' hr hn hn'
      cases b
      all_goals
        go_enter Tryd.func67, Tryd.ntmps67
        go_wp2_with fail
        go_ret
        exact ⟨rfl, rfl⟩
def flipN (x : Nat) : Nat := if x < 9223372036854775808 then x + 9223372036854775808 else x - 9223372036854775808
theorem flip_w64 {x : Nat} (hx : W64 x) : W64 (flipN x) := by
  unfold W64 at *
  unfold flipN
  by_cases k : x < 9223372036854775808
  · rw [if_pos k]; omega
  · rw [if_neg k]; omega
theorem neg_flip (x : Nat) (hx : W64 x) : Op.negFloat .f64 x = flipN x := by
  show x ^^^ 2 ^ 63 = flipN x
  unfold W64 at hx
  unfold flipN
  by_cases k : x < 9223372036854775808
  · rw [if_pos k]
    have h := Nat.two_pow_add_eq_or_of_lt (i := 63) (b := x) (by omega) 1
    have h2 : x ^^^ 2 ^ 63 = x ||| 2 ^ 63 := by
      apply Nat.eq_of_testBit_eq
      intro i
      rw [Nat.testBit_xor, Nat.testBit_or, Nat.testBit_two_pow]
      by_cases hi : 63 = i
      · subst hi
        rw [Nat.testBit_lt_two_pow (x := x) (by omega)]; rfl
      · simp [hi]
    rw [h2, Nat.or_comm]
    rw [Nat.mul_one] at h
    rw [← h]; omega
  · rw [if_neg k]
    obtain ⟨y, rfl⟩ : ∃ y, x = 9223372036854775808 + y := ⟨x - 9223372036854775808, by omega⟩
    have h := Nat.two_pow_add_eq_or_of_lt (i := 63) (b := y) (by omega) 1
    rw [Nat.mul_one] at h
    have e : (9223372036854775808 : Nat) = 2 ^ 63 := by decide
    rw [e, h]
    have h2 : (2 ^ 63 ||| y) ^^^ 2 ^ 63 = y := by
      apply Nat.eq_of_testBit_eq
      intro i
      rw [Nat.testBit_xor, Nat.testBit_or, Nat.testBit_two_pow]
      by_cases hi : 63 = i
      · subst hi
        rw [Nat.testBit_lt_two_pow (x := y) (by omega)]; rfl
      · simp [hi]
    rw [h2, ← h]; omega
theorem run_neg {P : Program} (x : Nat) (hx : W64 x) (w : World) : (Op.unary .neg (.float .f64 x)).run P w = .ok (.float .f64 (flipN x)) w := by
  rw [← neg_flip x hx]; rfl
def signN (neg : Bool) (x : Nat) : Nat := if neg then flipN x else x
theorem rsign_any (b : Bool) (x : Nat) (w : World) (hx : W64 x) :
    Calls Tryd.prog 70 #[.bool b, .float .f64 x] w fun e w' => e = .returned (.float .f64 (signN b x)) ∧ w = w' := by
  have hU : ∀ w, (Op.unary .neg (.float .f64 x)).run Tryd.prog w = .ok (.float .f64 (flipN x)) w := fun w => run_neg x hx w
  unfold signN
  cases b
  all_goals
    go_enter Tryd.func70, Tryd.ntmps70
    go_wp2
    go_ret
    exact ⟨rfl, rfl⟩
end Go.Proofs.YtpfcacjcikhamaaDoor
