/- Kinds of floats, their keys and their order: what the program returns. -/
import Derived.Test.YtpfcacjcikhamaaDoorFloc
import Derived.Lib.Hide
namespace Go.Proofs.YtpfcacjcikhamaaDoor
set_option maxRecDepth 100000
open Go.RowKit
set_option linter.unusedVariables false
theorem w64_mod (x : Nat) : W64 (x % 9223372036854775808) := by unfold W64; omega
theorem isNaN_abs (x : Nat) : isNaNB (x % 9223372036854775808) = isNaNB x := by unfold isNaNB; rw [Nat.mod_mod]
theorem skey_pos {x : Nat} (h : x < 9223372036854775808) : skey x = x := by unfold skey; rw [if_pos h]
theorem skey_neg {x : Nat} (h : 9223372036854775808 ≤ x) : skey x = 9223372036854775808 - x := by unfold skey; rw [if_neg (by omega)]
theorem inf_test (x : Nat) (hx : W64 x) : (FloatKind.f64.format.order (x % 9223372036854775808) 9218868437227405311 == some .gt) = isInfB x := by
  have h9 : notNan 9218868437227405311 := ⟨by decide, by decide⟩
  by_cases h : isNaNB x = true
  · rw [ord_nan_l (by rw [isNaN_abs, h])]
    have := nan_of h
    unfold isInfB
    simp; omega
  · have h' : isNaNB x = false := by simpa using h
    rw [ord_gt (notNan_of (w64_mod x) (by rw [isNaN_abs, h'])) h9, skey_pos (by omega), skey_pos (by omega)]
    have := (notNan_of hx h').2
    unfold isInfB
    rw [decide_eq_decide]; omega
theorem isInf_any (x : Nat) (w : World) (hx : W64 x) :
    Calls Tryd.prog 69 #[.float .f64 x, .int .i64 0] w fun e w' => e = .returned (.bool (isInfB x)) ∧ w = w' := by
  have H := inf_test x hx
  have hA := Lib.hid (fabs_any x w hx)
  go_enter Tryd.func69, Tryd.ntmps69
  go_wp2_with fail
  refine (hA.out).mono ?_; rintro e w' ⟨rfl, rfl⟩
  clear hA
  go_wp2_with fail
  all_goals (go_ret; exact ⟨rfl, rfl⟩)
theorem zero_test (x : Nat) (hx : W64 x) : (FloatKind.f64.format.order x 0 == some .eq) = isZeroB x := by
  have h9 : notNan 0 := ⟨by decide, by decide⟩
  by_cases h : isNaNB x = true
  · rw [ord_nan_l h]
    have := nan_of h
    unfold isZeroB
    simp; omega
  · have h' : isNaNB x = false := by simpa using h
    rw [ord_eq (notNan_of hx h') h9, skey_pos (x := 0) (by omega)]
    unfold W64 at hx
    unfold isZeroB skey
    rw [decide_eq_decide]
    by_cases k : x < 9223372036854775808
    · rw [if_pos k]; omega
    · rw [if_neg k]; omega
/-- 0, 1, 2, 3: a zero, a finite number, an infinity, NaN. -/
def kindI (x : Nat) : Int := if isNaNB x then 3 else if isInfB x then 2 else if isZeroB x then 0 else 1
set_option maxHeartbeats 400000 in
theorem fkind_any (x : Nat) (w : World) (hx : W64 x) :
    Calls Tryd.prog 32 #[.float .f64 x] w fun e w' => e = .returned (.int .i64 (kindI x)) ∧ w = w' := by
  have hA := Lib.hid (isNaN_any x w hx)
  have hB := Lib.hid (isInf_any x w hx)
  have hZ := zero_test x hx
  unfold kindI
  generalize isNaNB x = n at *
  generalize isInfB x = i at *
  generalize isZeroB x = z at *
  cases n <;> cases i <;> cases z
  all_goals
    go_enter Tryd.func32, Tryd.ntmps32
    go_wp2_with fail
    refine (hA.out).mono ?_; rintro e w' ⟨rfl, rfl⟩
    go_wp2_with fail
    first
      | (go_ret; exact ⟨rfl, rfl⟩)
      | (refine (hB.out).mono ?_; rintro e w' ⟨rfl, rfl⟩; go_wp2_with fail; go_ret; exact ⟨rfl, rfl⟩)
/-- The key of a float, by its bits. -/
def keyI (x : Nat) : Int := if isNaNB x then 18446744073709551615 else if negB x then 18446744073709551615 - x else x + 9223372036854775808
theorem key_range {x : Nat} (hx : W64 x) : 0 ≤ keyI x ∧ keyI x ≤ 18446744073709551615 := by
  unfold W64 at hx
  unfold keyI negB
  by_cases h : isNaNB x = true
  · rw [if_pos h]; omega
  · rw [if_neg h]
    by_cases k : 9223372036854775808 ≤ x
    · simp only [k, decide_true, if_true]; omega
    · simp only [k, decide_false, Bool.false_eq_true, if_false]; omega
set_option maxHeartbeats 400000 in
theorem fkey_any (x : Nat) (w : World) (hx : W64 x) :
    Calls Tryd.prog 46 #[.float .f64 x] w fun e w' => e = .returned (.int .u64 (keyI x)) ∧ w = w' := by
  have hA := Lib.hid (isNaN_any x w hx)
  have hS := Lib.hid (signbit_any x w hx)
  have hF := fun w => fbits x w
  have hN := not64 (x : Int) (by omega) (by unfold W64 at hx; omega)
  have hO : negB x = false → bits .or .u64 (x : Int) 9223372036854775808 = x + 9223372036854775808 := fun h => or63 _ (by omega) (by simp [negB] at h; omega)
  unfold keyI
  generalize isNaNB x = n at *
  cases n
  · by_cases hs : negB x = true
    · rw [hs] at hS ⊢
      clear hO
      go_enter Tryd.func46, Tryd.ntmps46
      go_wp2_with fail
      refine (hA.out).mono ?_; rintro e w' ⟨rfl, rfl⟩
      go_wp2_with fail
      refine (hS.out).mono ?_; rintro e w' ⟨rfl, rfl⟩
      go_wp2_with fail
      go_ret
      exact ⟨rfl, rfl⟩
    · have hs' : negB x = false := by simpa using hs
      have hO := hO hs'
      rw [hs'] at hS ⊢
      clear hN
      go_enter Tryd.func46, Tryd.ntmps46
      go_wp2_with fail
      refine (hA.out).mono ?_; rintro e w' ⟨rfl, rfl⟩
      go_wp2_with fail
      refine (hS.out).mono ?_; rintro e w' ⟨rfl, rfl⟩
      go_wp2_with fail
      go_ret
      exact ⟨rfl, rfl⟩
  · clear hN hO
    go_enter Tryd.func46, Tryd.ntmps46
    go_wp2_with fail
    refine (hA.out).mono ?_; rintro e w' ⟨rfl, rfl⟩
    go_wp2_with fail
    go_ret
    exact ⟨rfl, rfl⟩
def sameB (x y : Nat) : Bool := decide (keyI x = keyI y)
def lessB (x y : Nat) : Bool := decide (keyI x < keyI y)
theorem fsame_any (x y : Nat) (w : World) (hx : W64 x) (hy : W64 y) :
    Calls Tryd.prog 39 #[.float .f64 x, .float .f64 y] w fun e w' => e = .returned (.bool (sameB x y)) ∧ w = w' := by
  have hA := Lib.hid (fkey_any x w hx)
  have hB := Lib.hid (fkey_any y w hy)
  unfold sameB
  generalize keyI x = p at *
  generalize keyI y = q at *
  go_enter Tryd.func39, Tryd.ntmps39
  go_wp2_with fail
  refine (hA.out).mono ?_; rintro e w' ⟨rfl, rfl⟩
  go_wp2_with fail
  refine (hB.out).mono ?_; rintro e w' ⟨rfl, rfl⟩
  go_wp2_with fail
  go_ret
  exact ⟨ret_bool (by first | rfl | (rw [Bool.beq_eq_decide_eq]) | grind), rfl⟩
theorem fless_any (x y : Nat) (w : World) (hx : W64 x) (hy : W64 y) :
    Calls Tryd.prog 38 #[.float .f64 x, .float .f64 y] w fun e w' => e = .returned (.bool (lessB x y)) ∧ w = w' := by
  have hA := Lib.hid (fkey_any x w hx)
  have hB := Lib.hid (fkey_any y w hy)
  unfold lessB
  generalize keyI x = p at *
  generalize keyI y = q at *
  go_enter Tryd.func38, Tryd.ntmps38
  go_wp2_with fail
  refine (hA.out).mono ?_; rintro e w' ⟨rfl, rfl⟩
  go_wp2_with fail
  refine (hB.out).mono ?_; rintro e w' ⟨rfl, rfl⟩
  go_wp2_with fail
  go_ret
  exact ⟨rfl, rfl⟩
theorem fleast_any (x y : Nat) (w : World) (hx : W64 x) (hy : W64 y) :
    Calls Tryd.prog 40 #[.float .f64 x, .float .f64 y] w fun e w' => e = .returned (.float .f64 (if lessB y x then y else x)) ∧ w = w' := by
  have hA := Lib.hid (fless_any y x w hy hx)
  generalize lessB y x = l at *
  cases l
  all_goals
    go_enter Tryd.func40, Tryd.ntmps40
    go_wp2_with fail
    refine (hA.out).mono ?_; rintro e w' ⟨rfl, rfl⟩
    go_wp2_with fail
    go_ret
    exact ⟨rfl, rfl⟩
theorem fmost_any (x y : Nat) (w : World) (hx : W64 x) (hy : W64 y) :
    Calls Tryd.prog 42 #[.float .f64 x, .float .f64 y] w fun e w' => e = .returned (.float .f64 (if lessB x y then y else x)) ∧ w = w' := by
  have hA := Lib.hid (fless_any x y w hx hy)
  generalize lessB x y = l at *
  cases l
  all_goals
    go_enter Tryd.func42, Tryd.ntmps42
    go_wp2_with fail
    refine (hA.out).mono ?_; rintro e w' ⟨rfl, rfl⟩
    go_wp2_with fail
    go_ret
    exact ⟨rfl, rfl⟩
theorem fnan_any (w : World) : Calls Tryd.prog 74 #[] w fun e w' => e = .returned (.float .f64 9221120237041090561) ∧ w = w' := by
  have hG := fun n w => ffrom n w
  go_enter Tryd.func74, Tryd.ntmps74
  go_wp2
  all_goals (go_ret; exact ⟨rfl, rfl⟩)
theorem finf_any (w : World) : Calls Tryd.prog 89 #[.int .i64 1] w fun e w' => e = .returned (.float .f64 9218868437227405312) ∧ w = w' := by
  have hG := fun n w => ffrom n w
  go_enter Tryd.func89, Tryd.ntmps89
  go_wp2
  all_goals (go_ret; exact ⟨rfl, rfl⟩)
/-- The float of a key. -/
def fromN (k : Int) : Nat := if k = 18446744073709551615 then 9221120237041090561 else if 9223372036854775808 ≤ k then (k - 9223372036854775808).toNat else (18446744073709551615 - k).toNat
def FromPost (k : Int) (e : Ending) : Prop := (k ≠ 18446744073709551615 ∧ isNaNB (fromN k) = true ∧ e = .returned (.tuple #[.float .f64 0, .bool false])) ∨ ((k = 18446744073709551615 ∨ isNaNB (fromN k) = false) ∧ e = .returned (.tuple #[.float .f64 (fromN k), .bool true]))
set_option maxHeartbeats 1000000 in
theorem ffrom_any (k : Int) (w : World) (h0 : 0 ≤ k) (h1 : k ≤ 18446744073709551615) :
    Calls Tryd.prog 45 #[.int .u64 k] w fun e w' => FromPost k e ∧ w = w' := by
  have hF := fun n w => ffrom n w
  have hw : W64 (fromN k) := by
    unfold W64 fromN
    by_cases e : k = 18446744073709551615
    · rw [if_pos e]; decide
    · rw [if_neg e]
      by_cases g : 9223372036854775808 ≤ k
      · rw [if_pos g]; omega
      · rw [if_neg g]; omega
  by_cases e : k = 18446744073709551615
  · subst e
    have hn := Lib.hid (fnan_any w)
    go_enter Tryd.func45, Tryd.ntmps45
    go_wp2_with fail
    refine (hn.out).mono ?_; rintro e w' ⟨rfl, rfl⟩
    go_wp2_with fail
    go_ret2
    exact ⟨.inr ⟨.inl rfl, rfl⟩, rfl⟩
  · have hN := not64 k h0 h1
    have hA := Lib.hid (isNaN_any (fromN k) w hw)
    by_cases g : 9223372036854775808 ≤ k
    · have hC := clr63 k h0 h1
      rw [show k % 9223372036854775808 = k - 9223372036854775808 by omega] at hC
      have hv : fromN k = (k - 9223372036854775808).toNat := by unfold fromN; rw [if_neg e, if_pos g]
      have hvh := Lib.hid hv
      rw [hv] at hA
      clear hv hw
      by_cases b : isNaNB (k - 9223372036854775808).toNat = true
      · have hb := Lib.hid b
        rw [b] at hA
        clear b
        go_enter Tryd.func45, Tryd.ntmps45
        go_wp2_with fail
        refine (hA.out).mono ?_; rintro e w' ⟨rfl, rfl⟩
        go_wp2_with fail
        go_ret2
        exact ⟨.inl ⟨e, by rw [hvh.out]; exact hb.out, rfl⟩, rfl⟩
      · have hb := Lib.hid (show isNaNB (k - 9223372036854775808).toNat = false by simpa using b)
        rw [hb.out] at hA
        clear b
        go_enter Tryd.func45, Tryd.ntmps45
        go_wp2_with fail
        refine (hA.out).mono ?_; rintro e w' ⟨rfl, rfl⟩
        go_wp2_with fail
        go_ret2
        exact ⟨.inr ⟨.inr (by rw [hvh.out]; exact hb.out), by rw [hvh.out]; rfl⟩, rfl⟩
    · have hv : fromN k = (18446744073709551615 - k).toNat := by unfold fromN; rw [if_neg e, if_neg g]
      have hvh := Lib.hid hv
      rw [hv] at hA
      clear hv hw
      by_cases b : isNaNB (18446744073709551615 - k).toNat = true
      · have hb := Lib.hid b
        rw [b] at hA
        clear b
        go_enter Tryd.func45, Tryd.ntmps45
        go_wp2_with fail
        refine (hA.out).mono ?_; rintro e w' ⟨rfl, rfl⟩
        go_wp2_with fail
        go_ret2
        exact ⟨.inl ⟨e, by rw [hvh.out]; exact hb.out, rfl⟩, rfl⟩
      · have hb := Lib.hid (show isNaNB (18446744073709551615 - k).toNat = false by simpa using b)
        rw [hb.out] at hA
        clear b
        go_enter Tryd.func45, Tryd.ntmps45
        go_wp2_with fail
        refine (hA.out).mono ?_; rintro e w' ⟨rfl, rfl⟩
        go_wp2_with fail
        go_ret2
        exact ⟨.inr ⟨.inr (by rw [hvh.out]; exact hb.out), by rw [hvh.out]; rfl⟩, rfl⟩
end Go.Proofs.YtpfcacjcikhamaaDoor
