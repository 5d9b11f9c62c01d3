/- What the conversions and the judgement of the reference's numbers return. -/
import Derived.Test.YtfaglcfoamfelaaRefe
namespace Go.Proofs.Ytfaglcfoamfelaa
open Go.RowKit
def Horner (a : List Int) (k : Nat) (x : Int) : Prop := val a = valN a k + 1000 ^ k * x ∧ 0 ≤ x
theorem Horner.step {a : List Int} {m : Nat} {x : Int} (hd : Dig a) (h : Horner a (m + 1) x) (y : Int) (hy : a.getD m 0 = y) : Horner a m (x * 1000 + y) := by
  obtain ⟨h1, h2⟩ := h
  have h3 := hd.getD m
  rw [hy] at h3
  refine ⟨?_, by omega⟩
  rw [valN, p_succ, hy] at h1
  have e1 : 1000 ^ m * 1000 * x = 1000 ^ m * (x * 1000) := by rw [Int.mul_assoc, Int.mul_comm 1000 x]
  have e2 : 1000 ^ m * (x * 1000 + y) = 1000 ^ m * (x * 1000) + 1000 ^ m * y := Int.mul_add _ _ _
  have e3 : y * 1000 ^ m = 1000 ^ m * y := Int.mul_comm _ _
  omega
theorem Horner.le {a : List Int} {k : Nat} {x : Int} (hd : Dig a) (h : Horner a k x) : x ≤ val a := by
  obtain ⟨h1, h2⟩ := h
  have h3 := (valN_range hd k).1
  have h4 : 1 * x ≤ 1000 ^ k * x := Int.mul_le_mul_of_nonneg_right (by have := p_pos k; omega) h2
  omega
set_option maxHeartbeats 1000000 in
theorem num_uint (v : Value) (z : Int) (w : World) (hv : IsNum w v z) (h1 : -18446744073709551616 < z) (h2 : z < 18446744073709551616) :
    Calls Try.prog 24 #[v] w fun e w' => e = .returned (.int .u64 (z.natAbs : Int)) ∧ Below w.heap.size w w' := by
  obtain ⟨b1, s1, a, rfl, i1, -, g1, y1, -, rfl⟩ := hv
  have hs8 : Sized 8 (signed b1 (val a)) := sized8 (by omega) (by omega)
  have la := len_of_sized (n := 8) g1 y1 hs8
  have hva : val a < 18446744073709551616 := by cases b1 <;> simp [signed] at h1 h2 <;> omega
  have hva0 := (val_range g1).1
  have hab : Hid (((signed b1 (val a)).natAbs : Int) = val a) := Lib.hid (by cases b1 <;> simp [signed] <;> omega)
  have hi := Lib.hid (i1.below (below_one w (.cells #[.bool b1, s1] 24)))
  have hbel := Lib.hid (below_one w (.cells #[.bool b1, s1] 24))
  obtain ⟨p1, c1, rfl, hcap, -⟩ := i1
  have HD := Lib.hid g1
  have HV := Lib.hid hva
  clear h1 h2 y1 g1 hva hs8
  go_enter Try.func24, Try.ntmps24
  go_wp2_with fail
  go_loop [3, 4] (fun x i => ∃ (k : Nat) (y t : Int), Hid (t = (k : Int) - 1) ∧ -1 ≤ t ∧ t ≤ 8 ∧ k ≤ a.length ∧ x = .int .u64 y ∧ i = .int .i64 t ∧ Hid (Horner a k y)) (fun _ i => (intOf i + 1).toNat)
  case atStart => exact ⟨a.length, 0, _, Lib.hid rfl, by omega, by omega, Nat.le_refl _, rfl, rfl, Lib.hid ⟨by simp [val], Int.le_refl _⟩⟩
  case round =>
    obtain ⟨k, y, t, ht, ht1, ht2, hk, rfl, rfl, hH⟩ := hrel
    by_cases h0 : 0 ≤ t
    · obtain ⟨m, rfl⟩ : ∃ m, k = m + 1 := ⟨k - 1, by have := ht.out; omega⟩
      obtain rfl : t = (m : Int) := by have := ht.out; omega
      have hy0 := hH.out.2
      have hst := Lib.hid (fun (d : Int) (hd : a.getD m 0 = d) => hH.out.step HD.out d hd)
      have hdd := HD.out.getD m
      obtain ⟨b, off, hap, hb, hcell⟩ := hi.out.cell (i := m) (by omega)
      subst hap
      generalize hd : a.getD m 0 = d at *
      have hst2 := Lib.hid (hst.out d rfl)
      have hle := hst2.out.le HD.out
      have hlt := HV.out
      clear hst hd hH
      obtain ⟨d1, d2⟩ := hdd
      have hb1 : y * 1000 + d ≤ 18446744073709551615 := by omega
      have hb2 : 0 ≤ y * 1000 := by omega
      clear hle hlt hi
      go_wp2_with fail
      go_round
      case rel => exact ⟨m, y * 1000 + d, m - 1, Lib.hid rfl, by omega, by omega, by omega, rfl, rfl, hst2⟩
      case measure => simp [intOf]
    · obtain rfl : k = 0 := by have := ht.out; omega
      have hE : Hid (val a = y) := Lib.hid (by have := hH.out.1; simp [valN] at this; exact this)
      clear hH hi
      go_wp2_with fail
      go_ret
      exact ⟨ret_int (by rw [hab.out, hE.out]), hbel.out⟩
/-- One box, read; and what is kept. -/
def Box1 (w : World) (N : Nat) (a b : Value) (w' : World) : Prop := w'.cell? ⟨N, 0, none⟩ = some a ∧ w'.cell? ⟨N, 1, none⟩ = some b ∧ Below w.heap.size w w'
theorem Box1.call {w w1 w2 : World} {N : Nat} {a b : Value} (h : Box1 w N a b w1) (hb : Below w1.heap.size w1 w2) : Box1 w N a b w2 :=
  ⟨cell_later hb h.1, cell_later hb h.2.1, h.2.2.trans (hb.mono h.2.2.size)⟩
theorem Box1.drew {w w1 : World} {N : Nat} {a b : Value} (h : Box1 w N a b w1) : Box1 w N a b w1.drew := h.call (Below.refl _ _).drew
theorem Box1.start (w : World) (a b : Value) (T : TypeId) : Box1 w w.heap.size a b (w.alloc (.cells #[a, b] T)) := ⟨by simp [go_sem], by simp [go_sem], below_one w _⟩
set_option maxHeartbeats 1000000 in
theorem num_fits (v : Value) (z : Int) (n : Nat) (w : World) (hv : IsNum w v z) (hz : Sized n z) (h8 : 8 ≤ n) (hn : n ≤ 1099511627770) :
    Calls Try.prog 11 #[v] w fun e w' => e = .returned (.bool (fitB z)) ∧ Below w.heap.size w w' := by
  obtain ⟨b1, p1, l1, c1, rfl⟩ := hv.shape
  have hC := Lib.hid (fun w1 r y (hb : Below w.heap.size w w1) (hr : IsNum w1 r y) (hy : Sized 8 y) => num_cmp _ r z y n w1 (hv.below hb) hr hz (hy.mono h8) hn)
  have hB := Lib.hid (Box1.start w (.bool b1) (.slice p1 l1 c1) 24)
  clear hv hz
  by_cases hlo : -9223372036854775808 ≤ z
  · have k1 : 0 ≤ cmpI z (-9223372036854775808) := cmpI_ge.2 hlo
    have e2 : Hid (fitB z = decide (cmpI z 9223372036854775807 ≤ 0)) := Lib.hid (by
      by_cases h : z ≤ 9223372036854775807
      · rw [fitB_yes hlo h, decide_eq_true (cmpI_le.2 h)]
      · rw [fitB_no (by omega), decide_eq_false (fun e => h (cmpI_le.1 e))])
    go_enter Try.func11, Try.ntmps11
    go_wp2_with fail
    have hk := hB.out.drew
    go_region_held3 (fun w' => w'.cell? ⟨w.heap.size, 0, none⟩ = some (.bool b1) ∧ w'.cell? ⟨w.heap.size, 1, none⟩ = some (.slice p1 l1 c1) ∧ Below w.heap.size w w')
      (exact hk)
      (first
        | (go_at_call 4; refine (of_any _ _ (by decide) (by decide)).mono ?_; rintro e w1 ⟨r, rfl, hr, hb⟩; have hk := hk.call hb)
        | (go_at_call 22; refine (hC.out _ _ _ hk.2.2 hr (sized8 (by decide) (by decide))).mono ?_; rintro e w2 ⟨rfl, hb2⟩; have hk := hk.call hb2; clear hr))
    have hE := hk.2.2
    clear hk
    go_wp2_with fail
    go_ret
    exact ⟨ret_bool e2.out.symm, hE⟩
  · have k1 : ¬ 0 ≤ cmpI z (-9223372036854775808) := fun e => hlo (cmpI_ge.1 e)
    have k2 : decide (0 ≤ cmpI z (-9223372036854775808)) = false := decide_eq_false k1
    have e2 : Hid (fitB z = false) := Lib.hid (fitB_no (by omega))
    go_enter Try.func11, Try.ntmps11
    go_wp2_with fail
    have hk := hB.out.drew
    go_region_with (first
        | (go_at_call 4; refine (of_any _ _ (by decide) (by decide)).mono ?_; rintro e w1 ⟨r, rfl, hr, hb⟩; have hk := hk.call hb; have hk1 := hk.1; have hk2 := hk.2.1)
        | (go_at_call 22; refine (hC.out _ _ _ hk.2.2 hr (sized8 (by decide) (by decide))).mono ?_; rintro e w2 ⟨rfl, hb2⟩; have hk := hk.call hb2; clear hr))
    all_goals
      have hE := hk.2.2
      clear hk
      go_wp2_with fail
      go_ret
      exact ⟨ret_bool e2.out.symm, hE⟩
end Go.Proofs.Ytfaglcfoamfelaa
