/- The power of the reference's numbers. -/
import Derived.Test.YtdnbjaeeebodkaaGreatMul
namespace Go.Proofs.YtdnbjaeeebodkaaGreat
set_option maxRecDepth 100000
open Go.RowKit
theorem sized_pow {s : Nat} {x : Int} (h : Sized s x) (k : Nat) : Sized (s * k + 1) (x ^ k) := by
  have h1 : x.natAbs ≤ 1000 ^ s := by
    obtain ⟨h1, h2⟩ := h
    have e : ((1000 ^ s : Nat) : Int) = (1000 : Int) ^ s := by rw [Int.natCast_pow]; rfl
    omega
  have h2 : (x ^ k).natAbs = x.natAbs ^ k := Int.natAbs_pow x k
  have h3 : x.natAbs ^ k ≤ (1000 ^ s) ^ k := Nat.pow_le_pow_left h1 k
  rw [← Nat.pow_mul] at h3
  have h4 : 0 < 1000 ^ (s * k) := Nat.pow_pos (by decide)
  have h5 : 1000 ^ (s * k + 1) = 1000 ^ (s * k) * 1000 := Nat.pow_succ ..
  have e : ((1000 ^ (s * k + 1) : Nat) : Int) = (1000 : Int) ^ (s * k + 1) := by rw [Int.natCast_pow]; rfl
  unfold Sized
  omega
theorem sized_one {s : Nat} : Sized (s + 1) 1 := by
  have := p_pos s
  unfold Sized
  rw [p_succ]; omega
/-- Two variables that hold a number each, read; and what is kept. -/
def Held2 (w : World) (R N M : Nat) (a b c d : Value) (w' : World) : Prop :=
  w'.cell? ⟨N, 0, none⟩ = some a ∧ w'.cell? ⟨N, 1, none⟩ = some b ∧ w'.cell? ⟨M, 0, none⟩ = some c ∧ w'.cell? ⟨M, 1, none⟩ = some d ∧ Kept w R 108 w' ∧ R ≠ N ∧ R ≠ M
theorem Held2.call {w w1 w2 : World} {R N M : Nat} {a b c d : Value} (h : Held2 w R N M a b c d w1) (hb : Below w1.heap.size w1 w2) : Held2 w R N M a b c d w2 :=
  ⟨cell_later hb h.1, cell_later hb h.2.1, cell_later hb h.2.2.1, cell_later hb h.2.2.2.1, h.2.2.2.2.1.call hb, h.2.2.2.2.2⟩
theorem Held2.drew {w w1 : World} {R N M : Nat} {a b c d : Value} (h : Held2 w R N M a b c d w1) : Held2 w R N M a b c d w1.drew := h.call (Below.refl _ _).drew
theorem Held2.store {w w1 : World} {R N M : Nat} {a b c d : Value} (h : Held2 w R N M a b c d w1) (u v : Value) : Held2 w R N M a b c d ((w1.setCell ⟨R, 0, none⟩ u).setCell ⟨R, 1, none⟩ v) := by
  obtain ⟨h1, h2, h3, h4, h5, h6, h7⟩ := h
  refine ⟨?_, ?_, ?_, ?_, h5.store u v, h6, h7⟩
  · rw [World.cell?_setCell_far _ _ _ _ h6, World.cell?_setCell_far _ _ _ _ h6]; exact h1
  · rw [World.cell?_setCell_far _ _ _ _ h6, World.cell?_setCell_far _ _ _ _ h6]; exact h2
  · rw [World.cell?_setCell_far _ _ _ _ h7, World.cell?_setCell_far _ _ _ _ h7]; exact h3
  · rw [World.cell?_setCell_far _ _ _ _ h7, World.cell?_setCell_far _ _ _ _ h7]; exact h4
set_option maxHeartbeats 1000000 in
theorem power_zero (v : Value) (x i : Int) (w : World) (hv : IsNum w v x) (hi : i ≤ 0) :
    Calls Tryz.prog 123 #[v, .int .i64 i] w (MadeNum w 1) := by
  obtain ⟨b1, p1, l1, c1, rfl⟩ := hv.shape
  have hk0 := Lib.hid (Kept.start (w.alloc (.cells #[.bool b1, .slice p1 l1 c1] 108)) (.bool false) (.slice none 0 0) 108)
  clear hv
  go_enter Tryz.func123, Tryz.ntmps123
  go_wp2_with fail
  refine (nat_any 1 _ (by decide) (by decide)).mono ?_; rintro e w4 ⟨q, rfl, hq, hb4⟩
  have hk := hk0.out.call hb4
  simp only [World.size_alloc] at hk
  clear hb4 hk0
  obtain ⟨rn, rp, rl, rc, rfl⟩ := hq.shape
  obtain ⟨⟨x1, hx1⟩, ⟨y1, hy1⟩, hf1, hf2⟩ := hk.cells
  have hN := hk.num hq
  have hE := (hk.store (.bool rn) (.slice rp rl rc)).1
  clear hk hq
  go_wp2_with fail
  refine bodyPost_ret (v := .agg #[.bool rn, .slice rp rl rc]) (by simp [results, Tryz.results123, go_sem, hx1, hy1]) rfl ⟨_, rfl, hN, ?_⟩
  exact (below_one w _).trans (hE.mono (by simp))
theorem Kept.down {w w1 w2 : World} {R : Nat} {T : TypeId} (h : Kept w1 R T w2) (hb : Below w.heap.size w w1) : Kept w R T w2 := by
  obtain ⟨h1, h2, h3⟩ := h
  exact ⟨hb.trans (h1.mono hb.size), by have := hb.size; omega, h3⟩
/-- What is held when the half's power has been stored. -/
theorem power_held {w w1 : World} {a b c d u v : Value} (hb : Below ((w.alloc (.cells #[a, b] 108)).alloc (.cells #[u, v] 108)).heap.size ((w.alloc (.cells #[a, b] 108)).alloc (.cells #[u, v] 108)) w1) :
    Held2 w (w.heap.size + 1) w.heap.size w1.heap.size a b c d (w1.alloc (.cells #[c, d] 108)) := by
  have hk : Kept w (w.heap.size + 1) 108 w1 := by
    have := ((Kept.start (w.alloc (.cells #[a, b] 108)) u v 108).call hb).down (below_one w _)
    simpa using this
  have hs := hb.size
  simp only [World.size_alloc] at hs
  have h2 := below_one w1 (.cells #[c, d] 108)
  refine ⟨?_, ?_, by simp [go_sem], by simp [go_sem], hk.call h2, by omega, by omega⟩
  · exact cell_later h2 (cell_later hb (by simp [go_sem]))
  · exact cell_later h2 (cell_later hb (by simp [go_sem]))
theorem pow_half_odd {x : Int} {n : Nat} (h : n % 2 = 1) : x ^ (n / 2) * x ^ (n / 2) * x = x ^ n := by
  rw [← Int.pow_add, ← Int.pow_succ]; congr 1; omega
theorem pow_half_even {x : Int} {n : Nat} (h : n % 2 = 0) : x ^ (n / 2) * x ^ (n / 2) = x ^ n := by
  rw [← Int.pow_add]; congr 1; omega
set_option maxHeartbeats 2000000 in
theorem num_power (s : Nat) (k : Nat) : ∀ (v : Value) (x i : Int) (n : Nat) (w : World), n ≤ k → Hid (i = (n : Int)) → s * n + 2 ≤ 274877906944 → n ≤ 1099511627776 → IsNum w v x → Sized s x →
    Calls Tryz.prog 123 #[v, .int .i64 i] w (MadeNum w (x ^ n)) := by
  induction k with
  | zero =>
    intro v x i n w hn hi _ _ hv _
    obtain rfl : n = 0 := by omega
    exact (power_zero v x i w hv (by have := hi.out; omega)).mono (MadeNum.to (by simp))
  | succ k ih =>
    intro v x i n w hn hi hs hn2 hv hx
    by_cases h0 : n = 0
    · subst h0
      exact (power_zero v x i w hv (by have := hi.out; omega)).mono (MadeNum.to (by simp))
    · have hi0 : 0 < i := by have := hi.out; omega
      have hi2 : i ≤ 1099511627776 := by have := hi.out; omega
      obtain ⟨b1, p1, l1, c1, rfl⟩ := hv.shape
      have hsn : s * (n / 2) ≤ s * n := Nat.mul_le_mul_left _ (by omega)
      have HP := Lib.hid (fun w1 (hb : Below w.heap.size w w1) => ih _ x (i / 2) (n / 2) w1 (by omega) (Lib.hid (by have := hi.out; omega)) (by omega) (by omega) (hv.below hb) hx)
      clear ih
      have hsz : Sized (s * n + 2) (x ^ (n / 2)) := (sized_pow hx (n / 2)).mono (by omega)
      have hn1 : s ≤ s * n := Nat.le_mul_of_pos_right s (by omega)
      have hxs : Sized (s * n + 2) x := hx.mono (by omega)
      have hqq : Sized (s * n + 2) (x ^ (n / 2) * x ^ (n / 2)) := by
        rw [← Int.pow_add]
        refine (sized_pow hx _).mono ?_
        have : s * (n / 2 + n / 2) ≤ s * n := Nat.mul_le_mul_left _ (by omega)
        omega
      have hm2 : n % 2 = 1 ∨ n % 2 = 0 := by omega
      have HX := Lib.hid hv
      clear hv
      have KM := Lib.hid (fun w1 (u v : Value) (y z : Int) (hu : IsNum w1 u y) (hv : IsNum w1 v z) (hy : Sized (s * n + 2) y) (hz : Sized (s * n + 2) z) => num_mul u v y z _ w1 hu hv hy hz (by omega))
      rcases hm2 with hm | hm
      · have hq : (i % 2 == 1) = true := by have := hi.out; simp; omega
        have HE := Lib.hid (pow_half_odd (x := x) hm)
        clear hm hi
        go_enter Tryz.func123, Tryz.ntmps123
        go_wp2_with fail
        refine (HP.out _ (below_two w _ _)).mono ?_; rintro e w1 ⟨h, rfl, hh, hb⟩
        obtain ⟨b3, p3, l3, c3, rfl⟩ := hh.shape
        have hH := Lib.hid (power_held (c := .bool b3) (d := .slice p3 l3 c3) hb)
        have hbw := Lib.hid ((below_two w _ _).trans (hb.mono (by simp; omega)))
        have hhn := Lib.hid (hh.below (below_one w1 (.cells #[.bool b3, .slice p3 l3 c3] 108)))
        have hxn := Lib.hid ((HX.out.below hbw.out).below (below_one w1 (.cells #[.bool b3, .slice p3 l3 c3] 108)))
        clear hh hb HP HX
        go_wp2_with fail
        have hk := hH.out.drew
        go_region_held3 (fun w' => w'.cell? ⟨w.heap.size, 0, none⟩ = some (.bool b1) ∧ w'.cell? ⟨w.heap.size, 1, none⟩ = some (.slice p1 l1 c1) ∧ w'.cell? ⟨w1.heap.size, 0, none⟩ = some (.bool b3) ∧ w'.cell? ⟨w1.heap.size, 1, none⟩ = some (.slice p3 l3 c3) ∧ Kept w (w.heap.size + 1) 108 w' ∧ w.heap.size + 1 ≠ w.heap.size ∧ w.heap.size + 1 ≠ w1.heap.size)
          (first | exact hk | exact hk.store _ _)
          (first
            | (go_at_call_of 106 (Value.bool b3); refine (KM.out _ _ _ _ _ (hhn.out.below (Below.refl _ _).drew) (hhn.out.below (Below.refl _ _).drew) hsz hsz).mono ?_; rintro e w2 ⟨q, rfl, hq2, hb2⟩; have hk := hk.call hb2)
            | (go_at_call_of 106 q; refine (KM.out _ _ _ _ _ hq2 ((hxn.out.below (Below.refl _ _).drew).below hb2) hqq hxs).mono ?_; rintro e w3 ⟨r, rfl, hr, hb3⟩; have hk := hk.call hb3; obtain ⟨rn, rp, rl, rc, rfl⟩ := hr.shape; obtain ⟨⟨x1, hx1⟩, ⟨y1, hy1⟩, hf1, hf2⟩ := hk.2.2.2.2.1.cells))
        have hN := hk.2.2.2.2.1.num hr
        have hE := (hk.2.2.2.2.1.store (.bool rn) (.slice rp rl rc)).1
        rw [HE.out] at hN
        clear hk hr
        go_wp2_with fail
        exact bodyPost_ret (v := .agg #[.bool rn, .slice rp rl rc]) (by simp [results, Tryz.results123, go_sem, hx1, hy1]) rfl ⟨_, rfl, hN, hE⟩
      · have hq : (i % 2 == 1) = false := by have := hi.out; simp; omega
        have HE := Lib.hid (pow_half_even (x := x) hm)
        clear hm hi
        go_enter Tryz.func123, Tryz.ntmps123
        go_wp2_with fail
        refine (HP.out _ (below_two w _ _)).mono ?_; rintro e w1 ⟨h, rfl, hh, hb⟩
        obtain ⟨b3, p3, l3, c3, rfl⟩ := hh.shape
        have hH := Lib.hid (power_held (c := .bool b3) (d := .slice p3 l3 c3) hb)
        have hbw := Lib.hid ((below_two w _ _).trans (hb.mono (by simp; omega)))
        have hhn := Lib.hid (hh.below (below_one w1 (.cells #[.bool b3, .slice p3 l3 c3] 108)))
        have hxn := Lib.hid ((HX.out.below hbw.out).below (below_one w1 (.cells #[.bool b3, .slice p3 l3 c3] 108)))
        clear hh hb HP HX
        go_wp2_with fail
        have hk := hH.out
        refine (KM.out _ _ _ _ _ hhn.out hhn.out hsz hsz).mono ?_; rintro e w2 ⟨r, rfl, hr, hb2⟩
        have hk := hk.call hb2
        obtain ⟨rn, rp, rl, rc, rfl⟩ := hr.shape
        obtain ⟨⟨x1, hx1⟩, ⟨y1, hy1⟩, hf1, hf2⟩ := hk.2.2.2.2.1.cells
        have hN := hk.2.2.2.2.1.num hr
        have hE := (hk.2.2.2.2.1.store (.bool rn) (.slice rp rl rc)).1
        rw [HE.out] at hN
        clear hk hr
        go_wp2_with fail
        exact bodyPost_ret (v := .agg #[.bool rn, .slice rp rl rc]) (by simp [results, Tryz.results123, go_sem, hx1, hy1]) rfl ⟨_, rfl, hN, hE⟩
end Go.Proofs.YtdnbjaeeebodkaaGreat
