/- Contracts that the law leans on, pruned and merged: Refg. -/
import Derived.Test.YtigikgphipebiaaGreatDoorJa02
/- What Int and Is of the reference's numbers return. -/
namespace Go.Proofs.YtigikgphipebiaaGreatDoor
set_option maxRecDepth 100000
open Go.RowKit
theorem IsNum.shape {w : World} {v : Value} {z : Int} (h : IsNum w v z) : ∃ b p l c, v = .agg #[.bool b, .slice p l c] := by
  obtain ⟨b, s, d, rfl, ⟨p, c, rfl, -⟩, -⟩ := h
  exact ⟨b, p, _, c, rfl⟩
theorem Sized.neg {n : Nat} {z : Int} (h : Sized n z) : Sized n (-z) := ⟨by have := h.2; omega, by have := h.1; omega⟩
theorem Sized.mono {m n : Nat} {z : Int} (h : Sized m z) (hm : m ≤ n) : Sized n z := by
  have := p_mono hm
  exact ⟨by have := h.1; omega, by have := h.2; omega⟩
theorem sized8 {z : Int} (h1 : -999999999999999999999999 ≤ z) (h2 : z ≤ 999999999999999999999999) : Sized 8 z := by
  have h3 : (1000 : Int) ^ 8 = 1000000000000000000000000 := by decide
  exact ⟨by omega, by omega⟩
theorem Kept.start (w : World) (x y : Value) (T : TypeId) : Kept w w.heap.size T (w.alloc (.cells #[x, y] T)) := ⟨below_one w _, Nat.le_refl _, x, y, heap_alloc_new w _⟩
set_option maxHeartbeats 1000000 in
theorem of_any (x : Int) (w : World) (h1 : -9223372036854775808 ≤ x) (h2 : x ≤ 9223372036854775807) :
    Calls Tryz.prog 42 #[.int .i64 x] w (MadeNum w x) := by
  have hk0 := Lib.hid (Kept.start w (.bool false) (.slice none 0 0) 89)
  by_cases h0 : x < 0
  · have hA := Lib.hid (fun w1 => nat_any (-(x + 1)) w1 (by omega) (by omega))
    have hO := Lib.hid (fun w1 => nat_any 1 w1 (by omega) (by omega))
    have hS := Lib.hid (fun w1 r s (hr : IsNum w1 r (-(x + 1))) (hs : IsNum w1 s 1) => num_add r s _ _ 8 w1 hr hs (sized8 (by omega) (by omega)) (sized8 (by omega) (by omega)) (by omega))
    have hT := Lib.hid (fun w1 r (hr : IsNum w1 r (-(x + 1) + 1)) => (neg_any r _ 8 w1 hr (sized8 (by omega) (by omega)) (by omega)).mono (MadeNum.to (z' := x) (by omega)))
    go_enter Tryz.func42, Tryz.ntmps42
    go_wp2_with fail
    refine (hA.out _).mono ?_; rintro e w1 ⟨r, rfl, hr, hb⟩
    have hk := hk0.out.call hb
    go_wp2_with fail
    refine (hO.out _).mono ?_; rintro e w2 ⟨s, rfl, hs, hb2⟩
    have hk := hk.call hb2
    have hr := hr.below hb2
    go_wp2_with fail
    refine (hS.out _ _ _ hr hs).mono ?_; rintro e w3 ⟨t, rfl, ht, hb3⟩
    have hk := hk.call hb3
    clear hr hs hb hb2
    go_wp2_with fail
    refine (hT.out _ _ ht).mono ?_; rintro e w4 ⟨q, rfl, hq, hb4⟩
    have hk := hk.call hb4
    clear ht hb3 hb4 hk0
    obtain ⟨rn, rp, rl, rc, rfl⟩ := hq.shape
    obtain ⟨⟨x1, hx1⟩, ⟨y1, hy1⟩, hf1, hf2⟩ := hk.cells
    have hN := hk.num hq
    have hE := (hk.store (.bool rn) (.slice rp rl rc)).1
    clear hk hq
    go_wp2_with fail
    exact bodyPost_ret (v := .agg #[.bool rn, .slice rp rl rc]) (by simp [results, Tryz.results42, go_sem, hx1, hy1]) rfl ⟨_, rfl, hN, hE⟩
  · have hA := Lib.hid (fun w1 => nat_any x w1 (by omega) (by omega))
    go_enter Tryz.func42, Tryz.ntmps42
    go_wp2_with fail
    refine (hA.out _).mono ?_; rintro e w4 ⟨q, rfl, hq, hb4⟩
    have hk := hk0.out.call hb4
    clear hb4 hk0
    obtain ⟨rn, rp, rl, rc, rfl⟩ := hq.shape
    obtain ⟨⟨x1, hx1⟩, ⟨y1, hy1⟩, hf1, hf2⟩ := hk.cells
    have hN := hk.num hq
    have hE := (hk.store (.bool rn) (.slice rp rl rc)).1
    clear hk hq
    go_wp2_with fail
    exact bodyPost_ret (v := .agg #[.bool rn, .slice rp rl rc]) (by simp [results, Tryz.results42, go_sem, hx1, hy1]) rfl ⟨_, rfl, hN, hE⟩
theorem below_two (w : World) (o p : Obj) : Below w.heap.size w ((w.alloc o).alloc p) := (below_one w o).alloc (by simp) p
/-- A comparison. -/
def Compared (w : World) (c : Int) (e : Ending) (w' : World) : Prop := e = .returned (.int .i64 c) ∧ Below w.heap.size w w'
set_option maxHeartbeats 1000000 in
theorem num_cmp (u v : Value) (x y : Int) (n : Nat) (w : World) (hu : IsNum w u x) (hv : IsNum w v y) (hx : Sized n x) (hy : Sized n y) (hn : n ≤ 1099511627770) :
    Calls Tryz.prog 125 #[u, v] w (Compared w (cmpI x y)) := by
  obtain ⟨b1, s1, d1, rfl, i1, -, g1, y1, n1, rfl⟩ := hu
  obtain ⟨b2, s2, d2, rfl, i2, -, g2, y2, n2, rfl⟩ := hv
  have l1 := len_of_sized g1 y1 hx
  have l2 := len_of_sized g2 y2 hy
  have r1 := (val_range g1).1
  have r2 := (val_range g2).1
  have hL := Lib.hid (fun w1 (hb : Below w.heap.size w w1) => less_any s1 s2 d1 d2 w1 (i1.below hb) (i2.below hb) g1 g2 (by omega) (by omega))
  have hR := Lib.hid (fun w1 (hb : Below w.heap.size w w1) => less_any s2 s1 d2 d1 w1 (i2.below hb) (i1.below hb) g2 g1 (by omega) (by omega))
  have q1 : b1 = true → 0 < val d1 := fun h => y1.pos g1 (n1 h)
  have q2 : b2 = true → 0 < val d2 := fun h => y2.pos g2 (n2 h)
  obtain ⟨p1, c1, rfl, -, -⟩ := i1
  obtain ⟨p2, c2, rfl, -, -⟩ := i2
  have Q1 := Lib.hid q1
  have Q2 := Lib.hid q2
  clear hx hy y1 y2 n1 n2 q1 q2
  have hb0 := Lib.hid (below_two w (.cells #[.bool b1, .slice p1 d1.length c1] 89) (.cells #[.bool b2, .slice p2 d2.length c2] 89))
  cases b1 <;> cases b2
  · go_enter Tryz.func125, Tryz.ntmps125
    go_wp2_with fail
    refine (hL.out _ hb0.out).mono ?_; rintro e w' ⟨rfl, rfl⟩
    go_wp2_with fail
    go_ret
    exact ⟨ret_int (by simp [signed]), hb0.out⟩
  · have e := Lib.hid (cmpI_gt (x := val d1) (y := -val d2) (by have := Q2.out rfl; omega))
    go_enter Tryz.func125, Tryz.ntmps125
    go_wp2_with fail
    go_ret
    exact ⟨ret_int (by simp [signed, e.out]), hb0.out⟩
  · have e := Lib.hid (cmpI_lt (x := -val d1) (y := val d2) (by have := Q1.out rfl; omega))
    go_enter Tryz.func125, Tryz.ntmps125
    go_wp2_with fail
    go_ret
    exact ⟨ret_int (by simp [signed, e.out]), hb0.out⟩
  · go_enter Tryz.func125, Tryz.ntmps125
    go_wp2_with fail
    refine (hR.out _ hb0.out).mono ?_; rintro e w' ⟨rfl, rfl⟩
    go_wp2_with fail
    go_ret
    exact ⟨ret_int (by simp only [signed, cond_true]; unfold cmpI; split <;> split <;> (try split) <;> (try split) <;> omega), hb0.out⟩
set_option maxRecDepth 100000
open Go.RowKit
def Horner (a : List Int) (k : Nat) (x : Int) : Prop := val a = valN a k + 1000 ^ k * x ∧ 0 ≤ x
theorem Horner.step {a : List Int} {m : Nat} {x : Int} (hd : Dig a) (h : Horner a (m + 1) x) (y : Int) (hy : a.getD m 0 = y) : Horner a m (x * 1000 + y) := by
  obtain ⟨h1, h2⟩ := h
  have h3 := hd.getD m
  rw [hy] at h3
  refine ⟨?_, by omega⟩
  rw [valN, p_succ, hy] at h1
  have e1 : 1000 ^ m * 1000 * x = 1000 ^ m * (x * 1000) := by rw [Int.mul_assoc, Int.mul_comm 1000 x]
  have e2 : 1000 ^ m * (x * 1000 + y) = 1000 ^ m * (x * 1000) + 1000 ^ m * y := Int.mul_add _ _ _
  have e3 : y * 1000 ^ m = 1000 ^ m * y := Int.mul_comm _ _
  omega
theorem Horner.le {a : List Int} {k : Nat} {x : Int} (hd : Dig a) (h : Horner a k x) : x ≤ val a := by
  obtain ⟨h1, h2⟩ := h
  have h3 := (valN_range hd k).1
  have h4 : 1 * x ≤ 1000 ^ k * x := Int.mul_le_mul_of_nonneg_right (by have := p_pos k; omega) h2
  omega
set_option maxHeartbeats 1000000 in
theorem num_uint (v : Value) (z : Int) (w : World) (hv : IsNum w v z) (h1 : -18446744073709551616 < z) (h2 : z < 18446744073709551616) :
    Calls Tryz.prog 177 #[v] w fun e w' => e = .returned (.int .u64 (z.natAbs : Int)) ∧ Below w.heap.size w w' := by
  obtain ⟨b1, s1, a, rfl, i1, -, g1, y1, -, rfl⟩ := hv
  have hs8 : Sized 8 (signed b1 (val a)) := sized8 (by omega) (by omega)
  have la := len_of_sized (n := 8) g1 y1 hs8
  have hva : val a < 18446744073709551616 := by cases b1 <;> simp [signed] at h1 h2 <;> omega
  have hva0 := (val_range g1).1
  have hab : Hid (((signed b1 (val a)).natAbs : Int) = val a) := Lib.hid (by cases b1 <;> simp [signed] <;> omega)
  have hi := Lib.hid (i1.below (below_one w (.cells #[.bool b1, s1] 89)))
  have hbel := Lib.hid (below_one w (.cells #[.bool b1, s1] 89))
  obtain ⟨p1, c1, rfl, hcap, -⟩ := i1
  have HD := Lib.hid g1
  have HV := Lib.hid hva
  clear h1 h2 y1 g1 hva hs8
  go_enter Tryz.func177, Tryz.ntmps177
  go_wp2_with fail
  go_loop [3, 4] (fun x i => ∃ (k : Nat) (y t : Int), Hid (t = (k : Int) - 1) ∧ -1 ≤ t ∧ t ≤ 8 ∧ k ≤ a.length ∧ x = .int .u64 y ∧ i = .int .i64 t ∧ Hid (Horner a k y)) (fun _ i => (intOf i + 1).toNat)
  case atStart => exact ⟨a.length, 0, _, Lib.hid rfl, by omega, by omega, Nat.le_refl _, rfl, rfl, Lib.hid ⟨by simp [val], Int.le_refl _⟩⟩
  case round =>
    obtain ⟨k, y, t, ht, ht1, ht2, hk, rfl, rfl, hH⟩ := hrel
    by_cases h0 : 0 ≤ t
    · obtain ⟨m, rfl⟩ : ∃ m, k = m + 1 := ⟨k - 1, by have := ht.out; omega⟩
      obtain rfl : t = (m : Int) := by have := ht.out; omega
      have hy0 := hH.out.2
      have hst := Lib.hid (fun (d : Int) (hd : a.getD m 0 = d) => hH.out.step HD.out d hd)
      have hdd := HD.out.getD m
      obtain ⟨b, off, hap, hb, hcell⟩ := hi.out.cell (i := m) (by omega)
      subst hap
      generalize hd : a.getD m 0 = d at *
      have hst2 := Lib.hid (hst.out d rfl)
      have hle := hst2.out.le HD.out
      have hlt := HV.out
      clear hst hd hH
      obtain ⟨d1, d2⟩ := hdd
      have hb1 : y * 1000 + d ≤ 18446744073709551615 := by omega
      have hb2 : 0 ≤ y * 1000 := by omega
      clear hle hlt hi
      go_wp2_with fail
      go_round
      case rel => exact ⟨m, y * 1000 + d, m - 1, Lib.hid rfl, by omega, by omega, by omega, rfl, rfl, hst2⟩
      case measure => simp [intOf]
    · obtain rfl : k = 0 := by have := ht.out; omega
      have hE : Hid (val a = y) := Lib.hid (by have := hH.out.1; simp [valN] at this; exact this)
      clear hH hi
      go_wp2_with fail
      go_ret
      exact ⟨ret_int (by rw [hab.out, hE.out]), hbel.out⟩
/-- One box, read; and what is kept. -/
def Box1 (w : World) (N : Nat) (a b : Value) (w' : World) : Prop := w'.cell? ⟨N, 0, none⟩ = some a ∧ w'.cell? ⟨N, 1, none⟩ = some b ∧ Below w.heap.size w w'
theorem Box1.call {w w1 w2 : World} {N : Nat} {a b : Value} (h : Box1 w N a b w1) (hb : Below w1.heap.size w1 w2) : Box1 w N a b w2 :=
  ⟨cell_later hb h.1, cell_later hb h.2.1, h.2.2.trans (hb.mono h.2.2.size)⟩
theorem Box1.drew {w w1 : World} {N : Nat} {a b : Value} (h : Box1 w N a b w1) : Box1 w N a b w1.drew := h.call (Below.refl _ _).drew
theorem Box1.start (w : World) (a b : Value) (T : TypeId) : Box1 w w.heap.size a b (w.alloc (.cells #[a, b] T)) := ⟨by simp [go_sem], by simp [go_sem], below_one w _⟩
set_option maxHeartbeats 1000000 in
theorem num_fits (v : Value) (z : Int) (n : Nat) (w : World) (hv : IsNum w v z) (hz : Sized n z) (h8 : 8 ≤ n) (hn : n ≤ 1099511627770) :
    Calls Tryz.prog 120 #[v] w fun e w' => e = .returned (.bool (fitB z)) ∧ Below w.heap.size w w' := by
  obtain ⟨b1, p1, l1, c1, rfl⟩ := hv.shape
  have hC := Lib.hid (fun w1 r y (hb : Below w.heap.size w w1) (hr : IsNum w1 r y) (hy : Sized 8 y) => num_cmp _ r z y n w1 (hv.below hb) hr hz (hy.mono h8) hn)
  have hB := Lib.hid (Box1.start w (.bool b1) (.slice p1 l1 c1) 89)
  clear hv hz
  by_cases hlo : -9223372036854775808 ≤ z
  · have k1 : 0 ≤ cmpI z (-9223372036854775808) := cmpI_ge.2 hlo
    have e2 : Hid (fitB z = decide (cmpI z 9223372036854775807 ≤ 0)) := Lib.hid (by
      by_cases h : z ≤ 9223372036854775807
      · rw [fitB_yes hlo h, decide_eq_true (cmpI_le.2 h)]
      · rw [fitB_no (by omega), decide_eq_false (fun e => h (cmpI_le.1 e))])
    go_enter Tryz.func120, Tryz.ntmps120
    go_wp2_with fail
    have hk := hB.out.drew
    go_region_held3 (fun w' => w'.cell? ⟨w.heap.size, 0, none⟩ = some (.bool b1) ∧ w'.cell? ⟨w.heap.size, 1, none⟩ = some (.slice p1 l1 c1) ∧ Below w.heap.size w w')
      (exact hk)
      (first
        | (go_at_call 42; refine (of_any _ _ (by decide) (by decide)).mono ?_; rintro e w1 ⟨r, rfl, hr, hb⟩; have hk := hk.call hb)
        | (go_at_call 125; refine (hC.out _ _ _ hk.2.2 hr (sized8 (by decide) (by decide))).mono ?_; rintro e w2 ⟨rfl, hb2⟩; have hk := hk.call hb2; clear hr))
    have hE := hk.2.2
    clear hk
    go_wp2_with fail
    go_ret
    exact ⟨ret_bool e2.out.symm, hE⟩
  · have k1 : ¬ 0 ≤ cmpI z (-9223372036854775808) := fun e => hlo (cmpI_ge.1 e)
    have k2 : decide (0 ≤ cmpI z (-9223372036854775808)) = false := decide_eq_false k1
    have e2 : Hid (fitB z = false) := Lib.hid (fitB_no (by omega))
    go_enter Tryz.func120, Tryz.ntmps120
    go_wp2_with fail
    have hk := hB.out.drew
    go_region_with (first
        | (go_at_call 42; refine (of_any _ _ (by decide) (by decide)).mono ?_; rintro e w1 ⟨r, rfl, hr, hb⟩; have hk := hk.call hb; have hk1 := hk.1; have hk2 := hk.2.1)
        | (go_at_call 125; refine (hC.out _ _ _ hk.2.2 hr (sized8 (by decide) (by decide))).mono ?_; rintro e w2 ⟨rfl, hb2⟩; have hk := hk.call hb2; clear hr))
    all_goals
      have hE := hk.2.2
      clear hk
      go_wp2_with fail
      go_ret
      exact ⟨ret_bool e2.out.symm, hE⟩
set_option maxRecDepth 100000
open Go.RowKit
set_option maxHeartbeats 1000000 in
theorem num_int (v : Value) (z : Int) (w : World) (hv : IsNum w v z) (h1 : -9223372036854775808 ≤ z) (h2 : z ≤ 9223372036854775807) :
    Calls Tryz.prog 121 #[v] w fun e w' => e = .returned (.int .i64 z) ∧ Below w.heap.size w w' := by
  have hs : Sized 8 z := sized8 (by omega) (by omega)
  obtain ⟨b1, s1, d1, rfl, i1, t1, g1, y1, n1, hz⟩ := id hv
  have hneg : b1 = true ↔ z < 0 := by
    have := (val_range g1).1
    constructor
    · intro e; subst e; have := y1.pos g1 (n1 rfl); simp [signed] at hz; omega
    · intro e; cases b1
      · simp [signed] at hz; omega
      · rfl
  obtain ⟨p1, c1, rfl, -, -⟩ := i1
  clear hz n1 y1 t1
  have hA := Lib.hid (fun w1 r (hb : Below w.heap.size w w1) (hr : IsNum w1 r 1) => num_add _ r z 1 8 w1 (hv.below hb) hr hs (sized8 (by decide) (by decide)) (by decide))
  have hU := Lib.hid (fun w1 r y (hr : IsNum w1 r y) (q1 : -18446744073709551616 < y) (q2 : y < 18446744073709551616) => num_uint r y w1 hr q1 q2)
  have hW := Lib.hid (fun w1 (hb : Below w.heap.size w w1) => num_uint _ z w1 (hv.below hb) (by omega) (by omega))
  have hB := Lib.hid (Box1.start w (.bool b1) (.slice p1 d1.length c1) 89)
  clear hv hs
  cases b1
  · have hz0 : 0 ≤ z := by have := hneg.2; simp at this; omega
    have hab : (z.natAbs : Int) = z := by omega
    clear hneg
    have hk := hB.out
    go_enter Tryz.func121, Tryz.ntmps121
    go_wp2_with fail
    refine (hW.out _ hk.2.2).mono ?_; rintro e w1 ⟨rfl, hb⟩
    have hk := hk.call hb
    rw [hab]
    have hE := hk.2.2
    clear hk hb hab
    go_wp2_with fail
    go_ret
    exact ⟨rfl, hE⟩
  · have hz0 : z < 0 := hneg.1 rfl
    clear hneg
    have hab : Hid ((((z + 1).natAbs : Nat) : Int) = -(z + 1)) := Lib.hid (by omega)
    go_enter Tryz.func121, Tryz.ntmps121
    go_wp2_with fail
    have hk := hB.out.drew
    go_region_held3 (fun w' => w'.cell? ⟨w.heap.size, 0, none⟩ = some (.bool true) ∧ w'.cell? ⟨w.heap.size, 1, none⟩ = some (.slice p1 d1.length c1) ∧ Below w.heap.size w w')
      (exact hk)
      (first
        | (go_at_call 105; refine (nat_any 1 _ (by decide) (by decide)).mono ?_; rintro e w1 ⟨r, rfl, hr, hb⟩; have hk := hk.call hb)
        | (go_at_call 55; refine (hA.out _ _ hk.2.2 hr).mono ?_; rintro e w2 ⟨q, rfl, hq, hb2⟩; have hk := hk.call hb2)
        | (go_at_call 177; refine (hU.out _ _ _ hq (by omega) (by omega)).mono ?_; rintro e w3 ⟨rfl, hb3⟩; have hk := hk.call hb3))
    have hE := hk.2.2
    clear hk
    go_wp2_with fail
    go_ret
    exact ⟨ret_int (by rw [hab.out]; simp only [IntKind.wrap_i64]; omega), hE⟩
end Go.Proofs.YtigikgphipebiaaGreatDoor
