/- Contracts that the law leans on, pruned and merged: Refg Mul Divm. -/
import Derived.Deep.RegionLawGrows
import Derived.Test.YtigikgphipebiaaGreatDoorRi02
/- What Int and Is of the reference's numbers return. -/
namespace Go.Proofs.YtigikgphipebiaaGreatDoor
set_option maxRecDepth 100000
open Go.RowKit
theorem IsNum.shape {w : World} {v : Value} {z : Int} (h : IsNum w v z) : ∃ b p l c, v = .agg #[.bool b, .slice p l c] := by
  obtain ⟨b, s, d, rfl, ⟨p, c, rfl, -⟩, -⟩ := h
  exact ⟨b, p, _, c, rfl⟩
theorem Sized.neg {n : Nat} {z : Int} (h : Sized n z) : Sized n (-z) := ⟨by have := h.2; omega, by have := h.1; omega⟩
theorem Sized.mono {m n : Nat} {z : Int} (h : Sized m z) (hm : m ≤ n) : Sized n z := by
  have := p_mono hm
  exact ⟨by have := h.1; omega, by have := h.2; omega⟩
theorem sized8 {z : Int} (h1 : -999999999999999999999999 ≤ z) (h2 : z ≤ 999999999999999999999999) : Sized 8 z := by
  have h3 : (1000 : Int) ^ 8 = 1000000000000000000000000 := by decide
  exact ⟨by omega, by omega⟩
set_option maxHeartbeats 1000000 in
theorem num_sub (u v : Value) (x y : Int) (n : Nat) (w : World) (hu : IsNum w u x) (hv : IsNum w v y) (hx : Sized n x) (hy : Sized n y) (hn : n ≤ 1099511627770) :
    Calls Tryz.prog 239 #[u, v] w (MadeNum w (x - y)) := by
  obtain ⟨b1, p1, l1, c1, rfl⟩ := hu.shape
  obtain ⟨b2, p2, l2, c2, rfl⟩ := hv.shape
  have hNeg := Lib.hid (fun w1 (hb : Below w.heap.size w w1) => neg_any _ y n w1 (hv.below hb) hy (by omega))
  have hAdd := Lib.hid (fun w1 r (hb : Below w.heap.size w w1) (hr : IsNum w1 r (-y)) => (num_add _ r x (-y) n w1 (hu.below hb) hr hx hy.neg hn).mono (MadeNum.to (z' := x - y) (by omega)))
  have hB := Lib.hid (Boxes.start w (.bool b1) (.slice p1 l1 c1) (.bool b2) (.slice p2 l2 c2) (.bool false) (.slice none 0 0))
  clear hu hv hx hy
  go_enter Tryz.func239, Tryz.ntmps239
  go_wp2_with fail
  go_region_held3 (fun w' => w'.cell? ⟨w.heap.size, 0, none⟩ = some (.bool b1) ∧ w'.cell? ⟨w.heap.size, 1, none⟩ = some (.slice p1 l1 c1) ∧ w'.cell? ⟨w.heap.size + 1, 0, none⟩ = some (.bool b2) ∧ w'.cell? ⟨w.heap.size + 1, 1, none⟩ = some (.slice p2 l2 c2) ∧ Kept w (w.heap.size + 1 + 1) 89 w')
    (first | exact hB.out.drew | exact Boxes.call ‹_› ‹Below _ _ _› | exact Boxes.store ‹_› _ _)
    (first
      | (go_at_call 104; refine (hNeg.out _ hB.out.2.2.2.2.1.drew).mono ?_; rintro e w1 ⟨m, rfl, hm, hb⟩; have hk := hB.out.drew.2.2.2.2.call hb)
      | (go_at_call 55; refine (hAdd.out _ _ hk.1 hm).mono ?_; rintro e w2 ⟨r, rfl, hr, hb2⟩; have hk2 := hk.call hb2; obtain ⟨rn, rp, rl, rc, rfl⟩ := hr.shape; obtain ⟨⟨x1, hx1⟩, ⟨y1, hy1⟩, hf1, hf2⟩ := hk2.cells))
  have hN := hk2.num hr
  have hE := (hk2.store (.bool rn) (.slice rp rl rc)).1
  clear hk hk2 hr hb hb2 hB hm
  go_wp2_with fail
  exact bodyPost_ret (v := .agg #[.bool rn, .slice rp rl rc]) (by simp [results, Tryz.results239, go_sem, hx1, hy1]) rfl ⟨_, rfl, hN, hE⟩
theorem Kept.start (w : World) (x y : Value) (T : TypeId) : Kept w w.heap.size T (w.alloc (.cells #[x, y] T)) := ⟨below_one w _, Nat.le_refl _, x, y, heap_alloc_new w _⟩
theorem below_two (w : World) (o p : Obj) : Below w.heap.size w ((w.alloc o).alloc p) := (below_one w o).alloc (by simp) p
/-- A comparison. -/
def Compared (w : World) (c : Int) (e : Ending) (w' : World) : Prop := e = .returned (.int .i64 c) ∧ Below w.heap.size w w'
set_option maxHeartbeats 1000000 in
theorem num_cmp (u v : Value) (x y : Int) (n : Nat) (w : World) (hu : IsNum w u x) (hv : IsNum w v y) (hx : Sized n x) (hy : Sized n y) (hn : n ≤ 1099511627770) :
    Calls Tryz.prog 125 #[u, v] w (Compared w (cmpI x y)) := by
  obtain ⟨b1, s1, d1, rfl, i1, -, g1, y1, n1, rfl⟩ := hu
  obtain ⟨b2, s2, d2, rfl, i2, -, g2, y2, n2, rfl⟩ := hv
  have l1 := len_of_sized g1 y1 hx
  have l2 := len_of_sized g2 y2 hy
  have r1 := (val_range g1).1
  have r2 := (val_range g2).1
  have hL := Lib.hid (fun w1 (hb : Below w.heap.size w w1) => less_any s1 s2 d1 d2 w1 (i1.below hb) (i2.below hb) g1 g2 (by omega) (by omega))
  have hR := Lib.hid (fun w1 (hb : Below w.heap.size w w1) => less_any s2 s1 d2 d1 w1 (i2.below hb) (i1.below hb) g2 g1 (by omega) (by omega))
  have q1 : b1 = true → 0 < val d1 := fun h => y1.pos g1 (n1 h)
  have q2 : b2 = true → 0 < val d2 := fun h => y2.pos g2 (n2 h)
  obtain ⟨p1, c1, rfl, -, -⟩ := i1
  obtain ⟨p2, c2, rfl, -, -⟩ := i2
  have Q1 := Lib.hid q1
  have Q2 := Lib.hid q2
  clear hx hy y1 y2 n1 n2 q1 q2
  have hb0 := Lib.hid (below_two w (.cells #[.bool b1, .slice p1 d1.length c1] 89) (.cells #[.bool b2, .slice p2 d2.length c2] 89))
  cases b1 <;> cases b2
  · go_enter Tryz.func125, Tryz.ntmps125
    go_wp2_with fail
    refine (hL.out _ hb0.out).mono ?_; rintro e w' ⟨rfl, rfl⟩
    go_wp2_with fail
    go_ret
    exact ⟨ret_int (by simp [signed]), hb0.out⟩
  · have e := Lib.hid (cmpI_gt (x := val d1) (y := -val d2) (by have := Q2.out rfl; omega))
    go_enter Tryz.func125, Tryz.ntmps125
    go_wp2_with fail
    go_ret
    exact ⟨ret_int (by simp [signed, e.out]), hb0.out⟩
  · have e := Lib.hid (cmpI_lt (x := -val d1) (y := val d2) (by have := Q1.out rfl; omega))
    go_enter Tryz.func125, Tryz.ntmps125
    go_wp2_with fail
    go_ret
    exact ⟨ret_int (by simp [signed, e.out]), hb0.out⟩
  · go_enter Tryz.func125, Tryz.ntmps125
    go_wp2_with fail
    refine (hR.out _ hb0.out).mono ?_; rintro e w' ⟨rfl, rfl⟩
    go_wp2_with fail
    go_ret
    exact ⟨ret_int (by simp only [signed, cond_true]; unfold cmpI; split <;> split <;> (try split) <;> (try split) <;> omega), hb0.out⟩
set_option maxRecDepth 100000
open Go.RowKit
def Horner (a : List Int) (k : Nat) (x : Int) : Prop := val a = valN a k + 1000 ^ k * x ∧ 0 ≤ x
theorem Horner.step {a : List Int} {m : Nat} {x : Int} (hd : Dig a) (h : Horner a (m + 1) x) (y : Int) (hy : a.getD m 0 = y) : Horner a m (x * 1000 + y) := by
  obtain ⟨h1, h2⟩ := h
  have h3 := hd.getD m
  rw [hy] at h3
  refine ⟨?_, by omega⟩
  rw [valN, p_succ, hy] at h1
  have e1 : 1000 ^ m * 1000 * x = 1000 ^ m * (x * 1000) := by rw [Int.mul_assoc, Int.mul_comm 1000 x]
  have e2 : 1000 ^ m * (x * 1000 + y) = 1000 ^ m * (x * 1000) + 1000 ^ m * y := Int.mul_add _ _ _
  have e3 : y * 1000 ^ m = 1000 ^ m * y := Int.mul_comm _ _
  omega
theorem Horner.le {a : List Int} {k : Nat} {x : Int} (hd : Dig a) (h : Horner a k x) : x ≤ val a := by
  obtain ⟨h1, h2⟩ := h
  have h3 := (valN_range hd k).1
  have h4 : 1 * x ≤ 1000 ^ k * x := Int.mul_le_mul_of_nonneg_right (by have := p_pos k; omega) h2
  omega
set_option maxHeartbeats 1000000 in
theorem num_uint (v : Value) (z : Int) (w : World) (hv : IsNum w v z) (h1 : -18446744073709551616 < z) (h2 : z < 18446744073709551616) :
    Calls Tryz.prog 177 #[v] w fun e w' => e = .returned (.int .u64 (z.natAbs : Int)) ∧ Below w.heap.size w w' := by
  obtain ⟨b1, s1, a, rfl, i1, -, g1, y1, -, rfl⟩ := hv
  have hs8 : Sized 8 (signed b1 (val a)) := sized8 (by omega) (by omega)
  have la := len_of_sized (n := 8) g1 y1 hs8
  have hva : val a < 18446744073709551616 := by cases b1 <;> simp [signed] at h1 h2 <;> omega
  have hva0 := (val_range g1).1
  have hab : Hid (((signed b1 (val a)).natAbs : Int) = val a) := Lib.hid (by cases b1 <;> simp [signed] <;> omega)
  have hi := Lib.hid (i1.below (below_one w (.cells #[.bool b1, s1] 89)))
  have hbel := Lib.hid (below_one w (.cells #[.bool b1, s1] 89))
  obtain ⟨p1, c1, rfl, hcap, -⟩ := i1
  have HD := Lib.hid g1
  have HV := Lib.hid hva
  clear h1 h2 y1 g1 hva hs8
  go_enter Tryz.func177, Tryz.ntmps177
  go_wp2_with fail
  go_loop [3, 4] (fun x i => ∃ (k : Nat) (y t : Int), Hid (t = (k : Int) - 1) ∧ -1 ≤ t ∧ t ≤ 8 ∧ k ≤ a.length ∧ x = .int .u64 y ∧ i = .int .i64 t ∧ Hid (Horner a k y)) (fun _ i => (intOf i + 1).toNat)
  case atStart => exact ⟨a.length, 0, _, Lib.hid rfl, by omega, by omega, Nat.le_refl _, rfl, rfl, Lib.hid ⟨by simp [val], Int.le_refl _⟩⟩
  case round =>
    obtain ⟨k, y, t, ht, ht1, ht2, hk, rfl, rfl, hH⟩ := hrel
    by_cases h0 : 0 ≤ t
    · obtain ⟨m, rfl⟩ : ∃ m, k = m + 1 := ⟨k - 1, by have := ht.out; omega⟩
      obtain rfl : t = (m : Int) := by have := ht.out; omega
      have hy0 := hH.out.2
      have hst := Lib.hid (fun (d : Int) (hd : a.getD m 0 = d) => hH.out.step HD.out d hd)
      have hdd := HD.out.getD m
      obtain ⟨b, off, hap, hb, hcell⟩ := hi.out.cell (i := m) (by omega)
      subst hap
      generalize hd : a.getD m 0 = d at *
      have hst2 := Lib.hid (hst.out d rfl)
      have hle := hst2.out.le HD.out
      have hlt := HV.out
      clear hst hd hH
      obtain ⟨d1, d2⟩ := hdd
      have hb1 : y * 1000 + d ≤ 18446744073709551615 := by omega
      have hb2 : 0 ≤ y * 1000 := by omega
      clear hle hlt hi
      go_wp2_with fail
      go_round
      case rel => exact ⟨m, y * 1000 + d, m - 1, Lib.hid rfl, by omega, by omega, by omega, rfl, rfl, hst2⟩
      case measure => simp [intOf]
    · obtain rfl : k = 0 := by have := ht.out; omega
      have hE : Hid (val a = y) := Lib.hid (by have := hH.out.1; simp [valN] at this; exact this)
      clear hH hi
      go_wp2_with fail
      go_ret
      exact ⟨ret_int (by rw [hab.out, hE.out]), hbel.out⟩
/-- One box, read; and what is kept. -/
def Box1 (w : World) (N : Nat) (a b : Value) (w' : World) : Prop := w'.cell? ⟨N, 0, none⟩ = some a ∧ w'.cell? ⟨N, 1, none⟩ = some b ∧ Below w.heap.size w w'
theorem Box1.call {w w1 w2 : World} {N : Nat} {a b : Value} (h : Box1 w N a b w1) (hb : Below w1.heap.size w1 w2) : Box1 w N a b w2 :=
  ⟨cell_later hb h.1, cell_later hb h.2.1, h.2.2.trans (hb.mono h.2.2.size)⟩
theorem Box1.drew {w w1 : World} {N : Nat} {a b : Value} (h : Box1 w N a b w1) : Box1 w N a b w1.drew := h.call (Below.refl _ _).drew
theorem Box1.start (w : World) (a b : Value) (T : TypeId) : Box1 w w.heap.size a b (w.alloc (.cells #[a, b] T)) := ⟨by simp [go_sem], by simp [go_sem], below_one w _⟩
set_option maxRecDepth 100000
open Go.RowKit
end Go.Proofs.YtigikgphipebiaaGreatDoor
/- The product of the reference's numbers: digit by digit. -/
namespace Go.Proofs.YtigikgphipebiaaGreatDoor
set_option maxRecDepth 100000
open Go.RowKit
theorem getD_set {l : List Int} {j i : Nat} {x : Int} (h : j < l.length) : (l.set j x).getD i 0 = if i = j then x else l.getD i 0 := by
  simp only [List.getD, List.getElem?_set]
  by_cases e : j = i
  · subst e; simp [h]
  · have : ¬ i = j := fun q => e q.symm
    simp [e, this]
theorem valN_set {l : List Int} {j : Nat} {x : Int} (h : j < l.length) (n : Nat) : valN (l.set j x) n = valN l n + if j < n then (x - l.getD j 0) * 1000 ^ j else 0 := by
  induction n with
  | zero => simp [valN]
  | succ n ih =>
    rw [valN, valN, ih, getD_set h]
    by_cases e : n = j
    · subst e; simp [Int.sub_mul]; omega
    · by_cases hl : j < n
      · have : j < n + 1 := by omega
        simp [hl, this, e]; omega
      · have : ¬ j < n + 1 := by omega
        simp [hl, this, e]
theorem val_set {l : List Int} {j : Nat} {x : Int} (h : j < l.length) : val (l.set j x) = val l + (x - l.getD j 0) * 1000 ^ j := by
  rw [val, List.length_set, valN_set h, if_pos h]; rfl
theorem Dig.set {l : List Int} (hd : Dig l) {j : Nat} {x : Int} (h1 : 0 ≤ x) (h2 : x ≤ 999) : Dig (l.set j x) := by
  intro y hy
  rcases List.mem_or_eq_of_mem_set hy with h | h
  · exact hd y h
  · subst h; exact ⟨h1, h2⟩
/-- The outer loop: the first i digits of a times b; above that noughts. -/
def MulOut (a b : List Int) (i : Nat) (out : List Int) : Prop := val out = valN a i * val b ∧ Dig out ∧ out.length = a.length + b.length + 1 ∧ ∀ j, i + b.length ≤ j → out.getD j 0 = 0
/-- The inner loop. -/
def MulIn (a b : List Int) (i k : Nat) (out : List Int) (c : Int) : Prop :=
  val out + c * 1000 ^ (i + k) = valN a i * val b + a.getD i 0 * valN b k * 1000 ^ i ∧ Dig out ∧ out.length = a.length + b.length + 1 ∧ (∀ j, i + b.length ≤ j → out.getD j 0 = 0) ∧ 0 ≤ c ∧ c ≤ 999
theorem MulOut.enter {a b out : List Int} {i : Nat} (h : MulOut a b i out) : MulIn a b i 0 out 0 := by
  obtain ⟨h1, h2, h3, h4⟩ := h
  exact ⟨by simp [valN, h1], h2, h3, h4, by omega, by omega⟩
theorem val_replicate (n : Nat) : val (List.replicate n (0 : Int)) = 0 := by
  have h : val (List.replicate n (0 : Int)) = val [] := val_eq_of_same (fun i => by simp [List.getD, List.getElem?_replicate]; split <;> simp)
  rw [h]; rfl
theorem MulOut.start (a b : List Int) : MulOut a b 0 (List.replicate (a.length + b.length + 1) 0) := by
  refine ⟨by simp [valN, val_replicate], fun x hx => ?_, by simp, fun j _ => ?_⟩
  · have := List.eq_of_mem_replicate hx; omega
  · simp [List.getD, List.getElem?_replicate]; split <;> simp
theorem mul_bounds {x y : Int} (h1 : 0 ≤ x) (h2 : x ≤ 999) (h3 : 0 ≤ y) (h4 : y ≤ 999) : 0 ≤ x * y ∧ x * y ≤ 998001 := by
  refine ⟨Int.mul_nonneg h1 h3, ?_⟩
  calc x * y ≤ 999 * y := Int.mul_le_mul_of_nonneg_right h2 h3
    _ ≤ 999 * 999 := Int.mul_le_mul_of_nonneg_left h4 (by omega)
theorem MulIn.step {a b out : List Int} {i k : Nat} {c : Int} (h : MulIn a b i k out c) (ha : Dig a) (hb : Dig b) (hi : i < a.length) (hk : k < b.length) (o x y : Int) (ho : out.getD (i + k) 0 = o) (hx : a.getD i 0 = x) (hy : b.getD k 0 = y) :
    MulIn a b i (k + 1) (out.set (i + k) ((o + x * y + c) % 1000)) ((o + x * y + c) / 1000) := by
  obtain ⟨h1, h2, h3, h4, h5, h6⟩ := h
  have hj : i + k < out.length := by omega
  have o1 := h2.getD (i + k)
  have x1 := ha.getD i
  have y1 := hb.getD k
  rw [ho] at o1
  rw [hx] at x1
  rw [hy] at y1
  have hm := mul_bounds x1.1 x1.2 y1.1 y1.2
  refine ⟨?_, h2.set (by omega) (by omega), by simp [h3], fun j hj2 => ?_, by omega, by omega⟩
  · have e0 : i + (k + 1) = (i + k) + 1 := by omega
    rw [val_set hj, ho, valN, hy, e0, p_succ, hx]
    rw [hx] at h1
    have e1 := carry_step (o + x * y + c) (1000 ^ (i + k))
    have e2 : (o + x * y + c) * 1000 ^ (i + k) = o * 1000 ^ (i + k) + x * y * 1000 ^ (i + k) + c * 1000 ^ (i + k) := by rw [Int.add_mul, Int.add_mul]
    have e3 : ((o + x * y + c) % 1000 - o) * 1000 ^ (i + k) = (o + x * y + c) % 1000 * 1000 ^ (i + k) - o * 1000 ^ (i + k) := Int.sub_mul _ _ _
    have e4 : x * (valN b k + y * 1000 ^ k) * 1000 ^ i = x * valN b k * 1000 ^ i + x * y * 1000 ^ (i + k) := by
      rw [Int.mul_add, Int.add_mul, Int.pow_add, Int.mul_comm (1000 ^ i : Int) (1000 ^ k), ← Int.mul_assoc x y (1000 ^ k), Int.mul_assoc (x * y)]
    omega
  · rw [getD_set hj, if_neg (by omega)]; exact h4 j hj2
theorem MulIn.leave {a b out : List Int} {i : Nat} {c : Int} (h : MulIn a b i b.length out c) (hi : i < a.length) : MulOut a b (i + 1) (out.set (i + b.length) c) := by
  obtain ⟨h1, h2, h3, h4, h5, h6⟩ := h
  have hj : i + b.length < out.length := by omega
  refine ⟨?_, h2.set h5 h6, by simp [h3], fun j hj2 => ?_⟩
  · rw [val_set hj, h4 _ (Nat.le_refl _), valN]
    have e1 : (c - 0) * 1000 ^ (i + b.length) = c * 1000 ^ (i + b.length) := by simp
    have e2 : (valN a i + a.getD i 0 * 1000 ^ i) * val b = valN a i * val b + a.getD i 0 * valN b b.length * 1000 ^ i := by
      rw [Int.add_mul, Int.mul_assoc, Int.mul_assoc, Int.mul_comm (1000 ^ i : Int)]; rfl
    omega
  · rw [getD_set hj, if_neg (by omega)]; exact h4 j (by omega)
theorem MulOut.stop {a b out : List Int} (h : MulOut a b a.length out) : val out = val a * val b := h.1
/-- What the loops hold: the two boxes, the result's block, and the row that is filled. -/
def MulState (w : World) (x0 x1 y0 y1 : Value) (out : List Int) (wr : World) : Prop :=
  Boxes w w.heap.size x0 x1 y0 y1 wr ∧ wr.ownsRow (w.heap.size + 1 + 1 + 1) 3 1 (.slice (some ⟨w.heap.size + 1 + 1 + 1, 0, none⟩) out.length out.length) out.length (out.map (Value.int .i64))
theorem MulState.drewN {w wr : World} {x0 x1 y0 y1 : Value} {out : List Int} (h : MulState w x0 x1 y0 y1 out wr) (n : Nat) : MulState w x0 x1 y0 y1 out (wr.drewN n) := by
  obtain ⟨h1, h2⟩ := h
  exact ⟨h1.call (below_drewN (Below.refl _ _) n), h2⟩
theorem MulState.set {w wr : World} {x0 x1 y0 y1 : Value} {out : List Int} (h : MulState w x0 x1 y0 y1 out wr) (j : Nat) (x : Int) : MulState w x0 x1 y0 y1 (out.set j x) (wr.setCell ⟨w.heap.size + 1 + 1 + 1, j, none⟩ (.int .i64 x)) := by
  obtain ⟨⟨h1, h2, h3, h4, h5, h6, u, v, h7⟩, h8⟩ := h
  refine ⟨⟨?_, ?_, ?_, ?_, ?_, h6, u, v, ?_⟩, ?_⟩
  · rw [World.cell?_setCell_far _ _ _ _ (by simp <;> omega)]; exact h1
  · rw [World.cell?_setCell_far _ _ _ _ (by simp <;> omega)]; exact h2
  · rw [World.cell?_setCell_far _ _ _ _ (by simp <;> omega)]; exact h3
  · rw [World.cell?_setCell_far _ _ _ _ (by simp <;> omega)]; exact h4
  · exact h5.setCell (by simp <;> omega) _
  · rw [Below.heap_setCell _ _ _ _ (by simp <;> omega)]; exact h7
  · have := (h8.stored j (.int .i64 x)).1
    simpa [List.map_set] using this
theorem MulState.facts {w wr : World} {x0 x1 y0 y1 : Value} {out : List Int} (h : MulState w x0 x1 y0 y1 out wr) :
    wr.cell? ⟨w.heap.size, 0, none⟩ = some x0 ∧ wr.cell? ⟨w.heap.size, 1, none⟩ = some x1 ∧ wr.cell? ⟨w.heap.size + 1, 0, none⟩ = some y0 ∧ wr.cell? ⟨w.heap.size + 1, 1, none⟩ = some y1 ∧ Below w.heap.size w wr ∧
    ∀ j, j < out.length → wr.cell? ⟨w.heap.size + 1 + 1 + 1, j, none⟩ = some (.int .i64 (out.getD j 0)) ∧ wr.frozen? ⟨w.heap.size + 1 + 1 + 1, j, none⟩ = false := by
  obtain ⟨⟨h1, h2, h3, h4, h5, h6, h7⟩, h8⟩ := h
  refine ⟨h1, h2, h3, h4, h5, fun j hj => ⟨?_, h8.frozenAt j⟩⟩
  rw [h8.cellAt j (by omega)]
  simp [List.getD, hj]
theorem mul_start {w wr : World} {x0 x1 y0 y1 u v : Value} {n : Nat} {z : Array Value} (hz : z = #[.int .i64 0])
    (hown : wr.ownsRow (w.heap.size + 1 + 1 + 1) 3 1 (.slice (some ⟨w.heap.size + 1 + 1 + 1, 0, none⟩) n n) n (madeCells z (n * 1)).toList)
    (hg : (((w.alloc (.cells #[x0, x1] 89)).alloc (.cells #[y0, y1] 89)).alloc (.cells #[u, v] 89)).grownBy wr none) : MulState w x0 x1 y0 y1 (List.replicate n 0) wr := by
  subst hz
  have hb : Below (((w.alloc (.cells #[x0, x1] 89)).alloc (.cells #[y0, y1] 89)).alloc (.cells #[u, v] 89)).heap.size (((w.alloc (.cells #[x0, x1] 89)).alloc (.cells #[y0, y1] 89)).alloc (.cells #[u, v] 89)) wr :=
    (Below.refl _ _).grown hg (Nat.le_refl _) (fun k hk => by cases hk)
  refine ⟨(Boxes.start w x0 x1 y0 y1 u v).call hb, ?_⟩
  rw [toList_madeCells_one] at hown
  simpa using hown
theorem signed_mul (b1 b2 : Bool) (x y : Int) : signed (!(b1 == b2)) (x * y) = signed b1 x * signed b2 y := by
  cases b1 <;> cases b2 <;> simp [signed, Int.mul_neg, Int.neg_mul]
set_option maxHeartbeats 2000000 in
theorem num_mul (u v : Value) (x y : Int) (n : Nat) (w : World) (hu : IsNum w u x) (hv : IsNum w v y) (hx : Sized n x) (hy : Sized n y) (hn : n ≤ 274877906944) :
    Calls Tryz.prog 44 #[u, v] w (MadeNum w (x * y)) := by
  obtain ⟨i0, hi, hz0, hz1, hz2⟩ := info_parts Tryz.infoInt
  obtain ⟨b1, s1, a, rfl, i1, -, g1, y1, -, rfl⟩ := hu
  obtain ⟨b2, s2, b, rfl, i2, -, g2, y2, -, rfl⟩ := hv
  have la := len_of_sized g1 y1 hx
  have lb := len_of_sized g2 y2 hy
  have HA := Lib.hid i1
  have HB := Lib.hid i2
  have HD := Lib.hid (And.intro g1 g2)
  obtain ⟨p1, c1, rfl, -, -⟩ := i1
  obtain ⟨p2, c2, rfl, -, -⟩ := i2
  clear hx hy y1 y2 g1 g2
  go_enter Tryz.func44, Tryz.ntmps44
  go_wp2_with (at_make; refine wpList_make_full _ rfl _ _ 28 rfl (w.heap.size + 1 + 1 + 1) 3 i0 (.int .i64 0) 1 Tryz.underlying28 hi hz0 hz1 .i64 .i64 _ _ (a.length + b.length + 1) rfl rfl (by omega) (by omega) (by rw [hz2]; omega) (by unfold maxLen; omega) (by simp) ?_; intro w0 hown hgrow)
  simp only [World.size_alloc] at hown
  have hM := Lib.hid (mul_start rfl hown hgrow)
  clear hown hgrow
  go_wp2_with fail
  go_loopw [6] (fun i wr => ∃ (k : Nat) (out : List Int), k ≤ a.length ∧ i = .int .i64 k ∧ Hid (MulOut a b k out) ∧
      Hid (MulState w (.bool b1) (.slice p1 a.length c1) (.bool b2) (.slice p2 b.length c2) out wr)) (fun i _ => a.length - (intOf i).toNat)
  case atStart => exact ⟨0, _, Nat.zero_le _, rfl, Lib.hid (MulOut.start a b), hM⟩
  case round =>
    obtain ⟨k, out, hk, rfl, hO, hS⟩ := hrel
    clear hM
    by_cases hlt : k < a.length
    · obtain ⟨wo, rfl⟩ : ∃ wo : World, wo = wr := ⟨_, rfl⟩
      obtain ⟨q1, q2, q3, q4, hbw, -⟩ := hS.out.facts
      have HBW := Lib.hid hbw
      clear hbw
      go_wp2_with fail
      clear q1 q2 q3 q4 HBW
      go_loopw [7, 8] (fun c i wr => ∃ (j : Nat) (o2 : List Int) (cr : Int), j ≤ b.length ∧ c = .int .i64 cr ∧ i = .int .i64 j ∧ Hid (MulIn a b k j o2 cr) ∧ 0 ≤ cr ∧ cr ≤ 999 ∧
          Hid (MulState w (.bool b1) (.slice p1 a.length c1) (.bool b2) (.slice p2 b.length c2) o2 wr)) (fun _ i _ => b.length - (intOf i).toNat)
      case atStart => exact ⟨0, out, 0, Nat.zero_le _, rfl, rfl, Lib.hid hO.out.enter, by omega, by omega, hS⟩
      case round =>
        obtain ⟨j, o2, cr, hj, rfl, rfl, hI, cr0, cr1, hT⟩ := hrel
        clear hS hO
        obtain ⟨q1, q2, q3, q4, hbw, hcells⟩ := hT.out.facts
        have hlen := Lib.hid hI.out.2.2.1
        by_cases hjl : j < b.length
        · have hkj : k + j < o2.length := by have := hlen.out; omega
          obtain ⟨hc1, hf1⟩ := hcells (k + j) hkj
          obtain ⟨pb, po, rfl, hpb, hpa⟩ := HA.out.cell hlt
          obtain ⟨qb, qo, rfl, hqb, hqa⟩ := HB.out.cell hjl
          have hpa := cell_later hbw hpa
          have hqa := cell_later hbw hqa
          have ox := hI.out.2.1.getD (k + j)
          have ax := HD.out.1.getD k
          have bx := HD.out.2.getD j
          have hst := Lib.hid (fun (o x y : Int) (ho : o2.getD (k + j) 0 = o) (hx : a.getD k 0 = x) (hy : b.getD j 0 = y) => hI.out.step HD.out.1 HD.out.2 hlt hjl o x y ho hx hy)
          generalize o2.getD (k + j) 0 = o at *
          generalize a.getD k 0 = x at *
          generalize b.getD j 0 = y at *
          have hst2 := Lib.hid (hst.out o x y rfl rfl rfl)
          have hTT := Lib.hid (fun (n : Nat) (z : Int) => (hT.out.drewN n).set (k + j) z)
          obtain ⟨o1, o9⟩ := ox
          obtain ⟨m1, m2⟩ := mul_bounds ax.1 ax.2 bx.1 bx.2
          clear hst hcells hI hT hbw ax bx hpb hqb
          have hB1 : (0 : Int) ≤ (k : Int) := by omega
          have hB2 : (k : Int) < (a.length : Int) := by omega
          have hB3 : (0 : Int) ≤ (j : Int) := by omega
          have hB4 : (j : Int) < (b.length : Int) := by omega
          have hB5 : (0 : Int) ≤ (k : Int) + (j : Int) := by omega
          have hB6 : (k : Int) + (j : Int) < (o2.length : Int) := by omega
          have e1 : IntKind.i64.wrap ((k : Int) + (j : Int)) = (k : Int) + (j : Int) := IntWalk.i64_in _ (by omega)
          have e5 : ((k : Int) + (j : Int)).toNat = k + j := by omega
          have e2 : IntKind.i64.wrap (x * y) = x * y := IntWalk.i64_in _ (by omega)
          have e3 : IntKind.i64.wrap (o + x * y) = o + x * y := IntWalk.i64_in _ (by omega)
          have e4 : IntKind.i64.wrap (o + x * y + cr) = o + x * y + cr := IntWalk.i64_in _ (by omega)
          go_wp2_with fail
          go_quiet (fail)
          have hs0 : 0 ≤ o + x * y + cr := by omega
          have hs1 : o + x * y + cr ≤ 999999 := by omega
          clear e1 e2 e3 e4 e5 hB5 hB6 m1 m2 o1 o9
          generalize o + x * y + cr = t at *
          go_wp2_with fail
          go_roundw
          case rel => exact ⟨j + 1, _, t / 1000, by omega, rfl, by go_num, hst2, by omega, by omega, Lib.hid (hTT.out nq (t % 1000))⟩
          case measure => simp [intOf]; omega
        · obtain rfl : j = b.length := by omega
          have hO2 := Lib.hid (hI.out.leave hlt)
          have hkj : k + b.length < o2.length := by have := hlen.out; omega
          obtain ⟨hc1, hf1⟩ := hcells (k + b.length) hkj
          have hT2 := Lib.hid (hT.out.set (k + b.length) cr)
          clear hI hT hbw hcells
          go_wp2_with fail
          go_roundw
          case rel => exact ⟨k + 1, _, by omega, by go_num, hO2, hT2⟩
          case measure => simp [intOf]; omega
    · obtain rfl : k = a.length := by omega
      obtain ⟨⟨q1, q2, q3, q4, hkept⟩, hown⟩ := hS.out
      have hval := Lib.hid (signed_mul b1 b2 (val a) (val b))
      have hvo := hO.out.stop
      have hlen := hO.out.2.2.1
      have hMade := Lib.hid (made_any (!(b1 == b2)) _ out wr (Ints.own hown) (Typed.own hown) hO.out.2.1 (by omega))
      rw [hlen, hvo] at hMade
      have HK := Lib.hid hkept
      have HL := Lib.hid hlen
      clear hS hO hown hkept hlen HA HB HD hvo
      go_wp2_with fail
      refine (hMade.out).mono ?_; rintro e w2 ⟨r, rfl, hr, hb2⟩
      have hk2 := HK.out.call hb2
      obtain ⟨rn, rp, rl, rc, rfl⟩ := hr.shape
      obtain ⟨⟨x1, hx1⟩, ⟨y1, hy1⟩, hf1, hf2⟩ := hk2.cells
      have hN := hk2.num hr
      have hE := (hk2.store (.bool rn) (.slice rp rl rc)).1
      rw [hval.out] at hN
      clear hk2 hr hb2 HK hMade hval
      go_wp2_with fail
      exact bodyPost_ret (v := .agg #[.bool rn, .slice rp rl rc]) (by simp [results, Tryz.results44, go_sem, hx1, hy1]) rfl ⟨_, rfl, hN, hE⟩
end Go.Proofs.YtigikgphipebiaaGreatDoor
/- Plain facts on long division of digits of base 1000; and an append of a list that is read elsewhere. -/
namespace Go.Proofs.YtigikgphipebiaaGreatDoor
set_option maxRecDepth 100000
open Go.RowKit
theorem valN_cons (y : Int) (l : List Int) (n : Nat) : valN (y :: l) (n + 1) = y + 1000 * valN l n := by
  induction n with
  | zero => simp [valN, List.getD]
  | succ n ih =>
    rw [valN, ih, valN, p_succ]
    have : (y :: l).getD (n + 1) 0 = l.getD n 0 := by simp [List.getD]
    rw [this]
    have e : 1000 * (l.getD n 0 * 1000 ^ n) = l.getD n 0 * (1000 ^ n * 1000) := by rw [← Int.mul_assoc, Int.mul_comm 1000, Int.mul_assoc, Int.mul_comm 1000]
    rw [Int.mul_add]; omega
theorem val_cons (y : Int) (l : List Int) : val (y :: l) = y + 1000 * val l := by
  rw [val, List.length_cons, valN_cons]; rfl
theorem Dig.cons {l : List Int} (h : Dig l) {y : Int} (h1 : 0 ≤ y) (h2 : y ≤ 999) : Dig (y :: l) := by
  intro x hx
  rcases List.mem_cons.1 hx with rfl | hx
  · exact ⟨h1, h2⟩
  · exact h x hx
/-- Long division: the digits from i on are done. -/
def DivRel (a q : List Int) (B : Int) (i : Nat) (r : Int) : Prop :=
  ∃ X Q : Int, val a = valN a i + 1000 ^ i * X ∧ val q = 1000 ^ i * Q ∧ X = Q * B + r ∧ 0 ≤ r ∧ r < B ∧ Dig q ∧ q.length = a.length ∧ (∀ j, j < i → q.getD j 0 = 0) ∧ 0 ≤ Q
theorem DivRel.start (a : List Int) {B : Int} (hB : 0 < B) : DivRel a (List.replicate a.length 0) B a.length 0 := by
  refine ⟨0, 0, by simp [val], by rw [val_replicate]; simp, by simp, by omega, hB, fun x hx => ?_, by simp, fun j _ => ?_, by omega⟩
  · have := List.eq_of_mem_replicate hx; omega
  · simp [List.getD, List.getElem?_replicate]; split <;> simp
theorem DivRel.step {a q : List Int} {B r : Int} {m : Nat} (h : DivRel a q B (m + 1) r) (hm : m < a.length) (y t : Int) (hy : a.getD m 0 = y) (t0 : 0 ≤ t) (t1 : t ≤ 999) (h1 : t * B ≤ r * 1000 + y) (h2 : r * 1000 + y < (t + 1) * B) :
    DivRel a (q.set m t) B m (r * 1000 + y - t * B) := by
  obtain ⟨X, Q, e1, e2, e3, e4, e5, e6, e7, e8, e9⟩ := h
  have hl : m < q.length := by omega
  rw [Int.add_mul] at h2
  refine ⟨X * 1000 + y, Q * 1000 + t, ?_, ?_, ?_, by omega, by omega, e6.set t0 t1, by simp [e7], fun j hj => ?_, by omega⟩
  · rw [valN, p_succ, hy] at e1
    have q1 : 1000 ^ m * 1000 * X = 1000 ^ m * (X * 1000) := by rw [Int.mul_assoc, Int.mul_comm 1000 X]
    have q2 : 1000 ^ m * (X * 1000 + y) = 1000 ^ m * (X * 1000) + 1000 ^ m * y := Int.mul_add _ _ _
    have q3 : y * 1000 ^ m = 1000 ^ m * y := Int.mul_comm _ _
    omega
  · rw [val_set hl, e8 m (by omega), e2, p_succ]
    have q1 : 1000 ^ m * 1000 * Q = 1000 ^ m * (Q * 1000) := by rw [Int.mul_assoc, Int.mul_comm 1000 Q]
    have q2 : 1000 ^ m * (Q * 1000 + t) = 1000 ^ m * (Q * 1000) + 1000 ^ m * t := Int.mul_add _ _ _
    have q3 : (t - 0) * 1000 ^ m = 1000 ^ m * t := by rw [Int.sub_zero, Int.mul_comm]
    omega
  · have q1 : (Q * 1000 + t) * B = Q * B * 1000 + t * B := by rw [Int.add_mul, Int.mul_assoc, Int.mul_comm 1000 B, ← Int.mul_assoc]
    rw [q1, e3]; omega
  · rw [getD_set hl, if_neg (by omega)]; exact e8 j (by omega)
theorem set_zero {q : List Int} {m : Nat} (h : q.getD m 0 = 0) : q.set m 0 = q := by
  apply List.ext_getElem?
  intro i
  rw [List.getElem?_set]
  by_cases e : m = i
  · subst e
    by_cases hl : m < q.length
    · simp [hl]; simp [List.getD, hl] at h; exact h.symm
    · simp [hl]
  · simp [e]
/-- A digit of 0: the list stays. -/
theorem DivRel.skip {a q : List Int} {B r : Int} {m : Nat} (h : DivRel a q B (m + 1) r) (hm : m < a.length) (y : Int) (hy : a.getD m 0 = y) (y0 : 0 ≤ y) (h2 : r * 1000 + y < B) : DivRel a q B m (r * 1000 + y) := by
  have hr : 0 ≤ r := by obtain ⟨_, _, _, _, _, e4, _⟩ := h; exact e4
  have hz : q.getD m 0 = 0 := by obtain ⟨_, _, _, _, _, _, _, _, _, e8, _⟩ := h; exact e8 m (by omega)
  have := h.step hm y 0 hy (by omega) (by omega) (by omega) (by omega)
  rw [set_zero hz] at this
  simpa using this
theorem DivRel.first {a q : List Int} {B r : Int} {m : Nat} (h : DivRel a q B m r) {y : Int} (y1 : y ≤ 999) : r * 1000 + y < (999 + 1) * B := by
  obtain ⟨_, _, _, _, _, e4, e5, _⟩ := h
  rw [show ((999 : Int) + 1) = 1000 from rfl]; omega
theorem DivRel.stop {a q : List Int} {B r : Int} (h : DivRel a q B 0 r) : val a = val q * B + r ∧ 0 ≤ r ∧ r < B ∧ Dig q ∧ q.length = a.length ∧ 0 ≤ val q := by
  obtain ⟨X, Q, e1, e2, e3, e4, e5, e6, e7, e8, e9⟩ := h
  simp [valN] at e1 e2
  rw [e2, e1, e3]
  exact ⟨rfl, e4, e5, e6, e7, e9⟩
/-- The floor out of the absolute values' quotient and remainder. -/
theorem floor_signed (b1 b2 : Bool) (A B Q r : Int) (h : A = Q * B + r) (h0 : 0 ≤ r) (h1 : r < B) :
    (b1 = b2 → (signed b1 A).fdiv (signed b2 B) = Q ∧ signed b1 A - Q * signed b2 B = (signed b1 A).fmod (signed b2 B)) ∧
    (b1 ≠ b2 → r = 0 → (signed b1 A).fdiv (signed b2 B) = -Q ∧ signed b1 A - -Q * signed b2 B = (signed b1 A).fmod (signed b2 B)) ∧
    (b1 ≠ b2 → 0 < r → (signed b1 A).fdiv (signed b2 B) = -Q - 1 ∧ signed b1 A - (-Q - 1) * signed b2 B = (signed b1 A).fmod (signed b2 B)) := by
  have key : ∀ x : Int, (0 < signed b2 B → 0 ≤ signed b1 A - x * signed b2 B ∧ signed b1 A - x * signed b2 B < signed b2 B) → (signed b2 B < 0 → signed b2 B < signed b1 A - x * signed b2 B ∧ signed b1 A - x * signed b2 B ≤ 0) → signed b2 B ≠ 0 →
      (signed b1 A).fdiv (signed b2 B) = x ∧ signed b1 A - x * signed b2 B = (signed b1 A).fmod (signed b2 B) := fun x p1 p2 p3 => by
    have := floor_unique (signed b1 A) (signed b2 B) x (signed b1 A - x * signed b2 B) (by rw [Int.mul_comm (signed b2 B) x]; omega) p1 p2 p3
    exact ⟨this.1, this.2.symm⟩
  have eQ : Q * -B = -(Q * B) := Int.mul_neg _ _
  have eN : -Q * B = -(Q * B) := Int.neg_mul _ _
  have eNN : -Q * -B = Q * B := Int.neg_mul_neg _ _
  have eM : (-Q - 1) * B = -(Q * B) - B := by rw [Int.sub_mul, Int.neg_mul]; omega
  have eMN : (-Q - 1) * -B = Q * B + B := by rw [Int.sub_mul, Int.neg_mul_neg]; omega
  subst h
  generalize hP : Q * B = P at *
  cases b1 <;> cases b2
  all_goals refine ⟨fun e => ?_, fun e e2 => ?_, fun e e2 => ?_⟩
  all_goals first
    | (exfalso; simp at e; done)
    | (apply key <;> simp only [signed, cond_true, cond_false, hP, eQ, eN, eNN, eM, eMN] <;> (try intro _) <;> omega)
section
variable {P : Program} (w : World)
theorem run_append_nil (base : Nat) (t ty e : TypeId) (i : TypeInfo) (size : Nat) (ht : P.underlying t = some (.slice e)) (hi : P.info? e = some i)
    (v : Value) (n : Nat) (xs : List Value) (hown : w.ownsRow base e size v n xs) (c : Nat) : (Builtin.append_ #[t, t] ty #[v, .slice none 0 c]).run P w = .ok v w := by
  rcases hown.2 with ⟨rfl, rfl⟩ | ⟨g, cap, cur, rfl, _, _, hnc, _⟩
  · simp [Builtin.append_, run_underlying ht, sizeOf, typeInfo, hi, Builtin.lenOf, Builtin.firstCells]
  · simp [Builtin.append_, run_underlying ht, sizeOf, typeInfo, hi, Builtin.lenOf, Builtin.firstCells, hnc, storeCells]
/-- An append of integers that are read elsewhere (nil and empty among them) to a row of the call's own. -/
theorem run_append_ints (base : Nat) (t ty e : TypeId) (i : TypeInfo) (z : Value) (bytes : Nat) (ht : P.underlying t = some (.slice e)) (hi : P.info? e = some i) (hz : i.zero = some z) (hsize : i.size = 1) (hby : i.bytes = bytes) (hzs : z.cells.size = 1)
    (k : IntKind) (v v2 : Value) (zs ns : List Int) (hown : w.ownsRow base e 1 v zs.length (zs.map (Value.int k))) (hv2 : Ints k w v2 ns) (h63 : zs.length + ns.length ≤ maxLen) (hbytes : (zs.length + ns.length) * bytes ≤ 140737488355328) (hbase : base ≤ w.heap.size) :
    ∃ v' w', (Builtin.append_ #[t, t] ty #[v, v2]).run P w = .ok v' w' ∧ w'.ownsRow base e 1 v' (zs ++ ns).length ((zs ++ ns).map (Value.int k)) ∧ w.grownBy w' v.ownBlock := by
  obtain ⟨a, cap, rfl, hc, ha⟩ := hv2
  have one : ∀ u ∈ ns.map (Value.int k), u.oneCell' = true := by
    intro u hu; obtain ⟨x, _, rfl⟩ := List.mem_map.1 hu; rfl
  have fin : ∀ (v' : Value) (w' : World), w'.ownsRow base e 1 v' (zs.length + ns.length) (zs.map (Value.int k) ++ ns.map (Value.int k)) → w'.ownsRow base e 1 v' (zs ++ ns).length ((zs ++ ns).map (Value.int k)) := fun v' w' h => by
    simpa using h
  cases a with
  | none =>
    have hn : ns = [] := by
      rcases ha with h | ⟨b, off, h, _⟩
      · exact h
      · cases h
    subst hn
    exact ⟨v, w, run_append_nil w base t ty e i 1 ht hi v _ _ hown cap, fin v w (by simpa using hown), World.grownBy.refl w _⟩
  | some ad =>
    have hnews : ∀ j u, (ns.map (Value.int k))[j]? = some u → w.cell? (ad.add j) = some u := fun j u hj => by
      rcases ha with h | ⟨b, off, h, _, hcell⟩
      · subst h; simp at hj
      · simp only [Option.some.injEq] at h
        subst h
        rw [List.getElem?_map] at hj
        obtain ⟨x, hx, rfl⟩ := Option.map_eq_some_iff.1 hj
        have hl := (List.getElem?_eq_some_iff.1 hx).1
        have hh := hcell j hl
        have e1 : ns.getD j 0 = x := by simp [List.getD, hx]
        rw [e1] at hh
        by_cases h0 : j = 0
        · subst h0; simpa [Addr.add] using hh
        · simpa [Addr.add, h0] using hh
    obtain ⟨v', w', hrun, r1, r2, _⟩ := run_append_own (P := P) w base t ty e i z 1 bytes ht hi hz hsize hby hzs (by omega) v zs.length _ hown ad ns.length cap (ns.map (Value.int k)) (by simp) hnews one h63 hbytes hbase
    exact ⟨v', w', hrun, fin v' w' r1, r2⟩
/-- The same as an operation of a region that draws its order. -/
theorem step_append_ints {ops : Array Oper} {o : Oper} {a : Act} {K : Act → World → Prop} {Q : Exit → Act → World → Prop} {E : Prop} (hgd : o.guard = none) (s x : Operand) (t : TypeId)
    (ho : o.op = .call { callee := .builtin .append, args := #[s, x], argTypes := #[t, t] })
    (base : Nat) (e : TypeId) (i : TypeInfo) (z : Value) (bytes : Nat) (ht : P.underlying t = some (.slice e)) (hi : P.info? e = some i) (hz : i.zero = some z) (hsize : i.size = 1) (hby : i.bytes = bytes) (hzs : z.cells.size = 1)
    (k : IntKind) (v v2 : Value) (zs ns : List Int) (hs : a.eval s = v) (hx : a.eval x = v2) (hown : w.ownsRow base e 1 v zs.length (zs.map (Value.int k))) (hv2 : Ints k w v2 ns) (h63 : zs.length + ns.length ≤ maxLen) (hbytes : (zs.length + ns.length) * bytes ≤ 140737488355328) (hbase : base ≤ w.heap.size)
    (h : ∀ v' w', w'.ownsRow base e 1 v' (zs ++ ns).length ((zs ++ ns).map (Value.int k)) → w.grownBy w' v.ownBlock → K (a.put o.dst v') w') :
    if Region.wanted o (yielded ops a.tmps) = true then Oper.wp P o a w K Q else E := by
  have hw : Region.wanted o (yielded ops a.tmps) = true := by simp [Region.wanted, hgd]
  rw [if_pos hw]
  obtain ⟨v', w', hrun, r1, r2⟩ := run_append_ints (P := P) w base t o.type e i z bytes ht hi hz hsize hby hzs k v v2 zs ns hown hv2 h63 hbytes hbase
  unfold Oper.wp
  simp [execOp, ho, resolve, invoke, builtin, hs, hx, hrun, Result.andThen]
  exact h v' w' r1 r2
end
end Go.Proofs.YtigikgphipebiaaGreatDoor
