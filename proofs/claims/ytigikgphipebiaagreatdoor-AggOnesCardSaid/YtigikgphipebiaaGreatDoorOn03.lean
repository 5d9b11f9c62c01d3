/- Contracts that the law leans on, pruned and merged: Refg Mul. -/
import Derived.Test.YtigikgphipebiaaGreatDoorOn02
/- What Int and Is of the reference's numbers return. -/
namespace Go.Proofs.YtigikgphipebiaaGreatDoor
set_option maxRecDepth 100000
open Go.RowKit
theorem IsNum.shape {w : World} {v : Value} {z : Int} (h : IsNum w v z) : ∃ b p l c, v = .agg #[.bool b, .slice p l c] := by
  obtain ⟨b, s, d, rfl, ⟨p, c, rfl, -⟩, -⟩ := h
  exact ⟨b, p, _, c, rfl⟩
theorem Sized.neg {n : Nat} {z : Int} (h : Sized n z) : Sized n (-z) := ⟨by have := h.2; omega, by have := h.1; omega⟩
theorem Sized.mono {m n : Nat} {z : Int} (h : Sized m z) (hm : m ≤ n) : Sized n z := by
  have := p_mono hm
  exact ⟨by have := h.1; omega, by have := h.2; omega⟩
theorem sized8 {z : Int} (h1 : -999999999999999999999999 ≤ z) (h2 : z ≤ 999999999999999999999999) : Sized 8 z := by
  have h3 : (1000 : Int) ^ 8 = 1000000000000000000000000 := by decide
  exact ⟨by omega, by omega⟩
theorem Kept.start (w : World) (x y : Value) (T : TypeId) : Kept w w.heap.size T (w.alloc (.cells #[x, y] T)) := ⟨below_one w _, Nat.le_refl _, x, y, heap_alloc_new w _⟩
set_option maxHeartbeats 1000000 in
theorem of_any (x : Int) (w : World) (h1 : -9223372036854775808 ≤ x) (h2 : x ≤ 9223372036854775807) :
    Calls Tryz.prog 42 #[.int .i64 x] w (MadeNum w x) := by
  have hk0 := Lib.hid (Kept.start w (.bool false) (.slice none 0 0) 89)
  by_cases h0 : x < 0
  · have hA := Lib.hid (fun w1 => nat_any (-(x + 1)) w1 (by omega) (by omega))
    have hO := Lib.hid (fun w1 => nat_any 1 w1 (by omega) (by omega))
    have hS := Lib.hid (fun w1 r s (hr : IsNum w1 r (-(x + 1))) (hs : IsNum w1 s 1) => num_add r s _ _ 8 w1 hr hs (sized8 (by omega) (by omega)) (sized8 (by omega) (by omega)) (by omega))
    have hT := Lib.hid (fun w1 r (hr : IsNum w1 r (-(x + 1) + 1)) => (neg_any r _ 8 w1 hr (sized8 (by omega) (by omega)) (by omega)).mono (MadeNum.to (z' := x) (by omega)))
    go_enter Tryz.func42, Tryz.ntmps42
    go_wp2_with fail
    refine (hA.out _).mono ?_; rintro e w1 ⟨r, rfl, hr, hb⟩
    have hk := hk0.out.call hb
    go_wp2_with fail
    refine (hO.out _).mono ?_; rintro e w2 ⟨s, rfl, hs, hb2⟩
    have hk := hk.call hb2
    have hr := hr.below hb2
    go_wp2_with fail
    refine (hS.out _ _ _ hr hs).mono ?_; rintro e w3 ⟨t, rfl, ht, hb3⟩
    have hk := hk.call hb3
    clear hr hs hb hb2
    go_wp2_with fail
    refine (hT.out _ _ ht).mono ?_; rintro e w4 ⟨q, rfl, hq, hb4⟩
    have hk := hk.call hb4
    clear ht hb3 hb4 hk0
    obtain ⟨rn, rp, rl, rc, rfl⟩ := hq.shape
    obtain ⟨⟨x1, hx1⟩, ⟨y1, hy1⟩, hf1, hf2⟩ := hk.cells
    have hN := hk.num hq
    have hE := (hk.store (.bool rn) (.slice rp rl rc)).1
    clear hk hq
    go_wp2_with fail
    exact bodyPost_ret (v := .agg #[.bool rn, .slice rp rl rc]) (by simp [results, Tryz.results42, go_sem, hx1, hy1]) rfl ⟨_, rfl, hN, hE⟩
  · have hA := Lib.hid (fun w1 => nat_any x w1 (by omega) (by omega))
    go_enter Tryz.func42, Tryz.ntmps42
    go_wp2_with fail
    refine (hA.out _).mono ?_; rintro e w4 ⟨q, rfl, hq, hb4⟩
    have hk := hk0.out.call hb4
    clear hb4 hk0
    obtain ⟨rn, rp, rl, rc, rfl⟩ := hq.shape
    obtain ⟨⟨x1, hx1⟩, ⟨y1, hy1⟩, hf1, hf2⟩ := hk.cells
    have hN := hk.num hq
    have hE := (hk.store (.bool rn) (.slice rp rl rc)).1
    clear hk hq
    go_wp2_with fail
    exact bodyPost_ret (v := .agg #[.bool rn, .slice rp rl rc]) (by simp [results, Tryz.results42, go_sem, hx1, hy1]) rfl ⟨_, rfl, hN, hE⟩
theorem below_two (w : World) (o p : Obj) : Below w.heap.size w ((w.alloc o).alloc p) := (below_one w o).alloc (by simp) p
/-- A comparison. -/
def Compared (w : World) (c : Int) (e : Ending) (w' : World) : Prop := e = .returned (.int .i64 c) ∧ Below w.heap.size w w'
set_option maxHeartbeats 1000000 in
theorem num_cmp (u v : Value) (x y : Int) (n : Nat) (w : World) (hu : IsNum w u x) (hv : IsNum w v y) (hx : Sized n x) (hy : Sized n y) (hn : n ≤ 1099511627770) :
    Calls Tryz.prog 125 #[u, v] w (Compared w (cmpI x y)) := by
  obtain ⟨b1, s1, d1, rfl, i1, -, g1, y1, n1, rfl⟩ := hu
  obtain ⟨b2, s2, d2, rfl, i2, -, g2, y2, n2, rfl⟩ := hv
  have l1 := len_of_sized g1 y1 hx
  have l2 := len_of_sized g2 y2 hy
  have r1 := (val_range g1).1
  have r2 := (val_range g2).1
  have hL := Lib.hid (fun w1 (hb : Below w.heap.size w w1) => less_any s1 s2 d1 d2 w1 (i1.below hb) (i2.below hb) g1 g2 (by omega) (by omega))
  have hR := Lib.hid (fun w1 (hb : Below w.heap.size w w1) => less_any s2 s1 d2 d1 w1 (i2.below hb) (i1.below hb) g2 g1 (by omega) (by omega))
  have q1 : b1 = true → 0 < val d1 := fun h => y1.pos g1 (n1 h)
  have q2 : b2 = true → 0 < val d2 := fun h => y2.pos g2 (n2 h)
  obtain ⟨p1, c1, rfl, -, -⟩ := i1
  obtain ⟨p2, c2, rfl, -, -⟩ := i2
  have Q1 := Lib.hid q1
  have Q2 := Lib.hid q2
  clear hx hy y1 y2 n1 n2 q1 q2
  have hb0 := Lib.hid (below_two w (.cells #[.bool b1, .slice p1 d1.length c1] 89) (.cells #[.bool b2, .slice p2 d2.length c2] 89))
  cases b1 <;> cases b2
  · go_enter Tryz.func125, Tryz.ntmps125
    go_wp2_with fail
    refine (hL.out _ hb0.out).mono ?_; rintro e w' ⟨rfl, rfl⟩
    go_wp2_with fail
    go_ret
    exact ⟨ret_int (by simp [signed]), hb0.out⟩
  · have e := Lib.hid (cmpI_gt (x := val d1) (y := -val d2) (by have := Q2.out rfl; omega))
    go_enter Tryz.func125, Tryz.ntmps125
    go_wp2_with fail
    go_ret
    exact ⟨ret_int (by simp [signed, e.out]), hb0.out⟩
  · have e := Lib.hid (cmpI_lt (x := -val d1) (y := val d2) (by have := Q1.out rfl; omega))
    go_enter Tryz.func125, Tryz.ntmps125
    go_wp2_with fail
    go_ret
    exact ⟨ret_int (by simp [signed, e.out]), hb0.out⟩
  · go_enter Tryz.func125, Tryz.ntmps125
    go_wp2_with fail
    refine (hR.out _ hb0.out).mono ?_; rintro e w' ⟨rfl, rfl⟩
    go_wp2_with fail
    go_ret
    exact ⟨ret_int (by simp only [signed, cond_true]; unfold cmpI; split <;> split <;> (try split) <;> (try split) <;> omega), hb0.out⟩
set_option maxRecDepth 100000
open Go.RowKit
def Horner (a : List Int) (k : Nat) (x : Int) : Prop := val a = valN a k + 1000 ^ k * x ∧ 0 ≤ x
theorem Horner.step {a : List Int} {m : Nat} {x : Int} (hd : Dig a) (h : Horner a (m + 1) x) (y : Int) (hy : a.getD m 0 = y) : Horner a m (x * 1000 + y) := by
  obtain ⟨h1, h2⟩ := h
  have h3 := hd.getD m
  rw [hy] at h3
  refine ⟨?_, by omega⟩
  rw [valN, p_succ, hy] at h1
  have e1 : 1000 ^ m * 1000 * x = 1000 ^ m * (x * 1000) := by rw [Int.mul_assoc, Int.mul_comm 1000 x]
  have e2 : 1000 ^ m * (x * 1000 + y) = 1000 ^ m * (x * 1000) + 1000 ^ m * y := Int.mul_add _ _ _
  have e3 : y * 1000 ^ m = 1000 ^ m * y := Int.mul_comm _ _
  omega
/-- One box, read; and what is kept. -/
def Box1 (w : World) (N : Nat) (a b : Value) (w' : World) : Prop := w'.cell? ⟨N, 0, none⟩ = some a ∧ w'.cell? ⟨N, 1, none⟩ = some b ∧ Below w.heap.size w w'
theorem Box1.call {w w1 w2 : World} {N : Nat} {a b : Value} (h : Box1 w N a b w1) (hb : Below w1.heap.size w1 w2) : Box1 w N a b w2 :=
  ⟨cell_later hb h.1, cell_later hb h.2.1, h.2.2.trans (hb.mono h.2.2.size)⟩
theorem Box1.drew {w w1 : World} {N : Nat} {a b : Value} (h : Box1 w N a b w1) : Box1 w N a b w1.drew := h.call (Below.refl _ _).drew
theorem Box1.start (w : World) (a b : Value) (T : TypeId) : Box1 w w.heap.size a b (w.alloc (.cells #[a, b] T)) := ⟨by simp [go_sem], by simp [go_sem], below_one w _⟩
set_option maxRecDepth 100000
open Go.RowKit
end Go.Proofs.YtigikgphipebiaaGreatDoor
/- The product of the reference's numbers: digit by digit. -/
namespace Go.Proofs.YtigikgphipebiaaGreatDoor
set_option maxRecDepth 100000
open Go.RowKit
theorem getD_set {l : List Int} {j i : Nat} {x : Int} (h : j < l.length) : (l.set j x).getD i 0 = if i = j then x else l.getD i 0 := by
  simp only [List.getD, List.getElem?_set]
  by_cases e : j = i
  · subst e; simp [h]
  · have : ¬ i = j := fun q => e q.symm
    simp [e, this]
theorem valN_set {l : List Int} {j : Nat} {x : Int} (h : j < l.length) (n : Nat) : valN (l.set j x) n = valN l n + if j < n then (x - l.getD j 0) * 1000 ^ j else 0 := by
  induction n with
  | zero => simp [valN]
  | succ n ih =>
    rw [valN, valN, ih, getD_set h]
    by_cases e : n = j
    · subst e; simp [Int.sub_mul]; omega
    · by_cases hl : j < n
      · have : j < n + 1 := by omega
        simp [hl, this, e]; omega
      · have : ¬ j < n + 1 := by omega
        simp [hl, this, e]
theorem val_set {l : List Int} {j : Nat} {x : Int} (h : j < l.length) : val (l.set j x) = val l + (x - l.getD j 0) * 1000 ^ j := by
  rw [val, List.length_set, valN_set h, if_pos h]; rfl
theorem Dig.set {l : List Int} (hd : Dig l) {j : Nat} {x : Int} (h1 : 0 ≤ x) (h2 : x ≤ 999) : Dig (l.set j x) := by
  intro y hy
  rcases List.mem_or_eq_of_mem_set hy with h | h
  · exact hd y h
  · subst h; exact ⟨h1, h2⟩
/-- The outer loop: the first i digits of a times b; above that noughts. -/
def MulOut (a b : List Int) (i : Nat) (out : List Int) : Prop := val out = valN a i * val b ∧ Dig out ∧ out.length = a.length + b.length + 1 ∧ ∀ j, i + b.length ≤ j → out.getD j 0 = 0
/-- The inner loop. -/
def MulIn (a b : List Int) (i k : Nat) (out : List Int) (c : Int) : Prop :=
  val out + c * 1000 ^ (i + k) = valN a i * val b + a.getD i 0 * valN b k * 1000 ^ i ∧ Dig out ∧ out.length = a.length + b.length + 1 ∧ (∀ j, i + b.length ≤ j → out.getD j 0 = 0) ∧ 0 ≤ c ∧ c ≤ 999
theorem MulOut.enter {a b out : List Int} {i : Nat} (h : MulOut a b i out) : MulIn a b i 0 out 0 := by
  obtain ⟨h1, h2, h3, h4⟩ := h
  exact ⟨by simp [valN, h1], h2, h3, h4, by omega, by omega⟩
theorem val_replicate (n : Nat) : val (List.replicate n (0 : Int)) = 0 := by
  have h : val (List.replicate n (0 : Int)) = val [] := val_eq_of_same (fun i => by simp [List.getD, List.getElem?_replicate]; split <;> simp)
  rw [h]; rfl
theorem MulOut.start (a b : List Int) : MulOut a b 0 (List.replicate (a.length + b.length + 1) 0) := by
  refine ⟨by simp [valN, val_replicate], fun x hx => ?_, by simp, fun j _ => ?_⟩
  · have := List.eq_of_mem_replicate hx; omega
  · simp [List.getD, List.getElem?_replicate]; split <;> simp
theorem mul_bounds {x y : Int} (h1 : 0 ≤ x) (h2 : x ≤ 999) (h3 : 0 ≤ y) (h4 : y ≤ 999) : 0 ≤ x * y ∧ x * y ≤ 998001 := by
  refine ⟨Int.mul_nonneg h1 h3, ?_⟩
  calc x * y ≤ 999 * y := Int.mul_le_mul_of_nonneg_right h2 h3
    _ ≤ 999 * 999 := Int.mul_le_mul_of_nonneg_left h4 (by omega)
theorem MulIn.step {a b out : List Int} {i k : Nat} {c : Int} (h : MulIn a b i k out c) (ha : Dig a) (hb : Dig b) (hi : i < a.length) (hk : k < b.length) (o x y : Int) (ho : out.getD (i + k) 0 = o) (hx : a.getD i 0 = x) (hy : b.getD k 0 = y) :
    MulIn a b i (k + 1) (out.set (i + k) ((o + x * y + c) % 1000)) ((o + x * y + c) / 1000) := by
  obtain ⟨h1, h2, h3, h4, h5, h6⟩ := h
  have hj : i + k < out.length := by omega
  have o1 := h2.getD (i + k)
  have x1 := ha.getD i
  have y1 := hb.getD k
  rw [ho] at o1
  rw [hx] at x1
  rw [hy] at y1
  have hm := mul_bounds x1.1 x1.2 y1.1 y1.2
  refine ⟨?_, h2.set (by omega) (by omega), by simp [h3], fun j hj2 => ?_, by omega, by omega⟩
  · have e0 : i + (k + 1) = (i + k) + 1 := by omega
    rw [val_set hj, ho, valN, hy, e0, p_succ, hx]
    rw [hx] at h1
    have e1 := carry_step (o + x * y + c) (1000 ^ (i + k))
    have e2 : (o + x * y + c) * 1000 ^ (i + k) = o * 1000 ^ (i + k) + x * y * 1000 ^ (i + k) + c * 1000 ^ (i + k) := by rw [Int.add_mul, Int.add_mul]
    have e3 : ((o + x * y + c) % 1000 - o) * 1000 ^ (i + k) = (o + x * y + c) % 1000 * 1000 ^ (i + k) - o * 1000 ^ (i + k) := Int.sub_mul _ _ _
    have e4 : x * (valN b k + y * 1000 ^ k) * 1000 ^ i = x * valN b k * 1000 ^ i + x * y * 1000 ^ (i + k) := by
      rw [Int.mul_add, Int.add_mul, Int.pow_add, Int.mul_comm (1000 ^ i : Int) (1000 ^ k), ← Int.mul_assoc x y (1000 ^ k), Int.mul_assoc (x * y)]
    omega
  · rw [getD_set hj, if_neg (by omega)]; exact h4 j hj2
theorem MulIn.leave {a b out : List Int} {i : Nat} {c : Int} (h : MulIn a b i b.length out c) (hi : i < a.length) : MulOut a b (i + 1) (out.set (i + b.length) c) := by
  obtain ⟨h1, h2, h3, h4, h5, h6⟩ := h
  have hj : i + b.length < out.length := by omega
  refine ⟨?_, h2.set h5 h6, by simp [h3], fun j hj2 => ?_⟩
  · rw [val_set hj, h4 _ (Nat.le_refl _), valN]
    have e1 : (c - 0) * 1000 ^ (i + b.length) = c * 1000 ^ (i + b.length) := by simp
    have e2 : (valN a i + a.getD i 0 * 1000 ^ i) * val b = valN a i * val b + a.getD i 0 * valN b b.length * 1000 ^ i := by
      rw [Int.add_mul, Int.mul_assoc, Int.mul_assoc, Int.mul_comm (1000 ^ i : Int)]; rfl
    omega
  · rw [getD_set hj, if_neg (by omega)]; exact h4 j (by omega)
theorem MulOut.stop {a b out : List Int} (h : MulOut a b a.length out) : val out = val a * val b := h.1
/-- What the loops hold: the two boxes, the result's block, and the row that is filled. -/
def MulState (w : World) (x0 x1 y0 y1 : Value) (out : List Int) (wr : World) : Prop :=
  Boxes w w.heap.size x0 x1 y0 y1 wr ∧ wr.ownsRow (w.heap.size + 1 + 1 + 1) 3 1 (.slice (some ⟨w.heap.size + 1 + 1 + 1, 0, none⟩) out.length out.length) out.length (out.map (Value.int .i64))
theorem MulState.drewN {w wr : World} {x0 x1 y0 y1 : Value} {out : List Int} (h : MulState w x0 x1 y0 y1 out wr) (n : Nat) : MulState w x0 x1 y0 y1 out (wr.drewN n) := by
  obtain ⟨h1, h2⟩ := h
  exact ⟨h1.call (below_drewN (Below.refl _ _) n), h2⟩
theorem MulState.set {w wr : World} {x0 x1 y0 y1 : Value} {out : List Int} (h : MulState w x0 x1 y0 y1 out wr) (j : Nat) (x : Int) : MulState w x0 x1 y0 y1 (out.set j x) (wr.setCell ⟨w.heap.size + 1 + 1 + 1, j, none⟩ (.int .i64 x)) := by
  obtain ⟨⟨h1, h2, h3, h4, h5, h6, u, v, h7⟩, h8⟩ := h
  refine ⟨⟨?_, ?_, ?_, ?_, ?_, h6, u, v, ?_⟩, ?_⟩
  · rw [World.cell?_setCell_far _ _ _ _ (by simp <;> omega)]; exact h1
  · rw [World.cell?_setCell_far _ _ _ _ (by simp <;> omega)]; exact h2
  · rw [World.cell?_setCell_far _ _ _ _ (by simp <;> omega)]; exact h3
  · rw [World.cell?_setCell_far _ _ _ _ (by simp <;> omega)]; exact h4
  · exact h5.setCell (by simp <;> omega) _
  · rw [Below.heap_setCell _ _ _ _ (by simp <;> omega)]; exact h7
  · have := (h8.stored j (.int .i64 x)).1
    simpa [List.map_set] using this
theorem MulState.facts {w wr : World} {x0 x1 y0 y1 : Value} {out : List Int} (h : MulState w x0 x1 y0 y1 out wr) :
    wr.cell? ⟨w.heap.size, 0, none⟩ = some x0 ∧ wr.cell? ⟨w.heap.size, 1, none⟩ = some x1 ∧ wr.cell? ⟨w.heap.size + 1, 0, none⟩ = some y0 ∧ wr.cell? ⟨w.heap.size + 1, 1, none⟩ = some y1 ∧ Below w.heap.size w wr ∧
    ∀ j, j < out.length → wr.cell? ⟨w.heap.size + 1 + 1 + 1, j, none⟩ = some (.int .i64 (out.getD j 0)) ∧ wr.frozen? ⟨w.heap.size + 1 + 1 + 1, j, none⟩ = false := by
  obtain ⟨⟨h1, h2, h3, h4, h5, h6, h7⟩, h8⟩ := h
  refine ⟨h1, h2, h3, h4, h5, fun j hj => ⟨?_, h8.frozenAt j⟩⟩
  rw [h8.cellAt j (by omega)]
  simp [List.getD, hj]
theorem mul_start {w wr : World} {x0 x1 y0 y1 u v : Value} {n : Nat} {z : Array Value} (hz : z = #[.int .i64 0])
    (hown : wr.ownsRow (w.heap.size + 1 + 1 + 1) 3 1 (.slice (some ⟨w.heap.size + 1 + 1 + 1, 0, none⟩) n n) n (madeCells z (n * 1)).toList)
    (hg : (((w.alloc (.cells #[x0, x1] 89)).alloc (.cells #[y0, y1] 89)).alloc (.cells #[u, v] 89)).grownBy wr none) : MulState w x0 x1 y0 y1 (List.replicate n 0) wr := by
  subst hz
  have hb : Below (((w.alloc (.cells #[x0, x1] 89)).alloc (.cells #[y0, y1] 89)).alloc (.cells #[u, v] 89)).heap.size (((w.alloc (.cells #[x0, x1] 89)).alloc (.cells #[y0, y1] 89)).alloc (.cells #[u, v] 89)) wr :=
    (Below.refl _ _).grown hg (Nat.le_refl _) (fun k hk => by cases hk)
  refine ⟨(Boxes.start w x0 x1 y0 y1 u v).call hb, ?_⟩
  rw [toList_madeCells_one] at hown
  simpa using hown
theorem signed_mul (b1 b2 : Bool) (x y : Int) : signed (!(b1 == b2)) (x * y) = signed b1 x * signed b2 y := by
  cases b1 <;> cases b2 <;> simp [signed, Int.mul_neg, Int.neg_mul]
set_option maxHeartbeats 2000000 in
theorem num_mul (u v : Value) (x y : Int) (n : Nat) (w : World) (hu : IsNum w u x) (hv : IsNum w v y) (hx : Sized n x) (hy : Sized n y) (hn : n ≤ 274877906944) :
    Calls Tryz.prog 44 #[u, v] w (MadeNum w (x * y)) := by
  obtain ⟨i0, hi, hz0, hz1, hz2⟩ := info_parts Tryz.infoInt
  obtain ⟨b1, s1, a, rfl, i1, -, g1, y1, -, rfl⟩ := hu
  obtain ⟨b2, s2, b, rfl, i2, -, g2, y2, -, rfl⟩ := hv
  have la := len_of_sized g1 y1 hx
  have lb := len_of_sized g2 y2 hy
  have HA := Lib.hid i1
  have HB := Lib.hid i2
  have HD := Lib.hid (And.intro g1 g2)
  obtain ⟨p1, c1, rfl, -, -⟩ := i1
  obtain ⟨p2, c2, rfl, -, -⟩ := i2
  clear hx hy y1 y2 g1 g2
  go_enter Tryz.func44, Tryz.ntmps44
  go_wp2_with (at_make; refine wpList_make_full _ rfl _ _ 28 rfl (w.heap.size + 1 + 1 + 1) 3 i0 (.int .i64 0) 1 Tryz.underlying28 hi hz0 hz1 .i64 .i64 _ _ (a.length + b.length + 1) rfl rfl (by omega) (by omega) (by rw [hz2]; omega) (by unfold maxLen; omega) (by simp) ?_; intro w0 hown hgrow)
  simp only [World.size_alloc] at hown
  have hM := Lib.hid (mul_start rfl hown hgrow)
  clear hown hgrow
  go_wp2_with fail
  go_loopw [6] (fun i wr => ∃ (k : Nat) (out : List Int), k ≤ a.length ∧ i = .int .i64 k ∧ Hid (MulOut a b k out) ∧
      Hid (MulState w (.bool b1) (.slice p1 a.length c1) (.bool b2) (.slice p2 b.length c2) out wr)) (fun i _ => a.length - (intOf i).toNat)
  case atStart => exact ⟨0, _, Nat.zero_le _, rfl, Lib.hid (MulOut.start a b), hM⟩
  case round =>
    obtain ⟨k, out, hk, rfl, hO, hS⟩ := hrel
    clear hM
    by_cases hlt : k < a.length
    · obtain ⟨wo, rfl⟩ : ∃ wo : World, wo = wr := ⟨_, rfl⟩
      obtain ⟨q1, q2, q3, q4, hbw, -⟩ := hS.out.facts
      have HBW := Lib.hid hbw
      clear hbw
      go_wp2_with fail
      clear q1 q2 q3 q4 HBW
      go_loopw [7, 8] (fun c i wr => ∃ (j : Nat) (o2 : List Int) (cr : Int), j ≤ b.length ∧ c = .int .i64 cr ∧ i = .int .i64 j ∧ Hid (MulIn a b k j o2 cr) ∧ 0 ≤ cr ∧ cr ≤ 999 ∧
          Hid (MulState w (.bool b1) (.slice p1 a.length c1) (.bool b2) (.slice p2 b.length c2) o2 wr)) (fun _ i _ => b.length - (intOf i).toNat)
      case atStart => exact ⟨0, out, 0, Nat.zero_le _, rfl, rfl, Lib.hid hO.out.enter, by omega, by omega, hS⟩
      case round =>
        obtain ⟨j, o2, cr, hj, rfl, rfl, hI, cr0, cr1, hT⟩ := hrel
        clear hS hO
        obtain ⟨q1, q2, q3, q4, hbw, hcells⟩ := hT.out.facts
        have hlen := Lib.hid hI.out.2.2.1
        by_cases hjl : j < b.length
        · have hkj : k + j < o2.length := by have := hlen.out; omega
          obtain ⟨hc1, hf1⟩ := hcells (k + j) hkj
          obtain ⟨pb, po, rfl, hpb, hpa⟩ := HA.out.cell hlt
          obtain ⟨qb, qo, rfl, hqb, hqa⟩ := HB.out.cell hjl
          have hpa := cell_later hbw hpa
          have hqa := cell_later hbw hqa
          have ox := hI.out.2.1.getD (k + j)
          have ax := HD.out.1.getD k
          have bx := HD.out.2.getD j
          have hst := Lib.hid (fun (o x y : Int) (ho : o2.getD (k + j) 0 = o) (hx : a.getD k 0 = x) (hy : b.getD j 0 = y) => hI.out.step HD.out.1 HD.out.2 hlt hjl o x y ho hx hy)
          generalize o2.getD (k + j) 0 = o at *
          generalize a.getD k 0 = x at *
          generalize b.getD j 0 = y at *
          have hst2 := Lib.hid (hst.out o x y rfl rfl rfl)
          have hTT := Lib.hid (fun (n : Nat) (z : Int) => (hT.out.drewN n).set (k + j) z)
          obtain ⟨o1, o9⟩ := ox
          obtain ⟨m1, m2⟩ := mul_bounds ax.1 ax.2 bx.1 bx.2
          clear hst hcells hI hT hbw ax bx hpb hqb
          have hB1 : (0 : Int) ≤ (k : Int) := by omega
          have hB2 : (k : Int) < (a.length : Int) := by omega
          have hB3 : (0 : Int) ≤ (j : Int) := by omega
          have hB4 : (j : Int) < (b.length : Int) := by omega
          have hB5 : (0 : Int) ≤ (k : Int) + (j : Int) := by omega
          have hB6 : (k : Int) + (j : Int) < (o2.length : Int) := by omega
          have e1 : IntKind.i64.wrap ((k : Int) + (j : Int)) = (k : Int) + (j : Int) := IntWalk.i64_in _ (by omega)
          have e5 : ((k : Int) + (j : Int)).toNat = k + j := by omega
          have e2 : IntKind.i64.wrap (x * y) = x * y := IntWalk.i64_in _ (by omega)
          have e3 : IntKind.i64.wrap (o + x * y) = o + x * y := IntWalk.i64_in _ (by omega)
          have e4 : IntKind.i64.wrap (o + x * y + cr) = o + x * y + cr := IntWalk.i64_in _ (by omega)
          go_wp2_with fail
          go_quiet (fail)
          have hs0 : 0 ≤ o + x * y + cr := by omega
          have hs1 : o + x * y + cr ≤ 999999 := by omega
          clear e1 e2 e3 e4 e5 hB5 hB6 m1 m2 o1 o9
          generalize o + x * y + cr = t at *
          go_wp2_with fail
          go_roundw
          case rel => exact ⟨j + 1, _, t / 1000, by omega, rfl, by go_num, hst2, by omega, by omega, Lib.hid (hTT.out nq (t % 1000))⟩
          case measure => simp [intOf]; omega
        · obtain rfl : j = b.length := by omega
          have hO2 := Lib.hid (hI.out.leave hlt)
          have hkj : k + b.length < o2.length := by have := hlen.out; omega
          obtain ⟨hc1, hf1⟩ := hcells (k + b.length) hkj
          have hT2 := Lib.hid (hT.out.set (k + b.length) cr)
          clear hI hT hbw hcells
          go_wp2_with fail
          go_roundw
          case rel => exact ⟨k + 1, _, by omega, by go_num, hO2, hT2⟩
          case measure => simp [intOf]; omega
    · obtain rfl : k = a.length := by omega
      obtain ⟨⟨q1, q2, q3, q4, hkept⟩, hown⟩ := hS.out
      have hval := Lib.hid (signed_mul b1 b2 (val a) (val b))
      have hvo := hO.out.stop
      have hlen := hO.out.2.2.1
      have hMade := Lib.hid (made_any (!(b1 == b2)) _ out wr (Ints.own hown) (Typed.own hown) hO.out.2.1 (by omega))
      rw [hlen, hvo] at hMade
      have HK := Lib.hid hkept
      have HL := Lib.hid hlen
      clear hS hO hown hkept hlen HA HB HD hvo
      go_wp2_with fail
      refine (hMade.out).mono ?_; rintro e w2 ⟨r, rfl, hr, hb2⟩
      have hk2 := HK.out.call hb2
      obtain ⟨rn, rp, rl, rc, rfl⟩ := hr.shape
      obtain ⟨⟨x1, hx1⟩, ⟨y1, hy1⟩, hf1, hf2⟩ := hk2.cells
      have hN := hk2.num hr
      have hE := (hk2.store (.bool rn) (.slice rp rl rc)).1
      rw [hval.out] at hN
      clear hk2 hr hb2 HK hMade hval
      go_wp2_with fail
      exact bodyPost_ret (v := .agg #[.bool rn, .slice rp rl rc]) (by simp [results, Tryz.results44, go_sem, hx1, hy1]) rfl ⟨_, rfl, hN, hE⟩
end Go.Proofs.YtigikgphipebiaaGreatDoor
