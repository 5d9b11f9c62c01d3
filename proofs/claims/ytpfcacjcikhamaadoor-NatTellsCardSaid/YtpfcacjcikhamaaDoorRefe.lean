/- What differences, comparisons and conversions of the reference's numbers return. -/
import Derived.Test.YtpfcacjcikhamaaDoorRefd
namespace Go.Proofs.YtpfcacjcikhamaaDoor
set_option maxRecDepth 100000
open Go.RowKit
theorem IsNum.shape {w : World} {v : Value} {z : Int} (h : IsNum w v z) : ∃ b p l c, v = .agg #[.bool b, .slice p l c] := by
  obtain ⟨b, s, d, rfl, ⟨p, c, rfl, -⟩, -⟩ := h
  exact ⟨b, p, _, c, rfl⟩
theorem Sized.neg {n : Nat} {z : Int} (h : Sized n z) : Sized n (-z) := ⟨by have := h.2; omega, by have := h.1; omega⟩
theorem Sized.mono {m n : Nat} {z : Int} (h : Sized m z) (hm : m ≤ n) : Sized n z := by
  have := p_mono hm
  exact ⟨by have := h.1; omega, by have := h.2; omega⟩
theorem sized8 {z : Int} (h1 : -999999999999999999999999 ≤ z) (h2 : z ≤ 999999999999999999999999) : Sized 8 z := by
  have h3 : (1000 : Int) ^ 8 = 1000000000000000000000000 := by decide
  exact ⟨by omega, by omega⟩
set_option maxHeartbeats 1000000 in
theorem num_sub (u v : Value) (x y : Int) (n : Nat) (w : World) (hu : IsNum w u x) (hv : IsNum w v y) (hx : Sized n x) (hy : Sized n y) (hn : n ≤ 1099511627770) :
    Calls Tryd.prog 101 #[u, v] w (MadeNum w (x - y)) := by
  obtain ⟨b1, p1, l1, c1, rfl⟩ := hu.shape
  obtain ⟨b2, p2, l2, c2, rfl⟩ := hv.shape
  have hNeg := Lib.hid (fun w1 (hb : Below w.heap.size w w1) => neg_any _ y n w1 (hv.below hb) hy (by omega))
  have hAdd := Lib.hid (fun w1 r (hb : Below w.heap.size w w1) (hr : IsNum w1 r (-y)) => (num_add _ r x (-y) n w1 (hu.below hb) hr hx hy.neg hn).mono (MadeNum.to (z' := x - y) (by omega)))
  have hB := Lib.hid (Boxes.start w (.bool b1) (.slice p1 l1 c1) (.bool b2) (.slice p2 l2 c2) (.bool false) (.slice none 0 0))
  clear hu hv hx hy
  go_enter Tryd.func101, Tryd.ntmps101
  go_wp2_with fail
  go_region_held3 (fun w' => w'.cell? ⟨w.heap.size, 0, none⟩ = some (.bool b1) ∧ w'.cell? ⟨w.heap.size, 1, none⟩ = some (.slice p1 l1 c1) ∧ w'.cell? ⟨w.heap.size + 1, 0, none⟩ = some (.bool b2) ∧ w'.cell? ⟨w.heap.size + 1, 1, none⟩ = some (.slice p2 l2 c2) ∧ Kept w (w.heap.size + 1 + 1) 28 w')
    (first | exact hB.out.drew | exact Boxes.call ‹_› ‹Below _ _ _› | exact Boxes.store ‹_› _ _)
    (first
      | (go_at_call 105; refine (hNeg.out _ hB.out.2.2.2.2.1.drew).mono ?_; rintro e w1 ⟨m, rfl, hm, hb⟩; have hk := hB.out.drew.2.2.2.2.call hb)
      | (go_at_call 52; refine (hAdd.out _ _ hk.1 hm).mono ?_; rintro e w2 ⟨r, rfl, hr, hb2⟩; have hk2 := hk.call hb2; obtain ⟨rn, rp, rl, rc, rfl⟩ := hr.shape; obtain ⟨⟨x1, hx1⟩, ⟨y1, hy1⟩, hf1, hf2⟩ := hk2.cells))
  have hN := hk2.num hr
  have hE := (hk2.store (.bool rn) (.slice rp rl rc)).1
  clear hk hk2 hr hb hb2 hB hm
  go_wp2_with fail
  exact bodyPost_ret (v := .agg #[.bool rn, .slice rp rl rc]) (by simp [results, Tryd.results101, go_sem, hx1, hy1]) rfl ⟨_, rfl, hN, hE⟩
theorem Kept.start (w : World) (x y : Value) (T : TypeId) : Kept w w.heap.size T (w.alloc (.cells #[x, y] T)) := ⟨below_one w _, Nat.le_refl _, x, y, heap_alloc_new w _⟩
theorem below_two (w : World) (o p : Obj) : Below w.heap.size w ((w.alloc o).alloc p) := (below_one w o).alloc (by simp) p
/-- A comparison. -/
def Compared (w : World) (c : Int) (e : Ending) (w' : World) : Prop := e = .returned (.int .i64 c) ∧ Below w.heap.size w w'
set_option maxHeartbeats 1000000 in
theorem num_cmp (u v : Value) (x y : Int) (n : Nat) (w : World) (hu : IsNum w u x) (hv : IsNum w v y) (hx : Sized n x) (hy : Sized n y) (hn : n ≤ 1099511627770) :
    Calls Tryd.prog 15 #[u, v] w (Compared w (cmpI x y)) := by
  obtain ⟨b1, s1, d1, rfl, i1, -, g1, y1, n1, rfl⟩ := hu
  obtain ⟨b2, s2, d2, rfl, i2, -, g2, y2, n2, rfl⟩ := hv
  have l1 := len_of_sized g1 y1 hx
  have l2 := len_of_sized g2 y2 hy
  have r1 := (val_range g1).1
  have r2 := (val_range g2).1
  have hL := Lib.hid (fun w1 (hb : Below w.heap.size w w1) => less_any s1 s2 d1 d2 w1 (i1.below hb) (i2.below hb) g1 g2 (by omega) (by omega))
  have hR := Lib.hid (fun w1 (hb : Below w.heap.size w w1) => less_any s2 s1 d2 d1 w1 (i2.below hb) (i1.below hb) g2 g1 (by omega) (by omega))
  have q1 : b1 = true → 0 < val d1 := fun h => y1.pos g1 (n1 h)
  have q2 : b2 = true → 0 < val d2 := fun h => y2.pos g2 (n2 h)
  obtain ⟨p1, c1, rfl, -, -⟩ := i1
  obtain ⟨p2, c2, rfl, -, -⟩ := i2
  have Q1 := Lib.hid q1
  have Q2 := Lib.hid q2
  clear hx hy y1 y2 n1 n2 q1 q2
  have hb0 := Lib.hid (below_two w (.cells #[.bool b1, .slice p1 d1.length c1] 28) (.cells #[.bool b2, .slice p2 d2.length c2] 28))
  cases b1 <;> cases b2
  · go_enter Tryd.func15, Tryd.ntmps15
    go_wp2_with fail
    refine (hL.out _ hb0.out).mono ?_; rintro e w' ⟨rfl, rfl⟩
    go_wp2_with fail
    go_ret
    exact ⟨ret_int (by simp [signed]), hb0.out⟩
  · have e := Lib.hid (cmpI_gt (x := val d1) (y := -val d2) (by have := Q2.out rfl; omega))
    go_enter Tryd.func15, Tryd.ntmps15
    go_wp2_with fail
    go_ret
    exact ⟨ret_int (by simp [signed, e.out]), hb0.out⟩
  · have e := Lib.hid (cmpI_lt (x := -val d1) (y := val d2) (by have := Q1.out rfl; omega))
    go_enter Tryd.func15, Tryd.ntmps15
    go_wp2_with fail
    go_ret
    exact ⟨ret_int (by simp [signed, e.out]), hb0.out⟩
  · go_enter Tryd.func15, Tryd.ntmps15
    go_wp2_with fail
    refine (hR.out _ hb0.out).mono ?_; rintro e w' ⟨rfl, rfl⟩
    go_wp2_with fail
    go_ret
    exact ⟨ret_int (by simp only [signed, cond_true]; unfold cmpI; split <;> split <;> (try split) <;> (try split) <;> omega), hb0.out⟩
end Go.Proofs.YtpfcacjcikhamaaDoor
