/- What the sums and signs of the reference's numbers return. -/
import Derived.Test.YtpfcacjcikhamaaDoorRefc
namespace Go.Proofs.YtpfcacjcikhamaaDoor
set_option maxRecDepth 100000
open Go.RowKit
/-- A number of at most n digits of base 1000. -/
def Sized (n : Nat) (z : Int) : Prop := -(1000 ^ n : Int) < z ∧ z < 1000 ^ n
theorem signed_not (b : Bool) (z : Int) : signed (!b) z = - signed b z := by cases b <;> simp [signed]
theorem len_of_sized {n : Nat} {neg : Bool} {ds : List Int} (hd : Dig ds) (ht : Tidy ds) (hs : Sized n (signed neg (val ds))) : ds.length ≤ n := by
  refine ht.len hd ?_
  obtain ⟨h1, h2⟩ := hs
  have := val_range hd
  cases neg <;> simp [signed] at h1 h2 <;> omega
set_option maxHeartbeats 1000000 in
theorem neg_any (v : Value) (z : Int) (n : Nat) (w : World) (h : IsNum w v z) (hs : Sized n z) (hn : n ≤ 1099511627775) :
    Calls Tryd.prog 105 #[v] w (MadeNum w (-z)) := by
  obtain ⟨neg, s, ds, rfl, h2, h3, hd, ht, hnn, rfl⟩ := h
  have hl := len_of_sized hd ht hs
  have hM := Lib.hid (fun w1 (hb : Below w.heap.size w w1) => made_any (!neg) s ds w1 (h2.below hb) (h3.below hb) hd (by omega))
  obtain ⟨ap, ac, rfl, -, -⟩ := h2
  have hG := Lib.hid (signed_not neg (val ds))
  clear hs hnn ht h3
  go_enter Tryd.func105, Tryd.ntmps105
  go_wp2_with fail
  refine (hM.out _ (((Below.refl _ _).alloc (Nat.le_refl _) _).alloc (by simp) _)).mono ?_
  rintro e w1 ⟨r, rfl, hr, hb⟩
  have hr0 := hr
  obtain ⟨rn, rs, rd, rfl, ri, -⟩ := hr0
  obtain ⟨rp, rc, rfl, -, -⟩ := ri
  have hb2 := hb
  simp only [World.size_alloc] at hb2
  obtain ⟨hp1, hp2, hp3, hp4⟩ := pair_at (W := w.alloc (.cells #[.bool neg, .slice ap ds.length ac] 28)) (N := w.heap.size + 1) (by simp) hb2
  have hR := Lib.hid hr
  clear hr hb
  go_wp2_with fail
  have hN := made_end (w := w) (by simp) (below_one w _) hR.out hb2
  refine bodyPost_ret (v := .agg #[.bool rn, .slice rp rd.length rc]) ?_ rfl ⟨_, rfl, ?_, hN.2⟩
  · simp [results, Tryd.results105, go_sem, hp1, hp2]
  · have := hN.1; rw [← hG.out]; exact this
/-- What was there is as it was, and the block of the result (of two cells, of type T) lies at N. -/
def Kept (w : World) (N : Nat) (T : TypeId) (w' : World) : Prop := Below w.heap.size w w' ∧ w.heap.size ≤ N ∧ ∃ x y, w'.heap[N]? = some (.cells #[x, y] T (0, 0))
theorem Kept.call {w w1 w2 : World} {N : Nat} {T : TypeId} (h : Kept w N T w1) (hb : Below w1.heap.size w1 w2) : Kept w N T w2 := by
  obtain ⟨h1, h2, x, y, h3⟩ := h
  have hN := (Array.getElem?_eq_some_iff.1 h3).1
  exact ⟨h1.trans (hb.mono h1.size), h2, x, y, by rw [hb.block N hN]; exact h3⟩
theorem set_two {w : World} {N : Nat} {T : TypeId} {x y u v : Value} (h : w.heap[N]? = some (.cells #[x, y] T (0, 0))) : ((w.setCell ⟨N, 0, none⟩ u).setCell ⟨N, 1, none⟩ v).heap[N]? = some (.cells #[u, v] T (0, 0)) := by
  simp [World.setCell, Array.getElem?_modify, h]
theorem Kept.store {w w1 : World} {N : Nat} {T : TypeId} (h : Kept w N T w1) (u v : Value) : Kept w N T ((w1.setCell ⟨N, 0, none⟩ u).setCell ⟨N, 1, none⟩ v) := by
  obtain ⟨h1, h2, x, y, h3⟩ := h
  exact ⟨(h1.setCell h2 _).setCell h2 _, h2, u, v, set_two h3⟩
theorem Kept.cells {w w1 : World} {N : Nat} {T : TypeId} (h : Kept w N T w1) : (∃ x, w1.cell? ⟨N, 0, none⟩ = some x) ∧ (∃ y, w1.cell? ⟨N, 1, none⟩ = some y) ∧ w1.frozen? ⟨N, 0, none⟩ = false ∧ w1.frozen? ⟨N, 1, none⟩ = false := by
  obtain ⟨h1, h2, x, y, h3⟩ := h
  refine ⟨⟨x, by simp [World.cell?, h3]⟩, ⟨y, by simp [World.cell?, h3]⟩, by simp [World.frozen?, h3], by simp [World.frozen?, h3]⟩
theorem Kept.num {w w1 : World} {N : Nat} {z : Int} {u s : Value} (h : Kept w N 28 w1) (hr : IsNum w1 (.agg #[u, s]) z) : IsNum ((w1.setCell ⟨N, 0, none⟩ u).setCell ⟨N, 1, none⟩ s) (.agg #[u, s]) z := by
  obtain ⟨h1, h2, x, y, h3⟩ := h
  obtain ⟨cur, h4⟩ := heap_setCell_cells (p := ⟨N, 0, none⟩) (u := u) h3
  exact (hr.set u h3 (by decide)).set s h4 (by decide)
/-- The two boxes of a call's two numbers, read; and what is kept. -/
def Boxes (w : World) (N : Nat) (a b c d : Value) (w' : World) : Prop :=
  w'.cell? ⟨N, 0, none⟩ = some a ∧ w'.cell? ⟨N, 1, none⟩ = some b ∧ w'.cell? ⟨N + 1, 0, none⟩ = some c ∧ w'.cell? ⟨N + 1, 1, none⟩ = some d ∧ Kept w (N + 1 + 1) 28 w'
theorem Boxes.call {w w1 w2 : World} {N : Nat} {a b c d : Value} (h : Boxes w N a b c d w1) (hb : Below w1.heap.size w1 w2) : Boxes w N a b c d w2 :=
  ⟨cell_later hb h.1, cell_later hb h.2.1, cell_later hb h.2.2.1, cell_later hb h.2.2.2.1, h.2.2.2.2.call hb⟩
theorem Boxes.drew {w w1 : World} {N : Nat} {a b c d : Value} (h : Boxes w N a b c d w1) : Boxes w N a b c d w1.drew := h.call (Below.refl _ _).drew
theorem Boxes.store {w w1 : World} {N : Nat} {a b c d : Value} (h : Boxes w N a b c d w1) (u v : Value) : Boxes w N a b c d ((w1.setCell ⟨N + 1 + 1, 0, none⟩ u).setCell ⟨N + 1 + 1, 1, none⟩ v) := by
  have k0 : N + 1 + 1 ≠ N := by omega
  have k1 : N + 1 + 1 ≠ N + 1 := by omega
  refine ⟨?_, ?_, ?_, ?_, h.2.2.2.2.store u v⟩
  · rw [World.cell?_setCell_far _ _ _ _ k0, World.cell?_setCell_far _ _ _ _ k0]; exact h.1
  · rw [World.cell?_setCell_far _ _ _ _ k0, World.cell?_setCell_far _ _ _ _ k0]; exact h.2.1
  · rw [World.cell?_setCell_far _ _ _ _ k1, World.cell?_setCell_far _ _ _ _ k1]; exact h.2.2.1
  · rw [World.cell?_setCell_far _ _ _ _ k1, World.cell?_setCell_far _ _ _ _ k1]; exact h.2.2.2.1
theorem Boxes.start (w : World) (a b c d x y : Value) : Boxes w w.heap.size a b c d (((w.alloc (.cells #[a, b] 28)).alloc (.cells #[c, d] 28)).alloc (.cells #[x, y] 28)) := by
  refine ⟨by simp [go_sem], by simp [go_sem], by simp [go_sem], by simp [go_sem], ?_, by omega, x, y, ?_⟩
  · exact (((Below.refl _ _).alloc (Nat.le_refl _) _).alloc (by simp) _).alloc (by simp; omega) _
  · have := heap_alloc_new ((w.alloc (.cells #[a, b] 28)).alloc (.cells #[c, d] 28)) (.cells #[x, y] 28)
    simpa using this
set_option maxHeartbeats 1000000 in
theorem add_same (b1 : Bool) (s1 s2 : Value) (d1 d2 : List Int) (w : World) (i1 : Ints .i64 w s1 d1) (g1 : Dig d1) (l1 : d1.length ≤ 1099511627770) (i2 : Ints .i64 w s2 d2) (g2 : Dig d2) (l2 : d2.length ≤ 1099511627770) :
    Calls Tryd.prog 52 #[.agg #[.bool b1, s1], .agg #[.bool b1, s2]] w (MadeNum w (signed b1 (val d1 + val d2))) := by
  have hS := Lib.hid (fun w1 (hb : Below w.heap.size w w1) => sum_digits s1 s2 d1 d2 w1 (i1.below hb) (i2.below hb) g1 g2 (by omega) (by omega))
  obtain ⟨p1, c1, rfl, -, -⟩ := i1
  obtain ⟨p2, c2, rfl, -, -⟩ := i2
  have hB := Lib.hid (Boxes.start w (.bool b1) (.slice p1 d1.length c1) (.bool b1) (.slice p2 d2.length c2) (.bool false) (.slice none 0 0))
  go_enter Tryd.func52, Tryd.ntmps52
  go_wp2_with fail
  go_region_held3 (fun w' => w'.cell? ⟨w.heap.size, 0, none⟩ = some (.bool b1) ∧ w'.cell? ⟨w.heap.size, 1, none⟩ = some (.slice p1 d1.length c1) ∧ w'.cell? ⟨w.heap.size + 1, 0, none⟩ = some (.bool b1) ∧ w'.cell? ⟨w.heap.size + 1, 1, none⟩ = some (.slice p2 d2.length c2) ∧ Kept w (w.heap.size + 1 + 1) 28 w')
    (first | exact hB.out.drew | exact Boxes.call ‹_› ‹Below _ _ _› | exact Boxes.store ‹_› _ _)
    (first
      | (go_at_call 83; refine (hS.out _ hB.out.2.2.2.2.1.drew).mono ?_; rintro e w1 ⟨v, out, rfl, hi, ht, hd, hv, hl, hb⟩)
      | (go_at_call 82; refine (made_any b1 _ _ _ hi ht hd (by omega)).mono ?_; rintro e w2 ⟨r, rfl, hr, hb2⟩; have hk := (hB.out.drew.2.2.2.2.call hb).call hb2; obtain ⟨rn, rs, rd, rfl, ri, -⟩ := id hr; obtain ⟨rp, rc, rfl, -, -⟩ := ri; obtain ⟨⟨x1, hx1⟩, ⟨y1, hy1⟩, hf1, hf2⟩ := hk.cells))
  have hN := hk.num hr
  have hE := (hk.store (.bool rn) (.slice rp rd.length rc)).1
  rw [hv] at hN
  clear hk hr hb hb2 hB
  go_wp2_with fail
  exact bodyPost_ret (v := .agg #[.bool rn, .slice rp rd.length rc]) (by simp [results, Tryd.results52, go_sem, hx1, hy1]) rfl ⟨_, rfl, hN, hE⟩
set_option maxHeartbeats 1000000 in
theorem add_t_f_ge (s1 s2 : Value) (d1 d2 : List Int) (w : World) (i1 : Ints .i64 w s1 d1) (g1 : Dig d1) (l1 : d1.length ≤ 1099511627770) (i2 : Ints .i64 w s2 d2) (g2 : Dig d2) (l2 : d2.length ≤ 1099511627770) (hc : val d2 ≤ val d1) :
    Calls Tryd.prog 52 #[.agg #[.bool true, s1], .agg #[.bool false, s2]] w (MadeNum w (signed true (val d1 - val d2))) := by
  have hL := Lib.hid (fun w1 (hb : Below w.heap.size w w1) => less_any s1 s2 d1 d2 w1 (i1.below hb) (i2.below hb) g1 g2 (by omega) (by omega))
  have hS := Lib.hid (fun w1 (hb : Below w.heap.size w w1) => rest_digits s1 s2 d1 d2 w1 (i1.below hb) (i2.below hb) g1 g2 (by omega) hc)
  obtain ⟨p1, c1, rfl, -, -⟩ := i1
  obtain ⟨p2, c2, rfl, -, -⟩ := i2
  have hB := Lib.hid (Boxes.start w (.bool true) (.slice p1 d1.length c1) (.bool false) (.slice p2 d2.length c2) (.bool false) (.slice none 0 0))
  have hC : 0 ≤ cmpI (val d1) (val d2) := cmpI_ge.2 hc
  generalize cmpI (val d1) (val d2) = cc at *
  go_enter Tryd.func52, Tryd.ntmps52
  go_wp2_with fail
  refine (hL.out _ hB.out.2.2.2.2.1).mono ?_; rintro e w' ⟨rfl, rfl⟩
  go_wp2_with fail
  go_region_held3 (fun w' => w'.cell? ⟨w.heap.size, 0, none⟩ = some (.bool true) ∧ w'.cell? ⟨w.heap.size, 1, none⟩ = some (.slice p1 d1.length c1) ∧ w'.cell? ⟨w.heap.size + 1, 0, none⟩ = some (.bool false) ∧ w'.cell? ⟨w.heap.size + 1, 1, none⟩ = some (.slice p2 d2.length c2) ∧ Kept w (w.heap.size + 1 + 1) 28 w')
    (first | exact hB.out.drew | exact Boxes.call ‹_› ‹Below _ _ _› | exact Boxes.store ‹_› _ _)
    (first
      | (go_at_call 84; refine (hS.out _ hB.out.2.2.2.2.1.drew).mono ?_; rintro e w1 ⟨v, out, rfl, hi, ht, hd, hv, hl, hb⟩)
      | (go_at_call 82; refine (made_any true _ _ _ hi ht hd (by omega)).mono ?_; rintro e w2 ⟨r, rfl, hr, hb2⟩; have hk := (hB.out.drew.2.2.2.2.call hb).call hb2; obtain ⟨rn, rs, rd, rfl, ri, -⟩ := id hr; obtain ⟨rp, rc, rfl, -, -⟩ := ri; obtain ⟨⟨x1, hx1⟩, ⟨y1, hy1⟩, hf1, hf2⟩ := hk.cells))
  have hN := hk.num hr
  have hE := (hk.store (.bool rn) (.slice rp rd.length rc)).1
  rw [hv] at hN
  clear hk hr hb hb2 hB
  go_wp2_with fail
  exact bodyPost_ret (v := .agg #[.bool rn, .slice rp rd.length rc]) (by simp [results, Tryd.results52, go_sem, hx1, hy1]) rfl ⟨_, rfl, hN, hE⟩
set_option maxHeartbeats 1000000 in
theorem add_t_f_lt (s1 s2 : Value) (d1 d2 : List Int) (w : World) (i1 : Ints .i64 w s1 d1) (g1 : Dig d1) (l1 : d1.length ≤ 1099511627770) (i2 : Ints .i64 w s2 d2) (g2 : Dig d2) (l2 : d2.length ≤ 1099511627770) (hc : val d1 < val d2) :
    Calls Tryd.prog 52 #[.agg #[.bool true, s1], .agg #[.bool false, s2]] w (MadeNum w (signed false (val d2 - val d1))) := by
  have hL := Lib.hid (fun w1 (hb : Below w.heap.size w w1) => less_any s1 s2 d1 d2 w1 (i1.below hb) (i2.below hb) g1 g2 (by omega) (by omega))
  have hS := Lib.hid (fun w1 (hb : Below w.heap.size w w1) => rest_digits s2 s1 d2 d1 w1 (i2.below hb) (i1.below hb) g2 g1 (by omega) (by omega))
  obtain ⟨p1, c1, rfl, -, -⟩ := i1
  obtain ⟨p2, c2, rfl, -, -⟩ := i2
  have hB := Lib.hid (Boxes.start w (.bool true) (.slice p1 d1.length c1) (.bool false) (.slice p2 d2.length c2) (.bool false) (.slice none 0 0))
  have hC : ¬ 0 ≤ cmpI (val d1) (val d2) := (fun e => by have := cmpI_ge.1 e; omega)
  generalize cmpI (val d1) (val d2) = cc at *
  go_enter Tryd.func52, Tryd.ntmps52
  go_wp2_with fail
  refine (hL.out _ hB.out.2.2.2.2.1).mono ?_; rintro e w' ⟨rfl, rfl⟩
  go_wp2_with fail
  go_region_held3 (fun w' => w'.cell? ⟨w.heap.size, 0, none⟩ = some (.bool true) ∧ w'.cell? ⟨w.heap.size, 1, none⟩ = some (.slice p1 d1.length c1) ∧ w'.cell? ⟨w.heap.size + 1, 0, none⟩ = some (.bool false) ∧ w'.cell? ⟨w.heap.size + 1, 1, none⟩ = some (.slice p2 d2.length c2) ∧ Kept w (w.heap.size + 1 + 1) 28 w')
    (first | exact hB.out.drew | exact Boxes.call ‹_› ‹Below _ _ _› | exact Boxes.store ‹_› _ _)
    (first
      | (go_at_call 84; refine (hS.out _ hB.out.2.2.2.2.1.drew).mono ?_; rintro e w1 ⟨v, out, rfl, hi, ht, hd, hv, hl, hb⟩)
      | (go_at_call 82; refine (made_any false _ _ _ hi ht hd (by omega)).mono ?_; rintro e w2 ⟨r, rfl, hr, hb2⟩; have hk := (hB.out.drew.2.2.2.2.call hb).call hb2; obtain ⟨rn, rs, rd, rfl, ri, -⟩ := id hr; obtain ⟨rp, rc, rfl, -, -⟩ := ri; obtain ⟨⟨x1, hx1⟩, ⟨y1, hy1⟩, hf1, hf2⟩ := hk.cells))
  have hN := hk.num hr
  have hE := (hk.store (.bool rn) (.slice rp rd.length rc)).1
  rw [hv] at hN
  clear hk hr hb hb2 hB
  go_wp2_with fail
  exact bodyPost_ret (v := .agg #[.bool rn, .slice rp rd.length rc]) (by simp [results, Tryd.results52, go_sem, hx1, hy1]) rfl ⟨_, rfl, hN, hE⟩
set_option maxHeartbeats 1000000 in
theorem add_f_t_ge (s1 s2 : Value) (d1 d2 : List Int) (w : World) (i1 : Ints .i64 w s1 d1) (g1 : Dig d1) (l1 : d1.length ≤ 1099511627770) (i2 : Ints .i64 w s2 d2) (g2 : Dig d2) (l2 : d2.length ≤ 1099511627770) (hc : val d2 ≤ val d1) :
    Calls Tryd.prog 52 #[.agg #[.bool false, s1], .agg #[.bool true, s2]] w (MadeNum w (signed false (val d1 - val d2))) := by
  have hL := Lib.hid (fun w1 (hb : Below w.heap.size w w1) => less_any s1 s2 d1 d2 w1 (i1.below hb) (i2.below hb) g1 g2 (by omega) (by omega))
  have hS := Lib.hid (fun w1 (hb : Below w.heap.size w w1) => rest_digits s1 s2 d1 d2 w1 (i1.below hb) (i2.below hb) g1 g2 (by omega) hc)
  obtain ⟨p1, c1, rfl, -, -⟩ := i1
  obtain ⟨p2, c2, rfl, -, -⟩ := i2
  have hB := Lib.hid (Boxes.start w (.bool false) (.slice p1 d1.length c1) (.bool true) (.slice p2 d2.length c2) (.bool false) (.slice none 0 0))
  have hC : 0 ≤ cmpI (val d1) (val d2) := cmpI_ge.2 hc
  generalize cmpI (val d1) (val d2) = cc at *
  go_enter Tryd.func52, Tryd.ntmps52
  go_wp2_with fail
  refine (hL.out _ hB.out.2.2.2.2.1).mono ?_; rintro e w' ⟨rfl, rfl⟩
  go_wp2_with fail
  go_region_held3 (fun w' => w'.cell? ⟨w.heap.size, 0, none⟩ = some (.bool false) ∧ w'.cell? ⟨w.heap.size, 1, none⟩ = some (.slice p1 d1.length c1) ∧ w'.cell? ⟨w.heap.size + 1, 0, none⟩ = some (.bool true) ∧ w'.cell? ⟨w.heap.size + 1, 1, none⟩ = some (.slice p2 d2.length c2) ∧ Kept w (w.heap.size + 1 + 1) 28 w')
    (first | exact hB.out.drew | exact Boxes.call ‹_› ‹Below _ _ _› | exact Boxes.store ‹_› _ _)
    (first
      | (go_at_call 84; refine (hS.out _ hB.out.2.2.2.2.1.drew).mono ?_; rintro e w1 ⟨v, out, rfl, hi, ht, hd, hv, hl, hb⟩)
      | (go_at_call 82; refine (made_any false _ _ _ hi ht hd (by omega)).mono ?_; rintro e w2 ⟨r, rfl, hr, hb2⟩; have hk := (hB.out.drew.2.2.2.2.call hb).call hb2; obtain ⟨rn, rs, rd, rfl, ri, -⟩ := id hr; obtain ⟨rp, rc, rfl, -, -⟩ := ri; obtain ⟨⟨x1, hx1⟩, ⟨y1, hy1⟩, hf1, hf2⟩ := hk.cells))
  have hN := hk.num hr
  have hE := (hk.store (.bool rn) (.slice rp rd.length rc)).1
  rw [hv] at hN
  clear hk hr hb hb2 hB
  go_wp2_with fail
  exact bodyPost_ret (v := .agg #[.bool rn, .slice rp rd.length rc]) (by simp [results, Tryd.results52, go_sem, hx1, hy1]) rfl ⟨_, rfl, hN, hE⟩
set_option maxHeartbeats 1000000 in
theorem add_f_t_lt (s1 s2 : Value) (d1 d2 : List Int) (w : World) (i1 : Ints .i64 w s1 d1) (g1 : Dig d1) (l1 : d1.length ≤ 1099511627770) (i2 : Ints .i64 w s2 d2) (g2 : Dig d2) (l2 : d2.length ≤ 1099511627770) (hc : val d1 < val d2) :
    Calls Tryd.prog 52 #[.agg #[.bool false, s1], .agg #[.bool true, s2]] w (MadeNum w (signed true (val d2 - val d1))) := by
  have hL := Lib.hid (fun w1 (hb : Below w.heap.size w w1) => less_any s1 s2 d1 d2 w1 (i1.below hb) (i2.below hb) g1 g2 (by omega) (by omega))
  have hS := Lib.hid (fun w1 (hb : Below w.heap.size w w1) => rest_digits s2 s1 d2 d1 w1 (i2.below hb) (i1.below hb) g2 g1 (by omega) (by omega))
  obtain ⟨p1, c1, rfl, -, -⟩ := i1
  obtain ⟨p2, c2, rfl, -, -⟩ := i2
  have hB := Lib.hid (Boxes.start w (.bool false) (.slice p1 d1.length c1) (.bool true) (.slice p2 d2.length c2) (.bool false) (.slice none 0 0))
  have hC : ¬ 0 ≤ cmpI (val d1) (val d2) := (fun e => by have := cmpI_ge.1 e; omega)
  generalize cmpI (val d1) (val d2) = cc at *
  go_enter Tryd.func52, Tryd.ntmps52
  go_wp2_with fail
  refine (hL.out _ hB.out.2.2.2.2.1).mono ?_; rintro e w' ⟨rfl, rfl⟩
  go_wp2_with fail
  go_region_held3 (fun w' => w'.cell? ⟨w.heap.size, 0, none⟩ = some (.bool false) ∧ w'.cell? ⟨w.heap.size, 1, none⟩ = some (.slice p1 d1.length c1) ∧ w'.cell? ⟨w.heap.size + 1, 0, none⟩ = some (.bool true) ∧ w'.cell? ⟨w.heap.size + 1, 1, none⟩ = some (.slice p2 d2.length c2) ∧ Kept w (w.heap.size + 1 + 1) 28 w')
    (first | exact hB.out.drew | exact Boxes.call ‹_› ‹Below _ _ _› | exact Boxes.store ‹_› _ _)
    (first
      | (go_at_call 84; refine (hS.out _ hB.out.2.2.2.2.1.drew).mono ?_; rintro e w1 ⟨v, out, rfl, hi, ht, hd, hv, hl, hb⟩)
      | (go_at_call 82; refine (made_any true _ _ _ hi ht hd (by omega)).mono ?_; rintro e w2 ⟨r, rfl, hr, hb2⟩; have hk := (hB.out.drew.2.2.2.2.call hb).call hb2; obtain ⟨rn, rs, rd, rfl, ri, -⟩ := id hr; obtain ⟨rp, rc, rfl, -, -⟩ := ri; obtain ⟨⟨x1, hx1⟩, ⟨y1, hy1⟩, hf1, hf2⟩ := hk.cells))
  have hN := hk.num hr
  have hE := (hk.store (.bool rn) (.slice rp rd.length rc)).1
  rw [hv] at hN
  clear hk hr hb hb2 hB
  go_wp2_with fail
  exact bodyPost_ret (v := .agg #[.bool rn, .slice rp rd.length rc]) (by simp [results, Tryd.results52, go_sem, hx1, hy1]) rfl ⟨_, rfl, hN, hE⟩
theorem MadeNum.to {w : World} {z z' : Int} (h : z = z') : ∀ e w', MadeNum w z e w' → MadeNum w z' e w' := fun _ _ k => h ▸ k
/-- The sum of two numbers. -/
theorem num_add (u v : Value) (x y : Int) (n : Nat) (w : World) (hu : IsNum w u x) (hv : IsNum w v y) (hx : Sized n x) (hy : Sized n y) (hn : n ≤ 1099511627770) :
    Calls Tryd.prog 52 #[u, v] w (MadeNum w (x + y)) := by
  obtain ⟨b1, s1, d1, rfl, i1, t1, g1, y1, -, rfl⟩ := hu
  obtain ⟨b2, s2, d2, rfl, i2, t2, g2, y2, -, rfl⟩ := hv
  have l1 := len_of_sized g1 y1 hx
  have l2 := len_of_sized g2 y2 hy
  have l1 : d1.length ≤ 1099511627770 := by omega
  have l2 : d2.length ≤ 1099511627770 := by omega
  cases b1 <;> cases b2
  · exact (add_same false s1 s2 d1 d2 w i1 g1 l1 i2 g2 l2).mono (MadeNum.to (by simp [signed]))
  · by_cases h : val d2 ≤ val d1
    · exact (add_f_t_ge s1 s2 d1 d2 w i1 g1 l1 i2 g2 l2 h).mono (MadeNum.to (by simp [signed]; omega))
    · exact (add_f_t_lt s1 s2 d1 d2 w i1 g1 l1 i2 g2 l2 (by omega)).mono (MadeNum.to (by simp [signed]; omega))
  · by_cases h : val d2 ≤ val d1
    · exact (add_t_f_ge s1 s2 d1 d2 w i1 g1 l1 i2 g2 l2 h).mono (MadeNum.to (by simp [signed]; omega))
    · exact (add_t_f_lt s1 s2 d1 d2 w i1 g1 l1 i2 g2 l2 (by omega)).mono (MadeNum.to (by simp [signed]; omega))
  · exact (add_same true s1 s2 d1 d2 w i1 g1 l1 i2 g2 l2).mono (MadeNum.to (by simp [signed]; omega))
end Go.Proofs.YtpfcacjcikhamaaDoor
