/- The reference's reading: integers and floats. -/
import Derived.Test.YtdnbjaeeebodkaaGreatBufh
namespace Go.Proofs.YtdnbjaeeebodkaaGreat
set_option maxRecDepth 100000
open Go.RowKit
set_option linter.unusedVariables false
/-- What the reference's reading returns. -/
def RefP (u i : Int) (t : ByteArray) (n e : Nat) (w : World) (r : Ending) (w' : World) : Prop := r = .returned (gotV u i t n e) ∧ Below w.heap.size w w'
theorem three_below (w : World) (o1 o2 o3 : Obj) : Below w.heap.size w (((w.alloc o1).alloc o2).alloc o3) := below_then (two_below w o1 o2) (below_one _ o3)
set_option maxHeartbeats 2000000 in
theorem ref0_any (w : World) (v : Value) (b : List Int) (u i m : Int) (f : Nat) (t : ByteArray) (hv : Ints .u8 w v b) (hb : Bt b) (hl : b.length ≤ 20000) :
    Calls Tryz.prog 59 #[askV 0 u i f t m, v] w (RefP (uN u (getU b)).1 0 ⟨#[]⟩ (uN u (getU b)).2.1 (uN u (getU b)).2.2 w) := by
  have HU := Lib.hid (fun w1 (h : Below w.heap.size w w1) => rgetU_any v b w1 (hv.below h) hb (by omega))
  obtain ⟨a, cap, rfl, -, -⟩ := hv
  have hz := getU_zero (b := b)
  generalize getU b = R at *
  obtain ⟨x, n, e⟩ := R
  unfold trip at HU
  simp only at HU hz
  have HB := Lib.hid (three_below w (askO 0 u i f t m) (gotO 0 0 ⟨#[]⟩ 0 0) (gotO 0 0 ⟨#[]⟩ 0 0))
  by_cases he : e = 0
  · subst he
    by_cases h1 : u < x
    · rw [show uN u (x, n, 0) = (0, 0, 2) by unfold uN; rw [if_pos ⟨rfl, h1⟩]]
      go_enter Tryz.func59, Tryz.ntmps59
      go_wp2_with fail
      refine (HU.out _ HB.out).mono ?_; rintro r w1 ⟨rfl, rfl⟩
      go_wp2_with fail
      exact bodyPost_ret (v := gotV 0 0 ⟨#[]⟩ 0 2) (by simp [results, Tryz.results59, go_sem]) rfl ⟨rfl, three_below w _ _ _⟩
    · rw [show uN u (x, n, 0) = (x, n, 0) by unfold uN; rw [if_neg (fun h => h1 h.2)]]
      go_enter Tryz.func59, Tryz.ntmps59
      go_wp2_with fail
      refine (HU.out _ HB.out).mono ?_; rintro r w1 ⟨rfl, rfl⟩
      go_wp2_with fail
      exact bodyPost_ret (v := gotV x 0 ⟨#[]⟩ n 0) (by simp [results, Tryz.results59, go_sem]) rfl ⟨rfl, three_below w _ _ _⟩
  · obtain ⟨rfl, rfl⟩ := hz he
    rw [show uN u (0, 0, e) = (0, 0, e) by unfold uN; rw [if_neg (fun h => he h.1)]]
    have h0 : ((e : Int) == 0) = false := by simp; omega
    have h0' : ((e : Int) != 0) = true := by simp; omega
    go_enter Tryz.func59, Tryz.ntmps59
    go_wp2_with fail
    refine (HU.out _ HB.out).mono ?_; rintro r w1 ⟨rfl, rfl⟩
    go_wp2_with fail
    exact bodyPost_ret (v := gotV 0 0 ⟨#[]⟩ 0 e) (by simp [results, Tryz.results59, go_sem]) rfl ⟨rfl, three_below w _ _ _⟩
set_option maxHeartbeats 2000000 in
theorem ref3_any (w : World) (v : Value) (b : List Int) (u i m : Int) (f : Nat) (t : ByteArray) (hv : Ints .u8 w v b) (hb : Bt b) (hl : b.length ≤ 20000) :
    Calls Tryz.prog 59 #[askV 3 u i f t m, v] w (RefP 0 0 (strB (tN m (getT b [] 0)).1) (tN m (getT b [] 0)).2.1 (tN m (getT b [] 0)).2.2 w) := by
  have HU := Lib.hid (fun w1 (h : Below w.heap.size w w1) => rgetT_any v b w1 (hv.below h) hb (by omega))
  obtain ⟨a, cap, rfl, -, -⟩ := hv
  have hz := (getT_fit b [] 0).2.2
  generalize getT b [] 0 = R at *
  obtain ⟨x, n, e⟩ := R
  unfold tripT at HU
  simp only at HU hz
  have HB := Lib.hid (three_below w (askO 3 u i f t m) (gotO 0 0 ⟨#[]⟩ 0 0) (gotO 0 0 ⟨#[]⟩ 0 0))
  by_cases he : e = 0
  · subst he
    have hs := strB_size x
    by_cases h1 : max m 0 < (x.length : Int)
    · rw [show tN m (x, n, 0) = ([], 0, 4) by unfold tN; rw [if_pos ⟨rfl, h1⟩]]
      rw [← hs] at h1
      simp only [show strB [] = ⟨#[]⟩ from rfl]
      generalize strB x = S at *
      go_enter Tryz.func59, Tryz.ntmps59
      go_wp2_with fail
      refine (HU.out _ HB.out).mono ?_; rintro r w1 ⟨rfl, rfl⟩
      go_wp2_with fail
      exact bodyPost_ret (v := gotV 0 0 ⟨#[]⟩ 0 4) (by simp [results, Tryz.results59, go_sem]) rfl ⟨rfl, three_below w _ _ _⟩
    · rw [show tN m (x, n, 0) = (x, n, 0) by unfold tN; rw [if_neg (fun h => h1 h.2)]]
      rw [← hs] at h1
      simp only
      generalize strB x = S at *
      go_enter Tryz.func59, Tryz.ntmps59
      go_wp2_with fail
      refine (HU.out _ HB.out).mono ?_; rintro r w1 ⟨rfl, rfl⟩
      go_wp2_with fail
      exact bodyPost_ret (v := gotV 0 0 S n 0) (by simp [results, Tryz.results59, go_sem]) rfl ⟨rfl, three_below w _ _ _⟩
  · obtain ⟨rfl, rfl⟩ := hz he
    rw [show tN m ([], 0, e) = ([], 0, e) by unfold tN; rw [if_neg (fun h => he h.1)]]
    have h0 : ((e : Int) == 0) = false := by simp; omega
    have h0' : ((e : Int) != 0) = true := by simp; omega
    simp only [show strB [] = ⟨#[]⟩ from rfl] at HU ⊢
    go_enter Tryz.func59, Tryz.ntmps59
    go_wp2_with fail
    refine (HU.out _ HB.out).mono ?_; rintro r w1 ⟨rfl, rfl⟩
    go_wp2_with fail
    exact bodyPost_ret (v := gotV 0 0 ⟨#[]⟩ 0 e) (by simp [results, Tryz.results59, go_sem]) rfl ⟨rfl, three_below w _ _ _⟩
set_option maxRecDepth 100000
open Go.RowKit
set_option linter.unusedVariables false
set_option maxHeartbeats 4000000 in
theorem ref4_any (w : World) (v : Value) (b : List Int) (d u i m : Int) (f : Nat) (t : ByteArray) (hd : d < 0 ∨ 3 < d) (hm : m ≤ 9223372036854775807) (hv : Ints .u8 w v b) (hb : Bt b) (hl : b.length ≤ 20000) :
    Calls Tryz.prog 59 #[askV d u i f t m, v] w (RefP 0 0 (strB (bN m b).1) (bN m b).2.1 (bN m b).2.2 w) := by
  have HU := Lib.hid (fun w1 (h : Below w.heap.size w w1) => rgetU_any v b w1 (hv.below h) hb (by omega))
  have HV := Lib.hid hv
  have HBt := Lib.hid hb
  obtain ⟨a, cap, rfl, -, -⟩ := hv
  have hfit := (getU_fit hb).1
  obtain ⟨rr, hrr⟩ : ∃ rr, getU b = rr := ⟨_, rfl⟩
  obtain ⟨x, n, e⟩ := rr
  have HE := Lib.hid hrr
  rw [hrr] at HU hfit
  unfold trip at HU
  simp only at HU hfit
  have d0 : (d == 0) = false := by simp; omega
  have d1 : (d == 1) = false := by simp; omega
  have d2 : (d == 2) = false := by simp; omega
  have d3 : (d == 3) = false := by simp; omega
  have i0 : IntKind.u64.wrap (max m 0) = max m 0 := by rw [IntKind.wrap_u64]; omega
  have HB := Lib.hid (three_below w (askO d u i f t m) (gotO 0 0 ⟨#[]⟩ 0 0) (gotO 0 0 ⟨#[]⟩ 0 0))
  clear hrr hd hb hm
  by_cases he : e = 0
  · subst he
    obtain ⟨f1, f2, f3⟩ := hfit rfl
    clear hfit
    have i1 : IntKind.i64.wrap ((b.length : Int) - (n : Int)) = ((b.length - n : Nat) : Int) := by rw [IntWalk.i64_in _ (by omega)]; omega
    have i2 : IntKind.u64.wrap ((b.length - n : Nat) : Int) = ((b.length - n : Nat) : Int) := by rw [IntKind.wrap_u64]; omega
    by_cases h1 : max m 0 < x
    · rw [show bN m b = ([], 0, 4) by unfold bN; rw [HE.out]; simp only [ne_eq, not_true, if_false]; rw [if_pos h1]]
      simp only [show strB [] = ⟨#[]⟩ from rfl]
      go_enter Tryz.func59, Tryz.ntmps59
      go_wp2_with fail
      refine (HU.out _ HB.out).mono ?_; rintro r w1 ⟨rfl, rfl⟩
      go_wp2_with fail
      exact bodyPost_ret (v := gotV 0 0 ⟨#[]⟩ 0 4) (by simp [results, Tryz.results59, go_sem]) rfl ⟨rfl, three_below w _ _ _⟩
    · by_cases h2 : ((b.length - n : Nat) : Int) < x
      · rw [show bN m b = ([], 0, 5) by unfold bN; rw [HE.out]; simp only [ne_eq, not_true, if_false]; rw [if_neg h1, if_pos h2]]
        simp only [show strB [] = ⟨#[]⟩ from rfl]
        go_enter Tryz.func59, Tryz.ntmps59
        go_wp2_with fail
        refine (HU.out _ HB.out).mono ?_; rintro r w1 ⟨rfl, rfl⟩
        go_wp2_with fail
        exact bodyPost_ret (v := gotV 0 0 ⟨#[]⟩ 0 5) (by simp [results, Tryz.results59, go_sem]) rfl ⟨rfl, three_below w _ _ _⟩
      · rw [bN_ok HE.out h1 h2]
        obtain ⟨X, rfl⟩ : ∃ X : Nat, x = X := ⟨x.toNat, by omega⟩
        rw [Int.toNat_natCast]
        obtain ⟨s, hs⟩ : ∃ s, n + X = s := ⟨_, rfl⟩
        rw [hs]
        obtain ⟨q, c, hop, hi⟩ := part_any HV.out (k := n) (h := s) (by omega) (by omega)
        have i3 : IntKind.i64.wrap (X : Int) = X := IntWalk.i64_in _ (by omega)
        have i4 : IntKind.i64.wrap ((n : Int) + X) = s := by rw [IntWalk.i64_in _ (by omega)]; omega
        have hcv := fun o1 o2 o3 => conv_ints (hi.below (three_below w o1 o2 o3)) (fun y hy => HBt.out y (List.mem_of_mem_take (List.mem_of_mem_drop hy)))
        generalize strB ((b.take s).drop n) = S at *
        generalize s - n = qq at *
        clear hi hs f1 f2 f3
        go_enter Tryz.func59, Tryz.ntmps59
        go_wp2_with fail
        refine (HU.out _ HB.out).mono ?_; rintro r w1 ⟨rfl, rfl⟩
        go_wp2_with fail
        exact bodyPost_ret (v := gotV 0 0 S s 0) (by simp [results, Tryz.results59, go_sem]) rfl ⟨rfl, three_below w _ _ _⟩
  · rw [show bN m b = ([], 0, e) by unfold bN; rw [HE.out]; simp only; rw [if_pos he]]
    simp only [show strB [] = ⟨#[]⟩ from rfl]
    have h0 : ((e : Int) == 0) = false := by simp; omega
    have h0' : ((e : Int) != 0) = true := by simp; omega
    go_enter Tryz.func59, Tryz.ntmps59
    go_wp2_with fail
    refine (HU.out _ HB.out).mono ?_; rintro r w1 ⟨rfl, rfl⟩
    go_wp2_with fail
    exact bodyPost_ret (v := gotV 0 0 ⟨#[]⟩ 0 e) (by simp [results, Tryz.results59, go_sem]) rfl ⟨rfl, three_below w _ _ _⟩
set_option maxRecDepth 100000
open Go.RowKit
set_option linter.unusedVariables false
theorem got_cells {w : World} {M : Nat} {u i n e : Int} {t : ByteArray} (h : w.heap[M]? = some (gotO u i t n e)) :
    (w.cell? ⟨M, 0, none⟩ = some (.int .u64 u) ∧ w.cell? ⟨M, 1, none⟩ = some (.int .i64 i) ∧ w.cell? ⟨M, 2, none⟩ = some (.string t) ∧ w.cell? ⟨M, 3, none⟩ = some (.int .i64 n) ∧ w.cell? ⟨M, 4, none⟩ = some (.int .i64 e)) ∧
    w.frozen? ⟨M, 0, none⟩ = false ∧ w.frozen? ⟨M, 1, none⟩ = false ∧ w.frozen? ⟨M, 2, none⟩ = false ∧ w.frozen? ⟨M, 3, none⟩ = false ∧ w.frozen? ⟨M, 4, none⟩ = false := by
  refine ⟨⟨?_, ?_, ?_, ?_, ?_⟩, ?_, ?_, ?_, ?_, ?_⟩ <;> first | (simp [World.cell?, h]; done) | (simp [World.frozen?, h]; done)
theorem three_boxes (w : World) (o1 : Obj) (W : World) (hW : (((w.alloc o1).alloc (gotO 0 0 ⟨#[]⟩ 0 0)).alloc (gotO 0 0 ⟨#[]⟩ 0 0)) = W) :
    W.heap[w.heap.size + 1]? = some (gotO 0 0 ⟨#[]⟩ 0 0) ∧ W.heap[w.heap.size + 1 + 1]? = some (gotO 0 0 ⟨#[]⟩ 0 0) ∧ W.heap.size = w.heap.size + 1 + 1 + 1 := by
  subst hW
  refine ⟨?_, ?_, by simp⟩
  · rw [(below_one ((w.alloc o1).alloc (gotO 0 0 ⟨#[]⟩ 0 0)) _).block _ (by simp)]
    have := heap_alloc_new (w.alloc o1) (gotO 0 0 ⟨#[]⟩ 0 0)
    simpa using this
  · have := heap_alloc_new ((w.alloc o1).alloc (gotO 0 0 ⟨#[]⟩ 0 0)) (gotO 0 0 ⟨#[]⟩ 0 0)
    simpa using this
theorem got_store {w : World} {M : Nat} {u0 i0 n0 e0 : Int} {t0 : ByteArray} (h : w.heap[M]? = some (gotO u0 i0 t0 n0 e0)) (u i : Int) (t : ByteArray) (n e : Int) :
    (((((w.setCell ⟨M, 0, none⟩ (.int .u64 u)).setCell ⟨M, 1, none⟩ (.int .i64 i)).setCell ⟨M, 2, none⟩ (.string t)).setCell ⟨M, 3, none⟩ (.int .i64 n)).setCell ⟨M, 4, none⟩ (.int .i64 e)).heap[M]? = some (gotO u i t n e) :=
  heap_setCell_same _ M 4 _ _ _ (heap_setCell_same _ M 3 _ _ _ (heap_setCell_same _ M 2 _ _ _ (heap_setCell_same _ M 1 _ _ _ (heap_setCell_same _ M 0 _ _ _ h))))
theorem final_below {w0 w : World} (h : Below w0.heap.size w0 w) (u i : Int) (t : ByteArray) (n e : Int) :
    Below w0.heap.size w0 (((((w.setCell ⟨w0.heap.size + 1, 0, none⟩ (.int .u64 u)).setCell ⟨w0.heap.size + 1, 1, none⟩ (.int .i64 i)).setCell ⟨w0.heap.size + 1, 2, none⟩ (.string t)).setCell ⟨w0.heap.size + 1, 3, none⟩ (.int .i64 n)).setCell ⟨w0.heap.size + 1, 4, none⟩ (.int .i64 e)) :=
  ((((h.setCell (by simp) _).setCell (by simp) _).setCell (by simp) _).setCell (by simp) _).setCell (by simp) _
theorem turnI {w0 w : World} (b1 : w.heap[w0.heap.size + 1]? = some (gotO 0 0 ⟨#[]⟩ 0 0)) (b2 : w.heap[w0.heap.size + 1 + 1]? = some (gotO 0 0 ⟨#[]⟩ 0 0)) (h : Below w0.heap.size w0 w) (x n e : Int) :
    let W := ((w.setCell ⟨w0.heap.size + 1 + 1, 1, none⟩ (.int .i64 x)).setCell ⟨w0.heap.size + 1 + 1, 3, none⟩ (.int .i64 n)).setCell ⟨w0.heap.size + 1 + 1, 4, none⟩ (.int .i64 e)
    W.heap[w0.heap.size + 1]? = some (gotO 0 0 ⟨#[]⟩ 0 0) ∧ W.heap[w0.heap.size + 1 + 1]? = some (gotO 0 x ⟨#[]⟩ n e) ∧ Below w0.heap.size w0 W := by
  refine ⟨?_, heap_setCell_same _ _ 4 _ _ _ (heap_setCell_same _ _ 3 _ _ _ (heap_setCell_same _ _ 1 _ _ _ b2)), ((h.setCell (by simp; omega) _).setCell (by simp; omega) _).setCell (by simp; omega) _⟩
  rw [heap_setCell_other _ _ _ _ (by simp), heap_setCell_other _ _ _ _ (by simp), heap_setCell_other _ _ _ _ (by simp)]; exact b1
theorem turnF {w0 w : World} (b1 : w.heap[w0.heap.size + 1]? = some (gotO 0 0 ⟨#[]⟩ 0 0)) (b2 : w.heap[w0.heap.size + 1 + 1]? = some (gotO 0 0 ⟨#[]⟩ 0 0)) (h : Below w0.heap.size w0 w) (x e : Int) :
    let W := ((w.setCell ⟨w0.heap.size + 1 + 1, 0, none⟩ (.int .u64 x)).setCell ⟨w0.heap.size + 1 + 1, 4, none⟩ (.int .i64 e)).setCell ⟨w0.heap.size + 1 + 1, 3, none⟩ (.int .i64 8)
    W.heap[w0.heap.size + 1]? = some (gotO 0 0 ⟨#[]⟩ 0 0) ∧ W.heap[w0.heap.size + 1 + 1]? = some (gotO x 0 ⟨#[]⟩ 8 e) ∧ Below w0.heap.size w0 W := by
  refine ⟨?_, heap_setCell_same _ _ 3 _ _ _ (heap_setCell_same _ _ 4 _ _ _ (heap_setCell_same _ _ 0 _ _ _ b2)), ((h.setCell (by simp; omega) _).setCell (by simp; omega) _).setCell (by simp; omega) _⟩
  rw [heap_setCell_other _ _ _ _ (by simp), heap_setCell_other _ _ _ _ (by simp), heap_setCell_other _ _ _ _ (by simp)]; exact b1
theorem boxes_on {w W w2 : World} (hb : Below W.heap.size W w2) (h : W.heap[w.heap.size + 1]? = some (gotO 0 0 ⟨#[]⟩ 0 0) ∧ W.heap[w.heap.size + 1 + 1]? = some (gotO 0 0 ⟨#[]⟩ 0 0) ∧ W.heap.size = w.heap.size + 1 + 1 + 1) :
    w2.heap[w.heap.size + 1]? = some (gotO 0 0 ⟨#[]⟩ 0 0) ∧ w2.heap[w.heap.size + 1 + 1]? = some (gotO 0 0 ⟨#[]⟩ 0 0) := by
  rw [hb.block _ (by omega), hb.block _ (by omega)]; exact ⟨h.1, h.2.1⟩
set_option maxHeartbeats 4000000 in
theorem ref1_any (w : World) (v : Value) (b : List Int) (u i m : Int) (f : Nat) (t : ByteArray) (hv : Ints .u8 w v b) (hb : Bt b) (hl : b.length ≤ 20000) :
    Calls Tryz.prog 59 #[askV 1 u i f t m, v] w (RefP 0 (getI b).1 ⟨#[]⟩ (getI b).2.1 (getI b).2.2 w) := by
  have HU := Lib.hid (fun w1 (h : Below w.heap.size w w1) => rgetI_any v b w1 (hv.below h) hb (by omega))
  obtain ⟨a, cap, rfl, -, -⟩ := hv
  have hz := getI_zero (b := b)
  generalize getI b = R at *
  obtain ⟨x, n, e⟩ := R
  unfold tripI at HU
  simp only at HU hz
  have HB := Lib.hid (three_below w (askO 1 u i f t m) (gotO 0 0 ⟨#[]⟩ 0 0) (gotO 0 0 ⟨#[]⟩ 0 0))
  have HX := Lib.hid (three_boxes w (askO 1 u i f t m) _ rfl)
  by_cases he : e = 0
  · subst he
    go_enter Tryz.func59, Tryz.ntmps59
    go_wp2_with fail
    generalize (((w.alloc (askO 1 u i f t m)).alloc (gotO 0 0 ⟨#[]⟩ 0 0)).alloc (gotO 0 0 ⟨#[]⟩ 0 0)) = W at *
    refine (HU.out _ HB.out).mono ?_; rintro r w2 ⟨rfl, hb2⟩
    have hb2 : Below W.heap.size W w2 := hb2
    obtain ⟨b1, b2⟩ := boxes_on hb2 HX.out
    have HT := Lib.hid (turnI b1 b2 (below_then HB.out hb2) (x : Int) (n : Int) (0 : Int))
    obtain ⟨⟨d0, d1, d2, d3, d4⟩, g0, g1, g2, g3, g4⟩ := got_cells b2
    clear hb2 b1 b2
    go_upto_region 25 with fail
    generalize (((w2.setCell ⟨w.heap.size + 1 + 1, 1, none⟩ (.int .i64 (x : Int))).setCell ⟨w.heap.size + 1 + 1, 3, none⟩ (.int .i64 (n : Int))).setCell ⟨w.heap.size + 1 + 1, 4, none⟩ (.int .i64 (0 : Int))) = w3 at *
    clear d0 d1 d2 d3 d4 g0 g1 g2 g3 g4
    obtain ⟨b1, b2, hb3⟩ := HT.out
    have HE := Lib.hid (final_below hb3 (0 : Int) (x : Int) ⟨#[]⟩ (n : Int) (0 : Int))
    have HG := Lib.hid (got_cells (got_store b1 (0 : Int) (x : Int) ⟨#[]⟩ (n : Int) (0 : Int))).1
    obtain ⟨⟨c0, c1, c2, c3, c4⟩, f0, f1, f2, f3, f4⟩ := got_cells b1
    obtain ⟨⟨d0, d1, d2, d3, d4⟩, -⟩ := got_cells b2
    clear hb3 b1 b2
    go_wp2_with fail
    generalize (((((w3.setCell ⟨w.heap.size + 1, 0, none⟩ (.int .u64 (0 : Int))).setCell ⟨w.heap.size + 1, 1, none⟩ (.int .i64 (x : Int))).setCell ⟨w.heap.size + 1, 2, none⟩ (.string ⟨#[]⟩)).setCell ⟨w.heap.size + 1, 3, none⟩ (.int .i64 (n : Int))).setCell ⟨w.heap.size + 1, 4, none⟩ (.int .i64 (0 : Int))) = w4 at *
    obtain ⟨k0, k1, k2, k3, k4⟩ := HG.out
    exact bodyPost_ret (v := gotV 0 x ⟨#[]⟩ n 0) (by simp [results, Tryz.results59, go_sem, k0, k1, k2, k3, k4]) rfl ⟨rfl, HE.out⟩
  · obtain ⟨rfl, rfl⟩ := hz he
    have h0 : ((e : Int) == 0) = false := by simp; omega
    have h0' : ((e : Int) != 0) = true := by simp; omega
    go_enter Tryz.func59, Tryz.ntmps59
    go_wp2_with fail
    generalize (((w.alloc (askO 1 u i f t m)).alloc (gotO 0 0 ⟨#[]⟩ 0 0)).alloc (gotO 0 0 ⟨#[]⟩ 0 0)) = W at *
    refine (HU.out _ HB.out).mono ?_; rintro r w2 ⟨rfl, hb2⟩
    have hb2 : Below W.heap.size W w2 := hb2
    obtain ⟨b1, b2⟩ := boxes_on hb2 HX.out
    have HT := Lib.hid (turnI b1 b2 (below_then HB.out hb2) (0 : Int) (0 : Int) (e : Int))
    obtain ⟨⟨d0, d1, d2, d3, d4⟩, g0, g1, g2, g3, g4⟩ := got_cells b2
    clear hb2 b1 b2
    go_upto_region 25 with fail
    generalize (((w2.setCell ⟨w.heap.size + 1 + 1, 1, none⟩ (.int .i64 (0 : Int))).setCell ⟨w.heap.size + 1 + 1, 3, none⟩ (.int .i64 (0 : Int))).setCell ⟨w.heap.size + 1 + 1, 4, none⟩ (.int .i64 (e : Int))) = w3 at *
    clear d0 d1 d2 d3 d4 g0 g1 g2 g3 g4
    obtain ⟨b1, b2, hb3⟩ := HT.out
    have HE := Lib.hid (final_below hb3 (0 : Int) (0 : Int) ⟨#[]⟩ (0 : Int) (e : Int))
    have HG := Lib.hid (got_cells (got_store b1 (0 : Int) (0 : Int) ⟨#[]⟩ (0 : Int) (e : Int))).1
    obtain ⟨⟨c0, c1, c2, c3, c4⟩, f0, f1, f2, f3, f4⟩ := got_cells b1
    obtain ⟨⟨d0, d1, d2, d3, d4⟩, -⟩ := got_cells b2
    clear hb3 b1 b2
    go_wp2_with fail
    generalize (((((w3.setCell ⟨w.heap.size + 1, 0, none⟩ (.int .u64 (0 : Int))).setCell ⟨w.heap.size + 1, 1, none⟩ (.int .i64 (0 : Int))).setCell ⟨w.heap.size + 1, 2, none⟩ (.string ⟨#[]⟩)).setCell ⟨w.heap.size + 1, 3, none⟩ (.int .i64 (0 : Int))).setCell ⟨w.heap.size + 1, 4, none⟩ (.int .i64 (e : Int))) = w4 at *
    obtain ⟨k0, k1, k2, k3, k4⟩ := HG.out
    exact bodyPost_ret (v := gotV 0 0 ⟨#[]⟩ 0 e) (by simp [results, Tryz.results59, go_sem, k0, k1, k2, k3, k4]) rfl ⟨rfl, HE.out⟩
set_option maxHeartbeats 4000000 in
theorem ref2_any (w : World) (v : Value) (b : List Int) (u i m : Int) (f : Nat) (t : ByteArray) (hv : Ints .u8 w v b) (hb : Bt b) (hl : b.length ≤ 20000) :
    Calls Tryz.prog 59 #[askV 2 u i f t m, v] w (RefP (fN (getF b)).1 0 ⟨#[]⟩ (fN (getF b)).2.1 (fN (getF b)).2.2 w) := by
  have HU := Lib.hid (fun w1 (h : Below w.heap.size w w1) => rgetF_any v b w1 (hv.below h) hb (by omega))
  obtain ⟨a, cap, rfl, -, -⟩ := hv
  generalize getF b = R at *
  obtain ⟨x, e⟩ := R
  unfold pairF at HU
  simp only at HU
  have HB := Lib.hid (three_below w (askO 2 u i f t m) (gotO 0 0 ⟨#[]⟩ 0 0) (gotO 0 0 ⟨#[]⟩ 0 0))
  have HX := Lib.hid (three_boxes w (askO 2 u i f t m) _ rfl)
  by_cases he : e = 0
  · subst he
    rw [show fN (x, 0) = (x, 8, 0) by unfold fN; rw [if_pos rfl]]
    go_enter Tryz.func59, Tryz.ntmps59
    go_wp2_with fail
    generalize (((w.alloc (askO 2 u i f t m)).alloc (gotO 0 0 ⟨#[]⟩ 0 0)).alloc (gotO 0 0 ⟨#[]⟩ 0 0)) = W at *
    refine (HU.out _ HB.out).mono ?_; rintro r w2 ⟨rfl, hb2⟩
    have hb2 : Below W.heap.size W w2 := hb2.below
    obtain ⟨b1, b2⟩ := boxes_on hb2 HX.out
    have HT := Lib.hid (turnF b1 b2 (below_then HB.out hb2) (x : Int) (0 : Int))
    obtain ⟨⟨d0, d1, d2, d3, d4⟩, g0, g1, g2, g3, g4⟩ := got_cells b2
    clear hb2 b1 b2
    go_upto_region 25 with fail
    generalize (((w2.setCell ⟨w.heap.size + 1 + 1, 0, none⟩ (.int .u64 (x : Int))).setCell ⟨w.heap.size + 1 + 1, 4, none⟩ (.int .i64 (0 : Int))).setCell ⟨w.heap.size + 1 + 1, 3, none⟩ (.int .i64 8)) = w3 at *
    clear d0 d1 d2 d3 d4 g0 g1 g2 g3 g4
    obtain ⟨b1, b2, hb3⟩ := HT.out
    have HE := Lib.hid (final_below hb3 (x : Int) (0 : Int) ⟨#[]⟩ (8 : Int) (0 : Int))
    have HG := Lib.hid (got_cells (got_store b1 (x : Int) (0 : Int) ⟨#[]⟩ (8 : Int) (0 : Int))).1
    obtain ⟨⟨c0, c1, c2, c3, c4⟩, f0, f1, f2, f3, f4⟩ := got_cells b1
    obtain ⟨⟨d0, d1, d2, d3, d4⟩, -⟩ := got_cells b2
    clear hb3 b1 b2
    go_wp2_with fail
    generalize (((((w3.setCell ⟨w.heap.size + 1, 0, none⟩ (.int .u64 (x : Int))).setCell ⟨w.heap.size + 1, 1, none⟩ (.int .i64 (0 : Int))).setCell ⟨w.heap.size + 1, 2, none⟩ (.string ⟨#[]⟩)).setCell ⟨w.heap.size + 1, 3, none⟩ (.int .i64 (8 : Int))).setCell ⟨w.heap.size + 1, 4, none⟩ (.int .i64 (0 : Int))) = w4 at *
    obtain ⟨k0, k1, k2, k3, k4⟩ := HG.out
    exact bodyPost_ret (v := gotV x 0 ⟨#[]⟩ 8 0) (by simp [results, Tryz.results59, go_sem, k0, k1, k2, k3, k4]) rfl ⟨rfl, HE.out⟩
  · rw [show fN (x, e) = (0, 0, e) by unfold fN; rw [if_neg he]]
    have h0 : ((e : Int) == 0) = false := by simp; omega
    have h0' : ((e : Int) != 0) = true := by simp; omega
    go_enter Tryz.func59, Tryz.ntmps59
    go_wp2_with fail
    generalize (((w.alloc (askO 2 u i f t m)).alloc (gotO 0 0 ⟨#[]⟩ 0 0)).alloc (gotO 0 0 ⟨#[]⟩ 0 0)) = W at *
    refine (HU.out _ HB.out).mono ?_; rintro r w2 ⟨rfl, hb2⟩
    have hb2 : Below W.heap.size W w2 := hb2.below
    obtain ⟨b1, b2⟩ := boxes_on hb2 HX.out
    have HT := Lib.hid (turnF b1 b2 (below_then HB.out hb2) (x : Int) (e : Int))
    obtain ⟨⟨d0, d1, d2, d3, d4⟩, g0, g1, g2, g3, g4⟩ := got_cells b2
    clear hb2 b1 b2
    go_upto_region 25 with fail
    generalize (((w2.setCell ⟨w.heap.size + 1 + 1, 0, none⟩ (.int .u64 (x : Int))).setCell ⟨w.heap.size + 1 + 1, 4, none⟩ (.int .i64 (e : Int))).setCell ⟨w.heap.size + 1 + 1, 3, none⟩ (.int .i64 8)) = w3 at *
    clear d0 d1 d2 d3 d4 g0 g1 g2 g3 g4
    obtain ⟨b1, b2, hb3⟩ := HT.out
    have HE := Lib.hid (final_below hb3 (0 : Int) (0 : Int) ⟨#[]⟩ (0 : Int) (e : Int))
    have HG := Lib.hid (got_cells (got_store b1 (0 : Int) (0 : Int) ⟨#[]⟩ (0 : Int) (e : Int))).1
    obtain ⟨⟨c0, c1, c2, c3, c4⟩, f0, f1, f2, f3, f4⟩ := got_cells b1
    obtain ⟨⟨d0, d1, d2, d3, d4⟩, -⟩ := got_cells b2
    clear hb3 b1 b2
    go_wp2_with fail
    generalize (((((w3.setCell ⟨w.heap.size + 1, 0, none⟩ (.int .u64 (0 : Int))).setCell ⟨w.heap.size + 1, 1, none⟩ (.int .i64 (0 : Int))).setCell ⟨w.heap.size + 1, 2, none⟩ (.string ⟨#[]⟩)).setCell ⟨w.heap.size + 1, 3, none⟩ (.int .i64 (0 : Int))).setCell ⟨w.heap.size + 1, 4, none⟩ (.int .i64 (e : Int))) = w4 at *
    obtain ⟨k0, k1, k2, k3, k4⟩ := HG.out
    exact bodyPost_ret (v := gotV 0 0 ⟨#[]⟩ 0 e) (by simp [results, Tryz.results59, go_sem, k0, k1, k2, k3, k4]) rfl ⟨rfl, HE.out⟩
end Go.Proofs.YtdnbjaeeebodkaaGreat
