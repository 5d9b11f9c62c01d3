/- The statement's read: floats; of a reader that reads nothing any more. -/
import Derived.Test.YtmganccajcpcbaaBufh
namespace Go.Proofs.Ytmganccajcpcbaa
set_option maxRecDepth 100000
open Go.RowKit
set_option linter.unusedVariables false
theorem Drawn.shut {v : Value} {e : Nat} {w w' : World} (h : Shut v e w) (hd : Drawn w w') : Shut v e w' := h.below hd.below
set_option maxHeartbeats 1000000 in
theorem rd2_ok (w : World) (N : Nat) (b : List Int) (p : Nat) (u i m gu gi gn ge : Int) (f : Nat) (t gt : ByteArray) (h : InAt w N b p 0) (he : (getF (b.drop p)).2 = 0) (hgn : 0 < gn) (hgu : gu = (getF (b.drop p)).1) :
    Calls Try.prog 10 #[.pointer (some ⟨N, 0, none⟩), askV 2 u i f t m, gotV gu gi gt gn ge] w (RdP w N b p 8 0) := by
  have HN := Lib.hid h.lt
  have HBx := Lib.hid (box_cells w 2 u i f t m gu gi gt gn ge _ rfl)
  have HR := Lib.hid (fun w2 (hb : Below ((w.alloc (askO 2 u i f t m)).alloc (gotO gu gi gt gn ge)).heap.size ((w.alloc (askO 2 u i f t m)).alloc (gotO gu gi gt gn ge)) w2) => inF_any w2 N b p ((h.below HBx.out.2.2.2.2.2).below hb))
  obtain ⟨q1, q2, -, -, -⟩ := keyed_from (getF_keyed he)
  have HK := Lib.hid (fun w => rkey_any (fromN gu) w (by rw [hgu]; exact q1))
  rw [show keyI (fromN gu) = gu by rw [hgu]; exact q2] at HK
  rw [show fN (getF (b.drop p)) = (gu, 8, 0) by unfold fN; rw [if_pos he, hgu]] at HR
  simp only [if_true] at HR
  generalize fromN gu = y at *
  have n0 : (gn == 0) = false := by simp; omega
  clear h q1 q2 hgu he
  go_enter Try.func10, Try.ntmps10
  go_upto_region 7 with fail
  generalize (w.alloc (askO 2 u i f t m)).alloc (gotO gu gi gt gn ge) = W at *
  obtain ⟨⟨k1, k2⟩, k3, k4, k5, k6, hBl⟩ := HBx.out
  have HB := Lib.hid hBl
  go_wp2_with fail
  refine (HR.out _ (Below.refl _ _)).mono ?_; intro r w2 hr
  obtain ⟨⟨v, rfl, rfl⟩, i2, g2⟩ := hr
  have c3 := cell_far g2 k3 (by have := HN.out; simp only; omega)
  have c6 := cell_far g2 k6 (by have := HN.out; simp only; omega)
  have HQ := Lib.hid (And.intro i2 g2)
  clear i2 g2 k1 k2 k3 k4 k5 k6 hBl HBx
  go_upto_region 8 with fail
  go_quiet ((go_at_call 30; exact Calls.quiet_of (HK.out _)))
  have HE := Lib.hid (below_drewN (Below.refl w2.heap.size w2) nq)
  go_wp2_with fail
  go_ret
  exact ⟨rfl, HQ.out.1.below HE.out, grown_then (grown_below HB.out (some N)) (grown_then HQ.out.2 (grown_below HE.out (some N)))⟩
set_option maxHeartbeats 1000000 in
theorem rd2_bad (w : World) (N : Nat) (b : List Int) (p : Nat) (u i m gu gi ge : Int) (f : Nat) (t gt : ByteArray) (h : InAt w N b p 0) (he : (getF (b.drop p)).2 ≠ 0) :
    Calls Try.prog 10 #[.pointer (some ⟨N, 0, none⟩), askV 2 u i f t m, gotV gu gi gt 0 ge] w (RdP w N b p 0 (getF (b.drop p)).2) := by
  have HN := Lib.hid h.lt
  have HBx := Lib.hid (box_cells w 2 u i f t m gu gi gt 0 ge _ rfl)
  have HR := Lib.hid (fun w2 (hb : Below ((w.alloc (askO 2 u i f t m)).alloc (gotO gu gi gt 0 ge)).heap.size ((w.alloc (askO 2 u i f t m)).alloc (gotO gu gi gt 0 ge)) w2) => inF_any w2 N b p ((h.below HBx.out.2.2.2.2.2).below hb))
  have HK := Lib.hid (fun w => rsame_any 0 0 w (by unfold W64; decide) (by unfold W64; decide))
  rw [show sameB 0 0 = true by decide] at HK
  rw [show fN (getF (b.drop p)) = (0, 0, (getF (b.drop p)).2) by unfold fN; rw [if_neg he]] at HR
  generalize (getF (b.drop p)).2 = e at *
  simp only [he, if_false] at HR
  clear h
  go_enter Try.func10, Try.ntmps10
  go_upto_region 7 with fail
  generalize (w.alloc (askO 2 u i f t m)).alloc (gotO gu gi gt 0 ge) = W at *
  obtain ⟨⟨k1, k2⟩, k3, k4, k5, k6, hBl⟩ := HBx.out
  have HB := Lib.hid hBl
  go_wp2_with fail
  refine (HR.out _ (Below.refl _ _)).mono ?_; intro r w2 hr
  obtain ⟨⟨v, rfl, rfl⟩, i2, g2⟩ := hr
  have c3 := cell_far g2 k3 (by have := HN.out; simp only; omega)
  have c6 := cell_far g2 k6 (by have := HN.out; simp only; omega)
  have HQ := Lib.hid (And.intro i2 g2)
  clear i2 g2 k1 k2 k3 k4 k5 k6 hBl HBx
  go_upto_region 8 with fail
  go_quiet ((go_at_call 29; exact Calls.quiet_of (HK.out _)))
  have HE := Lib.hid (below_drewN (Below.refl w2.heap.size w2) nq)
  go_wp2_with fail
  go_ret
  exact ⟨rfl, HQ.out.1.below HE.out, grown_then (grown_below HB.out (some N)) (grown_then HQ.out.2 (grown_below HE.out (some N)))⟩
set_option maxHeartbeats 1000000 in
theorem rs0_any (w : World) (v : Value) (e : Nat) (u i m : Int) (f : Nat) (t : ByteArray) (h : Shut v e w) :
    Calls Try.prog 10 #[v, askV 0 u i f t m, gotV 0 0 ⟨#[]⟩ 0 0] w fun r w' => r = .returned (.bool true) ∧ Below w.heap.size w w' := by
  have HBx := Lib.hid (box_cells w 0 u i f t m 0 0 ⟨#[]⟩ 0 0 _ rfl)
  have HR := Lib.hid (fun w2 (hb : Below w.heap.size w w2) => inU_shut w2 v e u (h.below hb))
  clear h
  go_enter Try.func10, Try.ntmps10
  go_upto_region 3 with fail
  generalize (w.alloc (askO 0 u i f t m)).alloc (gotO 0 0 ⟨#[]⟩ 0 0) = W at *
  obtain ⟨⟨k1, k2⟩, k3, k4, k5, k6, hBl⟩ := HBx.out
  have hBw : Below w.heap.size w W.drew := hBl.drew
  have hk : W.drew.cell? ⟨w.heap.size, 1, none⟩ = some (.int .u64 u) ∧ W.drew.cell? ⟨w.heap.size + 1, 0, none⟩ = some (.int .u64 0) := ⟨by simpa using k1, by simpa using k3⟩
  clear k1 k2 k3 k4 k5 k6 hBl HBx
  go_region_held3 (fun w' => w'.cell? ⟨w.heap.size, 1, none⟩ = some (.int .u64 u) ∧ w'.cell? ⟨w.heap.size + 1, 0, none⟩ = some (.int .u64 0)) (with_reducible exact hk)
    ((go_at_call 21; refine (HR.out _ hBw).mono ?_; rintro r w2 ⟨rfl, hb2⟩; have hk := And.intro (cell_on hb2 hk.1) (cell_on hb2 hk.2); have hBw := below_then hBw hb2; clear hb2))
  all_goals
    have HE := Lib.hid hBw
    go_wp2_with fail
    go_ret
    exact ⟨rfl, HE.out⟩
set_option maxHeartbeats 1000000 in
theorem rs1_any (w : World) (v : Value) (e : Nat) (u i m : Int) (f : Nat) (t : ByteArray) (h : Shut v e w) :
    Calls Try.prog 10 #[v, askV 1 u i f t m, gotV 0 0 ⟨#[]⟩ 0 0] w fun r w' => r = .returned (.bool true) ∧ Below w.heap.size w w' := by
  have HBx := Lib.hid (box_cells w 1 u i f t m 0 0 ⟨#[]⟩ 0 0 _ rfl)
  have HR := Lib.hid (fun w2 (hb : Below w.heap.size w w2) => inI_shut w2 v e  (h.below hb))
  clear h
  go_enter Try.func10, Try.ntmps10
  go_upto_region 5 with fail
  generalize (w.alloc (askO 1 u i f t m)).alloc (gotO 0 0 ⟨#[]⟩ 0 0) = W at *
  obtain ⟨⟨k1, k2⟩, k3, k4, k5, k6, hBl⟩ := HBx.out
  have hBw : Below w.heap.size w W.drew := hBl.drew
  have hk : W.drew.cell? ⟨w.heap.size + 1, 1, none⟩ = some (.int .i64 0) := by simpa using k4
  clear k1 k2 k3 k4 k5 k6 hBl HBx
  go_region_held3 (fun w' => w'.cell? ⟨w.heap.size + 1, 1, none⟩ = some (.int .i64 0)) (with_reducible exact hk)
    ((go_at_call 27; refine (HR.out _ hBw).mono ?_; rintro r w2 ⟨rfl, hb2⟩; have hk := cell_on hb2 hk; have hBw := below_then hBw hb2; clear hb2))
  all_goals
    have HE := Lib.hid hBw
    go_wp2_with fail
    go_ret
    exact ⟨rfl, HE.out⟩
set_option maxHeartbeats 1000000 in
theorem rs3_any (w : World) (v : Value) (e : Nat) (u i m : Int) (f : Nat) (t : ByteArray) (h : Shut v e w) :
    Calls Try.prog 10 #[v, askV 3 u i f t m, gotV 0 0 ⟨#[]⟩ 0 0] w fun r w' => r = .returned (.bool true) ∧ Below w.heap.size w w' := by
  have HBx := Lib.hid (box_cells w 3 u i f t m 0 0 ⟨#[]⟩ 0 0 _ rfl)
  have HR := Lib.hid (fun w2 (hb : Below w.heap.size w w2) => inT_shut w2 v e m (h.below hb))
  clear h
  go_enter Try.func10, Try.ntmps10
  go_upto_region 10 with fail
  generalize (w.alloc (askO 3 u i f t m)).alloc (gotO 0 0 ⟨#[]⟩ 0 0) = W at *
  obtain ⟨⟨k1, k2⟩, k3, k4, k5, k6, hBl⟩ := HBx.out
  have hBw : Below w.heap.size w W.drew := hBl.drew
  have hk : W.drew.cell? ⟨w.heap.size, 5, none⟩ = some (.int .i64 m) ∧ W.drew.cell? ⟨w.heap.size + 1, 2, none⟩ = some (.string ⟨#[]⟩) := ⟨by simpa using k2, by simpa using k5⟩
  clear k1 k2 k3 k4 k5 k6 hBl HBx
  go_region_held3 (fun w' => w'.cell? ⟨w.heap.size, 5, none⟩ = some (.int .i64 m) ∧ w'.cell? ⟨w.heap.size + 1, 2, none⟩ = some (.string ⟨#[]⟩)) (with_reducible exact hk)
    ((go_at_call 31; refine (HR.out _ hBw).mono ?_; rintro r w2 ⟨rfl, hb2⟩; have hk := And.intro (cell_on hb2 hk.1) (cell_on hb2 hk.2); have hBw := below_then hBw hb2; clear hb2))
  all_goals
    have HE := Lib.hid hBw
    go_wp2_with fail
    go_ret
    exact ⟨rfl, HE.out⟩
set_option maxHeartbeats 1000000 in
theorem rs4_any (w : World) (v : Value) (e : Nat) (u i m : Int) (f : Nat) (t : ByteArray) (d : Int) (hd : d < 0 ∨ 3 < d) (h : Shut v e w) :
    Calls Try.prog 10 #[v, askV d u i f t m, gotV 0 0 ⟨#[]⟩ 0 0] w fun r w' => r = .returned (.bool true) ∧ Below w.heap.size w w' := by
  have HBx := Lib.hid (box_cells w d u i f t m 0 0 ⟨#[]⟩ 0 0 _ rfl)
  have HR := Lib.hid (fun w2 (hb : Below w.heap.size w w2) => inB_shut w2 v e m (h.below hb))
  have d0 : (d == 0) = false := by simp; omega
  have d1 : (d == 1) = false := by simp; omega
  have d2 : (d == 2) = false := by simp; omega
  have d3 : (d == 3) = false := by simp; omega
  have hcv := fun w => conv_ints (ints_nil (w := w)) bt_nil
  rw [show strB [] = ⟨#[]⟩ from rfl] at hcv
  clear h
  go_enter Try.func10, Try.ntmps10
  go_upto_region 11 with fail
  generalize (w.alloc (askO d u i f t m)).alloc (gotO 0 0 ⟨#[]⟩ 0 0) = W at *
  obtain ⟨⟨k1, k2⟩, k3, k4, k5, k6, hBl⟩ := HBx.out
  have hBw : Below w.heap.size w W.drew := hBl.drew
  have hk : W.drew.cell? ⟨w.heap.size, 5, none⟩ = some (.int .i64 m) ∧ W.drew.cell? ⟨w.heap.size + 1, 2, none⟩ = some (.string ⟨#[]⟩) := ⟨by simpa using k2, by simpa using k5⟩
  clear k1 k2 k3 k4 k5 k6 hBl HBx
  go_region_law
    ((go_simp; go_at_call 32; refine (HR.out _ hBw).mono ?_; rintro r w2 ⟨rfl, hb2⟩; have hk := And.intro (cell_on hb2 hk.1) (cell_on hb2 hk.2); have hBw := below_then hBw hb2; clear hb2))
  all_goals
    have HE := Lib.hid hBw
    go_wp2_with fail
    go_ret
    exact ⟨rfl, HE.out⟩
set_option maxHeartbeats 1000000 in
theorem rs2_any (w : World) (v : Value) (e : Nat) (u i m : Int) (f : Nat) (t : ByteArray) (h : Shut v e w) :
    Calls Try.prog 10 #[v, askV 2 u i f t m, gotV 0 0 ⟨#[]⟩ 0 0] w fun r w' => r = .returned (.bool true) ∧ Below w.heap.size w w' := by
  have HBx := Lib.hid (box_cells w 2 u i f t m 0 0 ⟨#[]⟩ 0 0 _ rfl)
  have HR := Lib.hid (fun w2 (hb : Below w.heap.size w w2) => inF_shut w2 v e (h.below hb))
  have HK := Lib.hid (fun w => rsame_any 0 0 w (by unfold W64; decide) (by unfold W64; decide))
  rw [show sameB 0 0 = true by decide] at HK
  clear h
  go_enter Try.func10, Try.ntmps10
  go_upto_region 7 with fail
  generalize (w.alloc (askO 2 u i f t m)).alloc (gotO 0 0 ⟨#[]⟩ 0 0) = W at *
  obtain ⟨⟨k1, k2⟩, k3, k4, k5, k6, hBl⟩ := HBx.out
  have HB := Lib.hid hBl
  go_wp2_with fail
  refine (HR.out _ HB.out).mono ?_; rintro r w2 ⟨rfl, hb2⟩
  have c3 := cell_on hb2 k3
  have c6 := cell_on hb2 k6
  have HQ := Lib.hid (below_then HB.out hb2)
  clear hb2 k1 k2 k3 k4 k5 k6 hBl HBx
  go_upto_region 8 with fail
  go_quiet ((go_at_call 29; exact Calls.quiet_of (HK.out _)))
  have HE := Lib.hid (below_drewN (Below.refl w2.heap.size w2) nq)
  go_wp2_with fail
  go_ret
  exact ⟨rfl, below_then HQ.out HE.out⟩
/-- A reader that is shut answers each question with nothing. -/
theorem rs_any (w : World) (v : Value) (e : Nat) (d u i m : Int) (f : Nat) (t : ByteArray) (h : Shut v e w) :
    Calls Try.prog 10 #[v, askV d u i f t m, gotV 0 0 ⟨#[]⟩ 0 0] w fun r w' => r = .returned (.bool true) ∧ Below w.heap.size w w' := by
  by_cases h0 : d = 0
  · subst h0; exact rs0_any w v e u i m f t h
  · by_cases h1 : d = 1
    · subst h1; exact rs1_any w v e u i m f t h
    · by_cases h2 : d = 2
      · subst h2; exact rs2_any w v e u i m f t h
      · by_cases h3 : d = 3
        · subst h3; exact rs3_any w v e u i m f t h
        · exact rs4_any w v e u i m f t d (by omega) h
end Go.Proofs.Ytmganccajcpcbaa
