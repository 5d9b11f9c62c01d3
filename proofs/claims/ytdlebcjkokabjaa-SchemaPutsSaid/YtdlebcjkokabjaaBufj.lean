/- The reference's reading. -/
import Derived.Test.YtdlebcjkokabjaaBufh
namespace Go.Proofs.Ytdlebcjkokabjaa
set_option maxRecDepth 100000
open Go.RowKit
set_option linter.unusedVariables false
/-- What the reference's reading returns. -/
def RefP (u i : Int) (t : ByteArray) (n e : Nat) (w : World) (r : Ending) (w' : World) : Prop := r = .returned (gotV u i t n e) ∧ Below w.heap.size w w'
theorem three_below (w : World) (o1 o2 o3 : Obj) : Below w.heap.size w (((w.alloc o1).alloc o2).alloc o3) := below_then (two_below w o1 o2) (below_one _ o3)
set_option maxHeartbeats 2000000 in
theorem ref0_any (w : World) (v : Value) (b : List Int) (u i m : Int) (f : Nat) (t : ByteArray) (hv : Ints .u8 w v b) (hb : Bt b) (hl : b.length ≤ 20000) :
    Calls Try.prog 90 #[askV 0 u i f t m, v] w (RefP (uN u (getU b)).1 0 ⟨#[]⟩ (uN u (getU b)).2.1 (uN u (getU b)).2.2 w) := by
  have HU := Lib.hid (fun w1 (h : Below w.heap.size w w1) => rgetU_any v b w1 (hv.below h) hb (by omega))
  obtain ⟨a, cap, rfl, -, -⟩ := hv
  have hz := getU_zero (b := b)
  generalize getU b = R at *
  obtain ⟨x, n, e⟩ := R
  unfold trip at HU
  simp only at HU hz
  have HB := Lib.hid (three_below w (askO 0 u i f t m) (gotO 0 0 ⟨#[]⟩ 0 0) (gotO 0 0 ⟨#[]⟩ 0 0))
  by_cases he : e = 0
  · subst he
    by_cases h1 : u < x
    · rw [show uN u (x, n, 0) = (0, 0, 2) by unfold uN; rw [if_pos ⟨rfl, h1⟩]]
      go_enter Try.func90, Try.ntmps90
      go_wp2_with fail
      refine (HU.out _ HB.out).mono ?_; rintro r w1 ⟨rfl, rfl⟩
      go_wp2_with fail
      exact bodyPost_ret (v := gotV 0 0 ⟨#[]⟩ 0 2) (by simp [results, Try.results90, go_sem]) rfl ⟨rfl, three_below w _ _ _⟩
    · rw [show uN u (x, n, 0) = (x, n, 0) by unfold uN; rw [if_neg (fun h => h1 h.2)]]
      go_enter Try.func90, Try.ntmps90
      go_wp2_with fail
      refine (HU.out _ HB.out).mono ?_; rintro r w1 ⟨rfl, rfl⟩
      go_wp2_with fail
      exact bodyPost_ret (v := gotV x 0 ⟨#[]⟩ n 0) (by simp [results, Try.results90, go_sem]) rfl ⟨rfl, three_below w _ _ _⟩
  · obtain ⟨rfl, rfl⟩ := hz he
    rw [show uN u (0, 0, e) = (0, 0, e) by unfold uN; rw [if_neg (fun h => he h.1)]]
    have h0 : ((e : Int) == 0) = false := by simp; omega
    have h0' : ((e : Int) != 0) = true := by simp; omega
    go_enter Try.func90, Try.ntmps90
    go_wp2_with fail
    refine (HU.out _ HB.out).mono ?_; rintro r w1 ⟨rfl, rfl⟩
    go_wp2_with fail
    exact bodyPost_ret (v := gotV 0 0 ⟨#[]⟩ 0 e) (by simp [results, Try.results90, go_sem]) rfl ⟨rfl, three_below w _ _ _⟩
set_option maxHeartbeats 2000000 in
theorem ref3_any (w : World) (v : Value) (b : List Int) (u i m : Int) (f : Nat) (t : ByteArray) (hv : Ints .u8 w v b) (hb : Bt b) (hl : b.length ≤ 20000) :
    Calls Try.prog 90 #[askV 3 u i f t m, v] w (RefP 0 0 (strB (tN m (getT b [] 0)).1) (tN m (getT b [] 0)).2.1 (tN m (getT b [] 0)).2.2 w) := by
  have HU := Lib.hid (fun w1 (h : Below w.heap.size w w1) => rgetT_any v b w1 (hv.below h) hb (by omega))
  obtain ⟨a, cap, rfl, -, -⟩ := hv
  have hz := (getT_fit b [] 0).2.2
  generalize getT b [] 0 = R at *
  obtain ⟨x, n, e⟩ := R
  unfold tripT at HU
  simp only at HU hz
  have HB := Lib.hid (three_below w (askO 3 u i f t m) (gotO 0 0 ⟨#[]⟩ 0 0) (gotO 0 0 ⟨#[]⟩ 0 0))
  by_cases he : e = 0
  · subst he
    have hs := strB_size x
    by_cases h1 : max m 0 < (x.length : Int)
    · rw [show tN m (x, n, 0) = ([], 0, 4) by unfold tN; rw [if_pos ⟨rfl, h1⟩]]
      rw [← hs] at h1
      simp only [show strB [] = ⟨#[]⟩ from rfl]
      generalize strB x = S at *
      go_enter Try.func90, Try.ntmps90
      go_wp2_with fail
      refine (HU.out _ HB.out).mono ?_; rintro r w1 ⟨rfl, rfl⟩
      go_wp2_with fail
      exact bodyPost_ret (v := gotV 0 0 ⟨#[]⟩ 0 4) (by simp [results, Try.results90, go_sem]) rfl ⟨rfl, three_below w _ _ _⟩
    · rw [show tN m (x, n, 0) = (x, n, 0) by unfold tN; rw [if_neg (fun h => h1 h.2)]]
      rw [← hs] at h1
      simp only
      generalize strB x = S at *
      go_enter Try.func90, Try.ntmps90
      go_wp2_with fail
      refine (HU.out _ HB.out).mono ?_; rintro r w1 ⟨rfl, rfl⟩
      go_wp2_with fail
      exact bodyPost_ret (v := gotV 0 0 S n 0) (by simp [results, Try.results90, go_sem]) rfl ⟨rfl, three_below w _ _ _⟩
  · obtain ⟨rfl, rfl⟩ := hz he
    rw [show tN m ([], 0, e) = ([], 0, e) by unfold tN; rw [if_neg (fun h => he h.1)]]
    have h0 : ((e : Int) == 0) = false := by simp; omega
    have h0' : ((e : Int) != 0) = true := by simp; omega
    simp only [show strB [] = ⟨#[]⟩ from rfl] at HU ⊢
    go_enter Try.func90, Try.ntmps90
    go_wp2_with fail
    refine (HU.out _ HB.out).mono ?_; rintro r w1 ⟨rfl, rfl⟩
    go_wp2_with fail
    exact bodyPost_ret (v := gotV 0 0 ⟨#[]⟩ 0 e) (by simp [results, Try.results90, go_sem]) rfl ⟨rfl, three_below w _ _ _⟩
end Go.Proofs.Ytdlebcjkokabjaa
