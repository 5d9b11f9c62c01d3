/- The reference's reading: bytes. -/
import Derived.Test.YtmganccajcpcbaaBufj
namespace Go.Proofs.Ytmganccajcpcbaa
set_option maxRecDepth 100000
open Go.RowKit
set_option linter.unusedVariables false
set_option maxHeartbeats 4000000 in
theorem ref4_any (w : World) (v : Value) (b : List Int) (d u i m : Int) (f : Nat) (t : ByteArray) (hd : d < 0 ∨ 3 < d) (hm : m ≤ 9223372036854775807) (hv : Ints .u8 w v b) (hb : Bt b) (hl : b.length ≤ 20000) :
    Calls Try.prog 9 #[askV d u i f t m, v] w (RefP 0 0 (strB (bN m b).1) (bN m b).2.1 (bN m b).2.2 w) := by
  have HU := Lib.hid (fun w1 (h : Below w.heap.size w w1) => rgetU_any v b w1 (hv.below h) hb (by omega))
  have HV := Lib.hid hv
  have HBt := Lib.hid hb
  obtain ⟨a, cap, rfl, -, -⟩ := hv
  have hfit := (getU_fit hb).1
  obtain ⟨rr, hrr⟩ : ∃ rr, getU b = rr := ⟨_, rfl⟩
  obtain ⟨x, n, e⟩ := rr
  have HE := Lib.hid hrr
  rw [hrr] at HU hfit
  unfold trip at HU
  simp only at HU hfit
  have d0 : (d == 0) = false := by simp; omega
  have d1 : (d == 1) = false := by simp; omega
  have d2 : (d == 2) = false := by simp; omega
  have d3 : (d == 3) = false := by simp; omega
  have i0 : IntKind.u64.wrap (max m 0) = max m 0 := by rw [IntKind.wrap_u64]; omega
  have HB := Lib.hid (three_below w (askO d u i f t m) (gotO 0 0 ⟨#[]⟩ 0 0) (gotO 0 0 ⟨#[]⟩ 0 0))
  clear hrr hd hb hm
  by_cases he : e = 0
  · subst he
    obtain ⟨f1, f2, f3⟩ := hfit rfl
    clear hfit
    have i1 : IntKind.i64.wrap ((b.length : Int) - (n : Int)) = ((b.length - n : Nat) : Int) := by rw [IntWalk.i64_in _ (by omega)]; omega
    have i2 : IntKind.u64.wrap ((b.length - n : Nat) : Int) = ((b.length - n : Nat) : Int) := by rw [IntKind.wrap_u64]; omega
    by_cases h1 : max m 0 < x
    · rw [show bN m b = ([], 0, 4) by unfold bN; rw [HE.out]; simp only [ne_eq, not_true, if_false]; rw [if_pos h1]]
      simp only [show strB [] = ⟨#[]⟩ from rfl]
      go_enter Try.func9, Try.ntmps9
      go_wp2_with fail
      refine (HU.out _ HB.out).mono ?_; rintro r w1 ⟨rfl, rfl⟩
      go_wp2_with fail
      exact bodyPost_ret (v := gotV 0 0 ⟨#[]⟩ 0 4) (by simp [results, Try.results9, go_sem]) rfl ⟨rfl, three_below w _ _ _⟩
    · by_cases h2 : ((b.length - n : Nat) : Int) < x
      · rw [show bN m b = ([], 0, 5) by unfold bN; rw [HE.out]; simp only [ne_eq, not_true, if_false]; rw [if_neg h1, if_pos h2]]
        simp only [show strB [] = ⟨#[]⟩ from rfl]
        go_enter Try.func9, Try.ntmps9
        go_wp2_with fail
        refine (HU.out _ HB.out).mono ?_; rintro r w1 ⟨rfl, rfl⟩
        go_wp2_with fail
        exact bodyPost_ret (v := gotV 0 0 ⟨#[]⟩ 0 5) (by simp [results, Try.results9, go_sem]) rfl ⟨rfl, three_below w _ _ _⟩
      · rw [bN_ok HE.out h1 h2]
        obtain ⟨X, rfl⟩ : ∃ X : Nat, x = X := ⟨x.toNat, by omega⟩
        rw [Int.toNat_natCast]
        obtain ⟨s, hs⟩ : ∃ s, n + X = s := ⟨_, rfl⟩
        rw [hs]
        obtain ⟨q, c, hop, hi⟩ := part_any HV.out (k := n) (h := s) (by omega) (by omega)
        have i3 : IntKind.i64.wrap (X : Int) = X := IntWalk.i64_in _ (by omega)
        have i4 : IntKind.i64.wrap ((n : Int) + X) = s := by rw [IntWalk.i64_in _ (by omega)]; omega
        have hcv := fun o1 o2 o3 => conv_ints (hi.below (three_below w o1 o2 o3)) (fun y hy => HBt.out y (List.mem_of_mem_take (List.mem_of_mem_drop hy)))
        generalize strB ((b.take s).drop n) = S at *
        generalize s - n = qq at *
        clear hi hs f1 f2 f3
        go_enter Try.func9, Try.ntmps9
        go_wp2_with fail
        refine (HU.out _ HB.out).mono ?_; rintro r w1 ⟨rfl, rfl⟩
        go_wp2_with fail
        exact bodyPost_ret (v := gotV 0 0 S s 0) (by simp [results, Try.results9, go_sem]) rfl ⟨rfl, three_below w _ _ _⟩
  · rw [show bN m b = ([], 0, e) by unfold bN; rw [HE.out]; simp only; rw [if_pos he]]
    simp only [show strB [] = ⟨#[]⟩ from rfl]
    have h0 : ((e : Int) == 0) = false := by simp; omega
    have h0' : ((e : Int) != 0) = true := by simp; omega
    go_enter Try.func9, Try.ntmps9
    go_wp2_with fail
    refine (HU.out _ HB.out).mono ?_; rintro r w1 ⟨rfl, rfl⟩
    go_wp2_with fail
    exact bodyPost_ret (v := gotV 0 0 ⟨#[]⟩ 0 e) (by simp [results, Try.results9, go_sem]) rfl ⟨rfl, three_below w _ _ _⟩
end Go.Proofs.Ytmganccajcpcbaa
