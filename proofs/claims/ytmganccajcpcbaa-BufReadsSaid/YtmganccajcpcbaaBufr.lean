/- The chapter's examples; a thing's number. -/
import Derived.Test.YtmganccajcpcbaaBufq
namespace Go.Proofs.Ytmganccajcpcbaa
set_option maxRecDepth 100000
open Go.RowKit
set_option linter.unusedVariables false
theorem strB_list (l : List Int) : (strB l).toList = l.map fun x => UInt8.ofNat x.toNat := by rw [ByteArray.toList_eq]; simp [strB]
set_option maxHeartbeats 1000000 in
theorem awake8_any (w : World) : Calls Try.prog 7 #[] w fun r w' => r = .returned (.bool true) ∧ Below w.heap.size w w' := by
  have HU := Lib.hid (fun w1 N (h : OutAt w1 N []) => outU_any w1 N [] 5 (by decide) h (by decide +kernel))
  have HT := Lib.hid (fun w1 N (h : OutAt w1 N [encU 5]) => outT_any w1 N [encU 5] ⟨#[97]⟩ (by decide) h (by decide +kernel))
  have HI := Lib.hid (fun w1 v (h : Ints .u8 w1 v [1, 5]) => newin_any v [1, 5] w1 h (by intro x hx; simp at hx; omega) (by decide))
  have HR := Lib.hid (fun w1 M (h : InAt w1 M [1, 5] 0 0) => inU_any w1 M [1, 5] 0 4 h)
  rw [show uN 4 (getU (([1, 5] : List Int).drop 0)) = (0, 0, 2) by decide +kernel] at HR
  try simp only at HR
  have HF := Lib.hid (fun w1 M (h : InAt w1 M [1, 5] 0 2) => fault_err w1 M [1, 5] 0 2 h (by decide) (by decide))
  have HY := Lib.hid (fun w1 N (h : OutAt w1 N [encT (ofS ⟨#[97]⟩), encU 5]) => bytes_any w1 N _ h (by decide +kernel))
  rw [show catR [encT (ofS ⟨#[97]⟩), encU 5] = [1, 5, 97, 0, 0] by decide +kernel] at HY
  have HC := Lib.hid (fun w v (h : Ints .u8 w v [1, 5, 97, 0, 0]) => conv_ints h (by intro x hx; simp at hx; omega))
  have t1 : ((strB [1, 5, 97, 0, 0]).toList == [1, 5, 97, 0, 0]) = true := by rw [strB_list]; rfl
  generalize strB [1, 5, 97, 0, 0] = S at *
  have HB1 := Lib.hid (below_one w (.cells #[.pointer none, .int .i64 0, .bool true] 50))
  have HO := Lib.hid (out_new w)
  go_enter Try.func7, Try.ntmps7
  go_wp2_with fail
  refine (newout_any _).mono ?_; rintro r w1 ⟨rfl, rfl⟩
  go_wp2_with fail
  refine (HU.out _ _ HO.out).mono ?_; rintro r w2 ⟨rfl, h1, h2⟩
  have HB2 := Lib.hid (below_grown HB1.out h2 (Nat.le_refl _))
  have HO2 := Lib.hid h1
  clear h1 h2
  go_wp2_with fail
  refine (HT.out _ _ HO2.out).mono ?_; rintro r w3 ⟨rfl, h1, h2⟩
  have HB3 := Lib.hid (below_grown HB2.out h2 (Nat.le_refl _))
  have HO3 := Lib.hid (h1.below (below_one w3 (.cells #[.int .u8 1, .int .u8 5] 5)))
  have HB4 := Lib.hid (below_then HB3.out (below_one w3 (.cells #[.int .u8 1, .int .u8 5] 5)))
  clear h1 h2
  go_wp2_with fail
  refine (HI.out _ _ (ints_new (zs := [1, 5]) rfl)).mono ?_; rintro r w4 ⟨M, rfl, hM, hi, hb⟩
  have HO4 := Lib.hid (HO3.out.below hb)
  have HB5 := Lib.hid (And.intro (below_then HB4.out hb) (Nat.le_trans HB4.out.size hM))
  have HI4 := Lib.hid hi
  clear hi hb hM
  go_wp2_with fail
  refine (HR.out _ _ HI4.out).mono ?_; rintro r w5 ⟨⟨v, rfl, rfl⟩, hi, hg⟩
  have HO5 := Lib.hid (HO4.out.beside HI4.out hg)
  have HB6 := Lib.hid (below_grown HB5.out.1 hg HB5.out.2)
  have HI5 := Lib.hid hi
  clear hi hg
  go_wp2_with fail
  refine (HF.out _ _ HI5.out).mono ?_; rintro r w6 ⟨rfl, rfl⟩
  go_wp2_with fail
  refine (HY.out _ _ HO5.out).mono ?_; intro r w7 hr
  obtain ⟨⟨v, rfl, ho⟩, k3⟩ := hr
  have hcv := HC.out _ _ (Ints.own ho)
  obtain ⟨pa, pl, pc, rfl⟩ := own_slice3 ho
  have HB7 := Lib.hid (below_then HB6.out k3)
  clear k3 ho
  go_wp2_with fail
  go_ret
  exact ⟨by rfl, HB7.out⟩
theorem told_any (w : World) (d u i : Int) (f : Nat) (t : ByteArray) (m : Int) (hf : W64 f) :
    Calls Try.prog 18 #[askV d u i f t m] w fun r w' => r = .returned (.int .u64 (if d = 2 then keyI f else u)) ∧ Below w.heap.size w w' := by
  have HB := Lib.hid (below_one w (askO d u i f t m))
  by_cases hd : d = 2
  · subst hd
    have HK := Lib.hid (fun w => rkey_any f w hf)
    generalize keyI f = y at *
    go_enter Try.func18, Try.ntmps18
    go_wp2_with fail
    refine (HK.out _).mono ?_; rintro r w2 ⟨rfl, hd⟩
    have HB2 := Lib.hid (below_then HB.out hd.below)
    clear hd
    go_wp2_with fail
    go_ret
    exact ⟨rfl, HB2.out⟩
  · have d2 : (d == 2) = false := by simpa using hd
    rw [if_neg hd]
    go_enter Try.func18, Try.ntmps18
    go_wp2_with fail
    go_ret
    exact ⟨rfl, HB.out⟩
end Go.Proofs.Ytmganccajcpcbaa
