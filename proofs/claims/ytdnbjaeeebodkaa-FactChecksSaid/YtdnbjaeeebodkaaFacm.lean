/- Layer 12: the chapter's example. -/
import Derived.Test.YtdnbjaeeebodkaaFack
import Derived.Test.YtdnbjaeeebodkaaSchm
namespace Go.Proofs.Ytdnbjaeeebodkaa
set_option maxRecDepth 100000
open Go.RowKit
set_option linter.unusedVariables false
def exT : Sc := ⟨[(⟨#[97]⟩, 2)], [⟨#[109]⟩], [], []⟩
def exF : Fa := ⟨[1], [-3], []⟩
theorem ext_check : checkL exT = 0 := by decide +kernel
theorem ext_batch : (batchL exT [exF]).2 = 0 := by decide +kernel
theorem ext_enc : encFs [exF] = [1, 1, 1, 1, 7, 253] := by decide +kernel
theorem ext_str : ((strB [1, 1, 1, 1, 7, 253]).toList == [1, 1, 1, 1, 7, 253]) = true := by rw [ByteArray.toList_eq]; rfl
theorem ext_wf : SWf exT := by
  refine ⟨?_, ?_, ?_, ?_⟩
  · intro d h
    simp only [exT, List.mem_cons, List.not_mem_nil, or_false] at h
    subst h; decide
  · intro s h
    simp only [exT, List.mem_cons, List.not_mem_nil, or_false] at h
    subst h; decide
  · intro s h; simp [exT] at h
  · intro v h; simp [exT] at h
theorem exf_wf : FaWf exF := by
  refine ⟨?_, ?_, ?_, by decide⟩
  · intro x h; simp [exF] at h; omega
  · intro x h; simp [exF] at h; omega
  · intro x h; simp [exF] at h
theorem ext_dims (w : World) (N : Nat) (T : TypeId) (hN : w.heap.size = N) : Dims (w.alloc (.cells #[.string ⟨#[97]⟩, .int .i64 2] T)) (.slice (some ⟨N, 0, none⟩) 1 1) exT.ds := by
  subst hN
  refine ⟨_, _, rfl, by simp [exT], by simp [exT], .inr ⟨w.heap.size, 0, rfl, by simp, fun i hi => ?_⟩⟩
  have h2 : i < 1 := hi
  obtain rfl : i = 0 := by omega
  exact ⟨by simp [go_sem, dn, exT], by simp [go_sem, dz, exT]⟩
theorem fa_one {W : World} {C J N : Value} {f : Fa} {T : TypeId} {K : Nat} (hK : W.heap.size = K) (h : Fact3 W C J N f) : Facts (W.alloc (.cells #[C, J, N] T)) (.slice (some ⟨K, 0, none⟩) 1 1) [f] := by
  subst hK
  refine ⟨_, _, rfl, Nat.le_refl _, by simp, .inr ⟨W.heap.size, 0, rfl, by simp, fun i hi => ?_⟩⟩
  have h2 : i < 1 := hi
  obtain rfl : i = 0 := by omega
  exact ⟨C, J, N, ⟨by simp [go_sem], by simp [go_sem], by simp [go_sem]⟩, h.below (below_one _ _)⟩
set_option maxHeartbeats 4000000 in
theorem fawake_any (w : World) : Calls Try.prog 7 #[] w fun e w' => e = .returned (.bool true) ∧ Below w.heap.size w w' := by
  obtain ⟨W1, hW1⟩ : ∃ W, w.alloc (.cells #[.string ⟨#[97]⟩, .int .i64 2] 55) = W := ⟨_, rfl⟩
  obtain ⟨W2, hW2⟩ : ∃ W, W1.alloc (.cells #[.string ⟨#[109]⟩] 9) = W := ⟨_, rfl⟩
  have hd := ext_dims w w.heap.size 55 rfl
  rw [hW1] at hd
  have hs := strs_one (W := W1) (x := ⟨#[109]⟩) (T := 9) rfl
  have z1 : W1.heap.size = w.heap.size + 1 := by rw [← hW1]; simp
  rw [hW2, z1] at hs
  have b1 := below_one w (.cells #[.string ⟨#[97]⟩, .int .i64 2] 55)
  rw [hW1] at b1
  have b2 := below_one W1 (.cells #[.string ⟨#[109]⟩] 9)
  rw [hW2] at b2
  have z2 : W2.heap.size = w.heap.size + 1 + 1 := by rw [← hW2]; simp [z1]
  obtain ⟨W3, hW3⟩ : ∃ W, W2.alloc (SchO (.slice (some ⟨w.heap.size, 0, none⟩) 1 1) (.slice (some ⟨w.heap.size + 1, 0, none⟩) 1 1) (.slice none 0 0) (.slice none 0 0)) = W := ⟨_, rfl⟩
  have b3 := below_one W2 (SchO (.slice (some ⟨w.heap.size, 0, none⟩) 1 1) (.slice (some ⟨w.heap.size + 1, 0, none⟩) 1 1) (.slice none 0 0) (.slice none 0 0))
  have hx := box_new W2 (.slice (some ⟨w.heap.size, 0, none⟩) 1 1) (.slice (some ⟨w.heap.size + 1, 0, none⟩) 1 1) (.slice none 0 0) (.slice none 0 0)
  rw [hW3] at b3 hx
  rw [z2] at hx
  have z3 : W3.heap.size = w.heap.size + 1 + 1 + 1 := by rw [← hW3]; simp [z2]
  have HS : Sch4 W3 (.slice (some ⟨w.heap.size, 0, none⟩) 1 1) (.slice (some ⟨w.heap.size + 1, 0, none⟩) 1 1) (.slice none 0 0) (.slice none 0 0) exT :=
    ⟨(hd.below b2).below b3, hs.below b3, ⟨none, 0, rfl, by simp [exT], by simp [exT], .inl rfl⟩, ⟨none, 0, rfl, by simp [exT], .inl rfl⟩⟩
  obtain ⟨W4, hW4⟩ : ∃ W, W3.alloc (.cells #[.int .i64 1] 3) = W := ⟨_, rfl⟩
  have hc := set_one (k := .i64) (w := W3) (x := 1) (T := 3) z3
  have b4 := below_one W3 (.cells #[.int .i64 1] 3)
  rw [hW4] at hc b4
  have z4 : W4.heap.size = w.heap.size + 1 + 1 + 1 + 1 := by rw [← hW4]; simp [z3]
  obtain ⟨W5, hW5⟩ : ∃ W, W4.alloc (.cells #[.int .i64 (-3)] 2) = W := ⟨_, rfl⟩
  have hj := set_one (k := .i64) (w := W4) (x := -3) (T := 2) z4
  have b5 := below_one W4 (.cells #[.int .i64 (-3)] 2)
  rw [hW5] at hj b5
  have z5 : W5.heap.size = w.heap.size + 1 + 1 + 1 + 1 + 1 := by rw [← hW5]; simp [z4]
  have h3 : Fact3 W5 (.slice (some ⟨w.heap.size + 1 + 1 + 1, 0, none⟩) 1 1) (.slice (some ⟨w.heap.size + 1 + 1 + 1 + 1, 0, none⟩) 1 1) (.slice none 0 0) exF :=
    ⟨hc.below b5, hj, ⟨none, 0, rfl, by simp [exF], .inl rfl⟩⟩
  have hfs := fa_one (T := 42) z5 h3
  have b6 := below_one W5 (.cells #[.slice (some ⟨w.heap.size + 1 + 1 + 1, 0, none⟩) 1 1, .slice (some ⟨w.heap.size + 1 + 1 + 1 + 1, 0, none⟩) 1 1, .slice none 0 0] 42)
  have b46 := below_then b4 (below_then b5 b6)
  have HP := Lib.hid (fput_yes _ _ _ _ _ _ exT [exF] (HS.below b46) ext_wf hfs (fun f hf => by simp at hf; subst hf; exact exf_wf) ext_batch)
  rw [ext_enc] at HP
  have HB := Lib.hid (below_then b1 (below_then b2 (below_then b3 b46)))
  obtain ⟨x0, x1, x2, x3⟩ := hx.reads
  have hbt : Bt [1, 1, 1, 1, 7, 253] := by rw [← ext_enc]; intro x hx; rw [ext_enc] at hx; simp at hx; omega
  have HC := Lib.hid (fun w1 v (hv : Ints .u8 w1 v [1, 1, 1, 1, 7, 253]) => conv_ints hv hbt)
  have hq := ext_str
  generalize strB [1, 1, 1, 1, 7, 253] = sb at *
  clear hd hs z1 b1 b2 z2 b3 hx z3 HS hc b4 z4 hj b5 z5 h3 hfs b6 b46
  subst hW5 hW4 hW3 hW2 hW1
  go_enter Try.func7, Try.ntmps7
  go_wp2_with fail
  refine (HP.out).mono ?_; rintro e w1 ⟨⟨u, rfl, ho⟩, hb⟩
  have HB1 := Lib.hid (below_then HB.out hb)
  have hc := HC.out _ _ (Ints.own ho)
  obtain ⟨pa, pl, pc, rfl⟩ := own_slice3 ho
  clear x0 x1 x2 x3 hb ho
  go_wp2_with fail
  go_ret
  exact ⟨rfl, HB1.out⟩
end Go.Proofs.Ytdnbjaeeebodkaa
