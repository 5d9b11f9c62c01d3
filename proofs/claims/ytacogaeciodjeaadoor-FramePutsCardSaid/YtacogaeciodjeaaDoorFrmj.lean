/- The chapter's example. -/
import Derived.Test.YtacogaeciodjeaaDoorFrmf
namespace Go.Proofs.YtacogaeciodjeaaDoor
set_option maxRecDepth 100000
open Go.RowKit
set_option linter.unusedVariables false
theorem put_nil : (putN []).length = 8 ∧ (putN []).take 4 = [181, 0, 0, 0] := ⟨rfl, rfl⟩
theorem str4 : ((strB [181, 0, 0, 0]).toList == [181, 0, 0, 0]) = true := by rw [strB_list]; rfl
set_option maxHeartbeats 1000000 in
theorem awake9_any (w : World) (hT : Fours w) : Calls Tryd.prog 6 #[] w fun e w' => e = .returned (.bool true) ∧ Below w.heap.size w w' := by
  have HP := Lib.hid (pput_any _ [] w ints_nil byt0 (by decide) hT)
  have HZ := Lib.hid (fun w' => psize_any 0 w')
  rw [show sizeN 0 = 8 from rfl] at HZ
  have HC := Lib.hid (fun w' u c (h : Ints .u8 w' (.slice u 8 c) (putN [])) => upto_any (a := u) (cap := c) (b := putN []) (h := 4) h (by rw [put_nil.1]; decide))
  have HK := Lib.hid (fun w' v (h : Ints .u8 w' v [181, 0, 0, 0]) => conv_ints (v := v) (w := w') (l := [181, 0, 0, 0]) h (fun x hx => by simp at hx; omega))
  have H4 := str4
  rw [put_nil.2] at HC
  have HL := Lib.hid put_nil.1
  simp only [put_nil.1] at HC
  unfold PutP at HP
  generalize strB [181, 0, 0, 0] = S at *
  generalize putN [] = R at *
  clear hT
  go_enter Tryd.func6, Tryd.ntmps6
  go_wp2_with fail
  refine (HP.out).mono ?_; rintro e w1 ⟨⟨v, rfl, ho⟩, hb⟩
  have hi := Ints.own ho
  obtain ⟨pa, pc, rfl⟩ := own_slice ho
  rw [HL.out] at hi ⊢
  obtain ⟨hop, hi4⟩ := HC.out _ _ _ hi
  have hop : ∀ w', (Instr.slice 22 (.slice pa 8 pc) none (some (.int .i64 4)) none).run Tryd.prog w' = .ok (.slice pa 4 pc) w' := hop
  have hcv := HK.out _ _ hi4
  have HB := Lib.hid hb
  clear ho hi hi4 hb HC HK
  go_wp2_with fail
  refine (HZ.out _).mono ?_; rintro e w' ⟨rfl, rfl⟩
  go_wp2_with fail
  go_ret
  exact ⟨rfl, HB.out⟩
end Go.Proofs.YtacogaeciodjeaaDoor
