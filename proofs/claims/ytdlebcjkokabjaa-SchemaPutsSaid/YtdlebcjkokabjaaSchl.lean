/- Layer 11: the chapter's example. -/
import Derived.Test.YtdlebcjkokabjaaSchk
namespace Go.Proofs.Ytdlebcjkokabjaa
set_option maxRecDepth 100000
open Go.RowKit
set_option linter.unusedVariables false
def exS : Sc := ⟨[(⟨#[97]⟩, 2), (⟨#[98]⟩, 3)], [], [], [1]⟩
theorem ex_check : checkL exS = 0 := by decide +kernel
theorem ex_full : fullL exS.ds = 3 := by decide
theorem ex_keys3 : keysL exS.ds 3 exS.ds.length = 6 := by decide
theorem ex_keys1 : keysL exS.ds 1 exS.ds.length = 2 := by decide
theorem ex_wf : SWf exS := by
  refine ⟨?_, ?_, ?_, ?_⟩
  · intro d h
    simp only [exS, List.mem_cons, List.not_mem_nil, or_false] at h
    rcases h with rfl | rfl <;> decide
  · intro s h; simp [exS] at h
  · intro s h; simp [exS] at h
  · intro v h
    simp only [exS, List.mem_cons, List.not_mem_nil, or_false] at h
    subst h; decide
theorem ex_dims (w : World) (N : Nat) (T : TypeId) (hN : w.heap.size = N) : Dims (w.alloc (.cells #[.string ⟨#[97]⟩, .int .i64 2, .string ⟨#[98]⟩, .int .i64 3] T)) (.slice (some ⟨N, 0, none⟩) 2 2) exS.ds := by
  subst hN
  refine ⟨_, _, rfl, by simp [exS], by simp [exS], .inr ⟨w.heap.size, 0, rfl, by simp, fun i hi => ?_⟩⟩
  have h2 : i < 2 := hi
  rcases (by omega : i = 0 ∨ i = 1) with rfl | rfl
  · exact ⟨by simp [go_sem, dn, exS], by simp [go_sem, dz, exS]⟩
  · exact ⟨by simp [go_sem, dn, exS], by simp [go_sem, dz, exS]⟩
theorem ex_k {w : World} {D I M V : Value} (h : Sch4 w D I M V exS) (m k : Int) (m0 : 0 ≤ m) (m1 : m ≤ 3) (hk : keysL exS.ds m exS.ds.length = k) :
    Calls Try.prog 8 #[SchV D I M V, .int .u32 m] w fun e w' => e = .returned (.tuple #[.int .u64 k, .bool true]) ∧ Below w.heap.size w w' := by
  have hx : checkL exS = 0 ∧ m ≤ fullL exS.ds := ⟨ex_check, by rw [ex_full]; exact m1⟩
  have := keys_any w D I M V exS m h ex_wf m0 (by omega)
  rwa [if_pos hx, decide_eq_true hx, hk] at this
theorem ex_views {w : World} {D I M V : Value} (h : Sch4 w D I M V exS) :
    Calls Try.prog 12 #[SchV D I M V] w fun e w' => (∃ v, e = .returned v ∧ Ints .u32 w' v [3, 1]) ∧ Below w.heap.size w w' := by
  have := views_any w D I M V exS h ex_wf
  rwa [if_pos ex_check, ex_full] at this
theorem ex_fullC {w : World} {D I M V : Value} (h : Sch4 w D I M V exS) :
    Calls Try.prog 11 #[SchV D I M V] w fun e w' => e = .returned (.int .u32 3) ∧ Below w.heap.size w w' := by
  have := full_any w D I M V exS h ex_wf
  rwa [if_pos ex_check, ex_full] at this
theorem ex_checkC {w : World} {D I M V : Value} (h : Sch4 w D I M V exS) :
    Calls Try.prog 10 #[SchV D I M V] w fun e w' => e = .returned (.int .i64 0) ∧ Below w.heap.size w w' := by
  have := check_any w D I M V exS h ex_wf
  rwa [ex_check] at this
theorem ints_two {W : World} {x y : Int} {T : TypeId} {N : Nat} (hN : W.heap.size = N) : Ints .u32 (W.alloc (.cells #[.int .u32 x, .int .u32 y] T)) (.slice (some ⟨N, 0, none⟩) 2 2) [x, y] := by
  subst hN
  refine ⟨_, _, rfl, Nat.le_refl _, .inr ⟨W.heap.size, 0, rfl, by simp, fun i hi => ?_⟩⟩
  have h2 : i < 2 := hi
  rcases (by omega : i = 0 ∨ i = 1) with rfl | rfl
  · simp [go_sem]
  · simp [go_sem]
set_option maxHeartbeats 2000000 in
theorem awake_any (w : World) : Calls Try.prog 7 #[] w fun e w' => e = .returned (.bool true) ∧ Below w.heap.size w w' := by
  obtain ⟨W, hW⟩ : ∃ W, ((w.alloc (.cells #[.string ⟨#[97]⟩, .int .i64 2, .string ⟨#[98]⟩, .int .i64 3] 54)).alloc (.cells #[.int .u32 1] 27)).alloc (SchO (.slice (some ⟨w.heap.size, 0, none⟩) 2 2) (.slice none 0 0) (.slice none 0 0) (.slice (some ⟨w.heap.size + 1, 0, none⟩) 1 1)) = W := ⟨_, rfl⟩
  have hb1 := below_one w (.cells #[.string ⟨#[97]⟩, .int .i64 2, .string ⟨#[98]⟩, .int .i64 3] 54)
  have hd := ex_dims w w.heap.size 54 rfl
  have hz1 : (w.alloc (.cells #[.string ⟨#[97]⟩, .int .i64 2, .string ⟨#[98]⟩, .int .i64 3] 54)).heap.size = w.heap.size + 1 := by simp
  have hv := set_one (k := .u32) (w := w.alloc (.cells #[.string ⟨#[97]⟩, .int .i64 2, .string ⟨#[98]⟩, .int .i64 3] 54)) (x := 1) (T := 27) hz1
  have hb2 := below_one (w.alloc (.cells #[.string ⟨#[97]⟩, .int .i64 2, .string ⟨#[98]⟩, .int .i64 3] 54)) (.cells #[.int .u32 1] 27)
  have hb3 := below_one ((w.alloc (.cells #[.string ⟨#[97]⟩, .int .i64 2, .string ⟨#[98]⟩, .int .i64 3] 54)).alloc (.cells #[.int .u32 1] 27)) (SchO (.slice (some ⟨w.heap.size, 0, none⟩) 2 2) (.slice none 0 0) (.slice none 0 0) (.slice (some ⟨w.heap.size + 1, 0, none⟩) 1 1))
  have hx := box_new ((w.alloc (.cells #[.string ⟨#[97]⟩, .int .i64 2, .string ⟨#[98]⟩, .int .i64 3] 54)).alloc (.cells #[.int .u32 1] 27)) (.slice (some ⟨w.heap.size, 0, none⟩) 2 2) (.slice none 0 0) (.slice none 0 0) (.slice (some ⟨w.heap.size + 1, 0, none⟩) 1 1)
  have hz2 : ((w.alloc (.cells #[.string ⟨#[97]⟩, .int .i64 2, .string ⟨#[98]⟩, .int .i64 3] 54)).alloc (.cells #[.int .u32 1] 27)).heap.size = w.heap.size + 1 + 1 := by simp
  rw [hz2] at hx
  rw [hW] at hb3 hx
  have HB0 := Lib.hid (below_then hb1 (below_then hb2 hb3))
  have HX := Lib.hid hx
  have HS := Lib.hid (show Sch4 W (.slice (some ⟨w.heap.size, 0, none⟩) 2 2) (.slice none 0 0) (.slice none 0 0) (.slice (some ⟨w.heap.size + 1, 0, none⟩) 1 1) exS from
    ⟨(hd.below hb2).below hb3, ⟨none, 0, rfl, by simp [exS], by simp [exS], .inl rfl⟩, ⟨none, 0, rfl, by simp [exS], by simp [exS], .inl rfl⟩, hv.below hb3⟩)
  obtain ⟨x0, x1, x2, x3⟩ := hx.reads
  clear hb1 hd hz1 hv hb2 hb3 hx hz2
  go_enter Try.func7, Try.ntmps7
  go_wp2_with fail
  refine (ex_k HS.out 3 6 (by decide) (by decide) ex_keys3).mono ?_; rintro e w1 ⟨rfl, hb⟩
  have HB1 := Lib.hid hb
  obtain ⟨y0, y1, y2, y3⟩ := quad_hold hb ⟨x0, x1, x2, x3⟩
  clear x0 x1 x2 x3 hb hW
  go_wp2_with fail
  refine (ex_k (HS.out.below HB1.out) 1 2 (by decide) (by decide) ex_keys1).mono ?_; rintro e w2 ⟨rfl, hb⟩
  have HB2 := Lib.hid (below_then HB1.out hb)
  obtain ⟨x0, x1, x2, x3⟩ := quad_hold hb ⟨y0, y1, y2, y3⟩
  clear y0 y1 y2 y3 hb HB1
  go_wp2_with fail
  refine (ex_checkC (HS.out.below HB2.out)).mono ?_; rintro e w3 ⟨rfl, hb⟩
  have HB3 := Lib.hid (below_then HB2.out hb)
  obtain ⟨y0, y1, y2, y3⟩ := quad_hold hb ⟨x0, x1, x2, x3⟩
  clear x0 x1 x2 x3 hb HB2
  go_wp2_with fail
  refine (ex_fullC (HS.out.below HB3.out)).mono ?_; rintro e w4 ⟨rfl, hb⟩
  have HB4 := Lib.hid (below_then HB3.out hb)
  obtain ⟨x0, x1, x2, x3⟩ := quad_hold hb ⟨y0, y1, y2, y3⟩
  clear y0 y1 y2 y3 hb HB3
  go_wp2_with fail
  refine (ex_views (HS.out.below HB4.out)).mono ?_; rintro e w5 ⟨⟨v, rfl, hv⟩, hb⟩
  have HB5 := Lib.hid (below_then HB4.out hb)
  have HV := Lib.hid hv
  obtain ⟨pa, pc, rfl, -, -⟩ := hv
  clear hb HB4 x0 x1 x2 x3
  go_wp2_with fail
  refine (masks_any _ _ [3, 1] _ (HV.out.below (below_one _ _)) (ints_two rfl) (by decide)).mono ?_; rintro e w6 ⟨rfl, hd⟩
  have HB6 := Lib.hid (below_then HB0.out (below_then HB5.out (below_then (below_one _ _) hd.below)))
  clear hd HB5
  go_wp2_with fail
  go_ret
  exact ⟨rfl, HB6.out⟩
end Go.Proofs.Ytdlebcjkokabjaa
