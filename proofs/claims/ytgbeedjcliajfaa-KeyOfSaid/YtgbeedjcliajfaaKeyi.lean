/- Layer 13: the reference's Down; the chapter's example. -/
import Derived.Test.YtgbeedjcliajfaaKeyh
namespace Go.Proofs.Ytgbeedjcliajfaa
set_option maxRecDepth 100000
open Go.RowKit
set_option linter.unusedVariables false
set_option maxHeartbeats 4000000 in
theorem rdown_any (w : World) (D I M V : Value) (S : Sc) (a b q : Int) (h : Sch4 w D I M V S) (hn : S.ds.length ≤ 31) (hz : sizB S.ds = true) (hs : ∀ k, bitG b k = true → bitG a k = true) (a0 : 0 ≤ a) (a1 : a ≤ 4294967295) (b0 : 0 ≤ b) (b1 : b ≤ 4294967295) (q0 : 0 ≤ q) (q1 : q ≤ 18446744073709551615) :
    Calls Try.prog 20 #[SchV D I M V, .int .u32 a, .int .u32 b, .int .u64 q] w fun e w' => e = .returned (.int .u64 (downG (dz S.ds) (bitG a) (bitG b) S.ds.length q)) ∧ Below w.heap.size w w' := by
  have HB0 := Lib.hid (below_one w (SchO D I M V))
  have HX := Lib.hid (box_new w D I M V)
  have HC := Lib.hid (fun w1 (hb : Below w.heap.size w w1) => rcodes_any w1 D I M V S a q (h.below hb) hn hz a0 a1 q0 q1)
  have HO := Lib.hid (fun w1 (hb : Below w.heap.size w w1) u (hu : Ints .i64 w1 u (codesL S.ds a q)) => rof_any w1 D I M V u S b (codesL S.ds a q) (h.below hb) hu hn (codes_len _ _ _) hz (codes_in hz hs) b0 b1)
  rw [← codes_key]
  obtain ⟨⟨p, c, rfl⟩, ⟨p2, c2, rfl⟩, ⟨p3, c3, rfl⟩, p4, c4, rfl⟩ := h.slices
  generalize keyG (dz S.ds) (cz (codesL S.ds a q)) (bitG b) S.ds.length = r at *
  generalize codesL S.ds a q = l at *
  clear h hz hs
  go_enter Try.func20, Try.ntmps20
  go_upto_region 1 with fail
  generalize w.alloc (SchO (.slice p S.ds.length c) (.slice p2 S.is.length c2) (.slice p3 S.ns.length c3) (.slice p4 S.vs.length c4)) = W at *
  have hBw : Below w.heap.size w W.drew := HB0.out.drew
  have hk : W.drew.cell? ⟨w.heap.size, 0, none⟩ = some (.slice p S.ds.length c) ∧ W.drew.cell? ⟨w.heap.size, 1, none⟩ = some (.slice p2 S.is.length c2) ∧ W.drew.cell? ⟨w.heap.size, 2, none⟩ = some (.slice p3 S.ns.length c3) ∧ W.drew.cell? ⟨w.heap.size, 3, none⟩ = some (.slice p4 S.vs.length c4) := HX.out.reads
  go_region_held3 (fun w' => w'.cell? ⟨w.heap.size, 0, none⟩ = some (.slice p S.ds.length c) ∧ w'.cell? ⟨w.heap.size, 1, none⟩ = some (.slice p2 S.is.length c2) ∧ w'.cell? ⟨w.heap.size, 2, none⟩ = some (.slice p3 S.ns.length c3) ∧ w'.cell? ⟨w.heap.size, 3, none⟩ = some (.slice p4 S.vs.length c4)) (with_reducible exact hk)
    (first
      | (go_at_call 19; refine (HC.out _ hBw).mono ?_; rintro r w4 ⟨⟨v, rfl, hv⟩, hb2⟩; have hV := Ints.own hv; obtain ⟨pa, pc, rfl, -, -⟩ := id hV; have hk := quad_hold hb2 hk; have hBw := below_then hBw hb2; clear hb2 hv)
      | (go_at_call 15; refine (HO.out _ hBw _ hV).mono ?_; rintro r w5 ⟨rfl, hb2⟩; have hk := quad_hold hb2 hk; have hBw := below_then hBw hb2; clear hb2))
  have HB7 := Lib.hid hBw
  clear hBw hV hk
  go_wp2_with fail
  go_ret
  exact ⟨rfl, HB7.out⟩
def keyS : Sc := ⟨[(⟨#[97]⟩, 2), (⟨#[98]⟩, 3), (⟨#[99]⟩, 4)], [], [], []⟩
theorem ks_check : checkL keyS = 0 := by decide +kernel
theorem ks_wf : SWf keyS := by
  refine ⟨?_, ?_, ?_, ?_⟩
  · intro d h
    simp only [keyS, List.mem_cons, List.not_mem_nil, or_false] at h
    rcases h with rfl | rfl | rfl <;> decide
  · intro s h; simp [keyS] at h
  · intro s h; simp [keyS] at h
  · intro v h; simp [keyS] at h
theorem ks_num7 : numE keyS 7 = 0 := by unfold numE; rw [if_pos ks_check, if_pos (by decide)]
theorem ks_num5 : numE keyS 5 = 0 := by unfold numE; rw [if_pos ks_check, if_pos (by decide)]
theorem ks_of7 : ofE keyS 7 [1, 2, 3] = 0 := by unfold ofE; rw [if_pos ks_num7, if_pos (by decide), if_pos (by decide)]
theorem ks_of5 : ofE keyS 5 [1, 2, 3] = 0 := by unfold ofE; rw [if_pos ks_num5, if_pos (by decide), if_pos (by decide)]
theorem ks_key7 : ofL keyS 7 [1, 2, 3] = 23 := by unfold ofL; rw [if_pos ks_of7]; decide
theorem ks_key5 : ofL keyS 5 [1, 2, 3] = 7 := by unfold ofL; rw [if_pos ks_of5]; decide
theorem ks_cod : codE keyS 7 23 = 0 := by unfold codE; rw [if_pos ks_num7, if_neg (by decide)]
theorem ks_code : codeL keyS 7 23 1 = 2 := by unfold codeL; rw [if_pos ⟨ks_cod, by decide, by decide⟩]; decide
theorem ks_dims (w : World) (N : Nat) (T : TypeId) (hN : w.heap.size = N) : Dims (w.alloc (.cells #[.string ⟨#[97]⟩, .int .i64 2, .string ⟨#[98]⟩, .int .i64 3, .string ⟨#[99]⟩, .int .i64 4] T)) (.slice (some ⟨N, 0, none⟩) 3 3) keyS.ds := by
  subst hN
  refine ⟨_, _, rfl, by simp [keyS], by simp [keyS], .inr ⟨w.heap.size, 0, rfl, by simp, fun i hi => ?_⟩⟩
  have h2 : i < 3 := hi
  rcases (by omega : i = 0 ∨ i = 1 ∨ i = 2) with rfl | rfl | rfl
  · exact ⟨by simp [go_sem, dn, keyS], by simp [go_sem, dz, keyS]⟩
  · exact ⟨by simp [go_sem, dn, keyS], by simp [go_sem, dz, keyS]⟩
  · exact ⟨by simp [go_sem, dn, keyS], by simp [go_sem, dz, keyS]⟩
theorem ints_123 {W : World} {T : TypeId} {N : Nat} (hN : W.heap.size = N) : Ints .i64 (W.alloc (.cells #[.int .i64 1, .int .i64 2, .int .i64 3] T)) (.slice (some ⟨N, 0, none⟩) 3 3) [1, 2, 3] := by
  subst hN
  refine ⟨_, _, rfl, Nat.le_refl _, .inr ⟨W.heap.size, 0, rfl, by simp, fun i hi => ?_⟩⟩
  have h2 : i < 3 := hi
  rcases (by omega : i = 0 ∨ i = 1 ∨ i = 2) with rfl | rfl | rfl
  · simp [go_sem]
  · simp [go_sem]
  · simp [go_sem]
theorem ks_o7 {w : World} {D I M V u : Value} (h : Sch4 w D I M V keyS) (hu : Ints .i64 w u [1, 2, 3]) :
    Calls Try.prog 9 #[SchV D I M V, .int .u32 7, u] w fun e w' => e = .returned (.tuple #[.int .u64 23, .int .i64 0]) ∧ Below w.heap.size w w' := by
  have := of_any w D I M V u keyS 7 [1, 2, 3] h ks_wf hu (by decide) (by decide)
  rwa [ks_of7, ks_key7] at this
theorem ks_o5 {w : World} {D I M V u : Value} (h : Sch4 w D I M V keyS) (hu : Ints .i64 w u [1, 2, 3]) :
    Calls Try.prog 9 #[SchV D I M V, .int .u32 5, u] w fun e w' => e = .returned (.tuple #[.int .u64 7, .int .i64 0]) ∧ Below w.heap.size w w' := by
  have := of_any w D I M V u keyS 5 [1, 2, 3] h ks_wf hu (by decide) (by decide)
  rwa [ks_of5, ks_key5] at this
theorem ks_c {w : World} {D I M V : Value} (h : Sch4 w D I M V keyS) :
    Calls Try.prog 16 #[SchV D I M V, .int .u32 7, .int .u64 23, .int .i64 1] w fun e w' => e = .returned (.int .i64 2) ∧ Below w.heap.size w w' := by
  have := code_any w D I M V keyS 7 23 1 h ks_wf (by decide) (by decide) (by decide) (by decide)
  rwa [ks_code] at this
set_option maxHeartbeats 2000000 in
theorem awake13_any (w : World) : Calls Try.prog 8 #[] w fun e w' => e = .returned (.bool true) ∧ Below w.heap.size w w' := by
  obtain ⟨W, hW⟩ : ∃ W, (w.alloc (.cells #[.string ⟨#[97]⟩, .int .i64 2, .string ⟨#[98]⟩, .int .i64 3, .string ⟨#[99]⟩, .int .i64 4] 40)).alloc (SchO (.slice (some ⟨w.heap.size, 0, none⟩) 3 3) (.slice none 0 0) (.slice none 0 0) (.slice none 0 0)) = W := ⟨_, rfl⟩
  have hb1 := below_one w (.cells #[.string ⟨#[97]⟩, .int .i64 2, .string ⟨#[98]⟩, .int .i64 3, .string ⟨#[99]⟩, .int .i64 4] 40)
  have hd := ks_dims w w.heap.size 40 rfl
  have hb2 := below_one (w.alloc (.cells #[.string ⟨#[97]⟩, .int .i64 2, .string ⟨#[98]⟩, .int .i64 3, .string ⟨#[99]⟩, .int .i64 4] 40)) (SchO (.slice (some ⟨w.heap.size, 0, none⟩) 3 3) (.slice none 0 0) (.slice none 0 0) (.slice none 0 0))
  have hx := box_new (w.alloc (.cells #[.string ⟨#[97]⟩, .int .i64 2, .string ⟨#[98]⟩, .int .i64 3, .string ⟨#[99]⟩, .int .i64 4] 40)) (.slice (some ⟨w.heap.size, 0, none⟩) 3 3) (.slice none 0 0) (.slice none 0 0) (.slice none 0 0)
  have hz1 : (w.alloc (.cells #[.string ⟨#[97]⟩, .int .i64 2, .string ⟨#[98]⟩, .int .i64 3, .string ⟨#[99]⟩, .int .i64 4] 40)).heap.size = w.heap.size + 1 := by simp
  rw [hz1] at hx
  rw [hW] at hb2 hx
  have HB0 := Lib.hid (below_then hb1 hb2)
  have HX := Lib.hid hx
  have HS := Lib.hid (show Sch4 W (.slice (some ⟨w.heap.size, 0, none⟩) 3 3) (.slice none 0 0) (.slice none 0 0) (.slice none 0 0) keyS from
    ⟨hd.below hb2, ⟨none, 0, rfl, by simp [keyS], by simp [keyS], .inl rfl⟩, ⟨none, 0, rfl, by simp [keyS], by simp [keyS], .inl rfl⟩, ⟨none, 0, rfl, by simp [keyS], .inl rfl⟩⟩)
  obtain ⟨x0, x1, x2, x3⟩ := hx.reads
  have HW := Lib.hid hW
  clear hb1 hd hz1 hb2 hx hW
  go_enter Try.func8, Try.ntmps8
  go_upto_region 2 with fail
  rw [HW.out]
  go_wp2_with fail
  refine (ks_o7 (HS.out.below (below_one _ _)) (ints_123 rfl)).mono ?_; rintro e w1 ⟨rfl, hb⟩
  have HB1 := Lib.hid (below_then (below_one _ _) hb)
  obtain ⟨y0, y1, y2, y3⟩ := quad_hold HB1.out ⟨x0, x1, x2, x3⟩
  clear x0 x1 x2 x3 hb HW
  go_wp2_with fail
  refine (ks_o5 ((HS.out.below HB1.out).below (below_one _ _)) (ints_123 rfl)).mono ?_; rintro e w2 ⟨rfl, hb⟩
  have HB2 := Lib.hid (below_then HB1.out (below_then (below_one _ _) hb))
  obtain ⟨x0, x1, x2, x3⟩ := quad_hold (below_then (below_one _ _) hb) ⟨y0, y1, y2, y3⟩
  clear y0 y1 y2 y3 hb HB1
  go_wp2_with fail
  refine (ks_c (HS.out.below HB2.out)).mono ?_; rintro e w3 ⟨rfl, hb⟩
  have HB3 := Lib.hid (below_then HB0.out (below_then HB2.out hb))
  clear hb HB2 x0 x1 x2 x3
  go_wp2_with fail
  go_ret
  exact ⟨rfl, HB3.out⟩
end Go.Proofs.Ytgbeedjcliajfaa
