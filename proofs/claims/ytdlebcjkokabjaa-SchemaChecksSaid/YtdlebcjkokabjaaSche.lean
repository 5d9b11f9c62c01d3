/- Layer 11: the program's Check, Full, Keys, Views. -/
import Derived.Test.YtdlebcjkokabjaaSchd
import Derived.Deep.RegionHeld3
namespace Go.Proofs.Ytdlebcjkokabjaa
set_option maxRecDepth 100000
open Go.RowKit
set_option linter.unusedVariables false
theorem names_len {S : Sc} (h : cntB S = true) : S.ds.length ≤ 6 ∧ 1 ≤ S.ds.length ∧ (namesL S).length ≤ 11 := by
  have := cnt_iff.1 h
  refine ⟨by omega, by omega, ?_⟩
  unfold namesL
  simp
  omega
theorem names_max {S : Sc} (h : SWf S) : ∀ s ∈ namesL S, s.size ≤ maxLen := by
  intro s hs
  unfold namesL at hs
  rcases List.mem_append.1 hs with hs | hs
  · rcases List.mem_append.1 hs with hs | hs
    · obtain ⟨d, hd, rfl⟩ := List.mem_map.1 hs
      exact (h.d d hd).1
    · exact h.i s hs
  · exact h.n s hs
theorem rows_three {W : World} {A B C : Value} {a b c : List ByteArray} {T : TypeId} {N : Nat} (hN : W.heap.size = N) (hA : Strs W A a) (hB : Strs W B b) (hC : Strs W C c) :
    RowsOf Strs (W.alloc (.cells #[A, B, C] T)) (.slice (some ⟨N, 0, none⟩) 3 3) [a, b, c] := by
  subst hN
  have hb := below_one W (.cells #[A, B, C] T)
  refine ⟨_, rfl, by simp, fun k hk => ?_⟩
  have hk3 : k < 3 := hk
  rcases (by omega : k = 0 ∨ k = 1 ∨ k = 2) with rfl | rfl | rfl
  · exact ⟨A, by simp [go_sem], hA.below hb⟩
  · exact ⟨B, by simp [go_sem], hB.below hb⟩
  · exact ⟨C, by simp [go_sem], hC.below hb⟩
theorem quad_hold {w w' : World} (hb : Below w.heap.size w w') {p0 p1 p2 p3 : Addr} {a0 a1 a2 a3 : Value}
    (h : w.cell? p0 = some a0 ∧ w.cell? p1 = some a1 ∧ w.cell? p2 = some a2 ∧ w.cell? p3 = some a3) :
    w'.cell? p0 = some a0 ∧ w'.cell? p1 = some a1 ∧ w'.cell? p2 = some a2 ∧ w'.cell? p3 = some a3 :=
  ⟨cell_hold hb h.1, cell_hold hb h.2.1, cell_hold hb h.2.2.1, cell_hold hb h.2.2.2⟩
theorem names_flat (S : Sc) : [S.ds.map Prod.fst, S.is, S.ns].flatten = namesL S := by simp [namesL]
theorem ret_i {a b : Int} (h : a = b) : Ending.returned (.int .i64 a) = Ending.returned (.int .i64 b) := by rw [h]
set_option maxHeartbeats 4000000 in
theorem check_any (w : World) (D I M V : Value) (S : Sc) (h : Sch4 w D I M V S) (hw : SWf S) :
    Calls Try.prog 10 #[SchV D I M V] w fun e w' => e = .returned (.int .i64 (checkL S)) ∧ Below w.heap.size w w' := by
  have HW := Lib.hid hw
  have HB0 := Lib.hid (below_one w (SchO D I M V))
  have HX0 := Lib.hid (box_new w D I M V)
  have HS0 := Lib.hid (h.below HB0.out)
  have HN := Lib.hid (fun w1 (hb : Below w.heap.size w w1) => numbers_any w1 D I M V S (h.below hb))
  have HE := Lib.hid (show checkL S = if cntB S = false then 3 else if goodN (namesL S) = false then 8 else if 0 ≤ twiceL (namesL S) then 9 else if sizB S.ds = false then 2 else if vieB (fullL S.ds) S.vs = false then 6 else 0 from rfl)
  have HH := Lib.hid h
  obtain ⟨⟨a, c, rfl⟩, ⟨a2, c2, rfl⟩, ⟨a3, c3, rfl⟩, a4, c4, rfl⟩ := h.slices
  clear h hw
  go_enter Try.func10, Try.ntmps10
  go_wp2_with fail
  refine (HN.out _ HB0.out).mono ?_; rintro e w1 ⟨rfl, hb⟩
  have HB1 := Lib.hid (below_then HB0.out hb)
  have hx1 := HX0.out.below hb
  obtain ⟨x0, x1, x2, x3⟩ := hx1.reads
  have HX1 := Lib.hid hx1
  clear hb hx1
  cases hc : cntB S with
  | false =>
    rw [hc] at HE
    go_wp2
    go_ret
    exact ⟨by rw [HE.out]; rfl, HB1.out⟩
  | true =>
    have hnl := names_len hc
    go_upto_region 3 with fail
    have HDn := Lib.hid (fun w' (hb : Below w.heap.size w w') => dimNames_any w' _ _ _ _ S (HH.out.below hb) (by omega))
    have HCc := Lib.hid (fun w' v h => names_flat S ▸ concatS_any w' v [S.ds.map Prod.fst, S.is, S.ns] h (by rw [names_flat]; omega) (by simp))
    have hk : w1.drew.cell? ⟨w.heap.size, 0, none⟩ = some (.slice a S.ds.length c) ∧ w1.drew.cell? ⟨w.heap.size, 1, none⟩ = some (.slice a2 S.is.length c2) ∧ w1.drew.cell? ⟨w.heap.size, 2, none⟩ = some (.slice a3 S.ns.length c3) ∧ w1.drew.cell? ⟨w.heap.size, 3, none⟩ = some (.slice a4 S.vs.length c4) := ⟨by simp [x0], by simp [x1], by simp [x2], by simp [x3]⟩
    have hBw : Below w.heap.size w w1.drew := HB1.out.drew
    go_region_held3 (fun w' => w'.cell? ⟨w.heap.size, 0, none⟩ = some (.slice a S.ds.length c) ∧ w'.cell? ⟨w.heap.size, 1, none⟩ = some (.slice a2 S.is.length c2) ∧ w'.cell? ⟨w.heap.size, 2, none⟩ = some (.slice a3 S.ns.length c3) ∧ w'.cell? ⟨w.heap.size, 3, none⟩ = some (.slice a4 S.vs.length c4)) ((first | (with_reducible exact hk) | exact quad_hold (below_one _ _) hk))
      (first
        | (go_at_call 30; refine (HDn.out _ hBw).mono ?_; rintro r w2 ⟨⟨v2, rfl, hv2⟩, hb2⟩; have HV2 := Lib.hid hv2; obtain ⟨pa, pl, pc, rfl⟩ := own_slice3 hv2; have hk := quad_hold hb2 hk; have hBw := below_then hBw hb2; clear hb2)
        | (go_at_call 29; refine (HCc.out _ _ (rows_three rfl (Strs.own HV2.out) (HH.out.i.below hBw) (HH.out.n.below hBw))).mono ?_; rintro r w3 ⟨⟨v3, rfl, hv3⟩, hb3⟩; have HV3 := Lib.hid hv3; obtain ⟨pa3, pl3, pc3, rfl⟩ := own_slice3 hv3; have hk := quad_hold hb3 (quad_hold (below_one _ _) hk); have hBw := below_then (below_then hBw (below_one _ _)) hb3; clear hb3))
    have HS3 := Lib.hid (Strs.own HV3.out)
    have HB3 := Lib.hid hBw
    obtain ⟨y0, y1, y2, y3⟩ := hk
    have HA := Lib.hid (fun w' (hb : Below w.heap.size w w') (hs : Strs w' (.slice pa3 pl3 pc3) (namesL S)) => areNames_any _ (namesL S) w' hs (names_max HW.out))
    have HT := Lib.hid (fun w' (hs : Strs w' (.slice pa3 pl3 pc3) (namesL S)) => twice_any _ (namesL S) w' hs (by omega) (names_max HW.out))
    have HZ := Lib.hid (fun w' (hb : Below w.heap.size w w') => sizes_any w' _ S.ds (HH.out.d.below hb) (fun d hd => (HW.out.d d hd).2))
    have HY := Lib.hid (fun w' (hb : Below w.heap.size w w') => viewsHold_any w' _ S.vs S.ds.length (HH.out.v.below hb) hnl.1 HW.out.v (by have := cnt_iff.1 hc; omega))
    have HYe := Lib.hid (show (2 : Int) ^ S.ds.length - 1 = fullL S.ds from rfl)
    rw [HYe.out] at HY
    have HBa := Lib.hid (fun w' (hb : Below w.heap.size w w') => base_any w' _ _ _ _ S (HH.out.below hb) hnl.1)
    clear HV2 HV3 HDn HCc hBw
    rw [hc] at HE
    generalize goodN (namesL S) = g at *
    generalize twiceL (namesL S) = tw at *
    generalize sizB S.ds = sz at *
    generalize fullL S.ds = fu at *
    generalize vieB fu S.vs = vi at *
    go_wp2_with fail
    refine (HA.out _ HB3.out HS3.out).mono ?_; rintro e w4 ⟨rfl, hb⟩
    have HB4 := Lib.hid (below_then HB3.out hb)
    have HS4 := Lib.hid (HS3.out.below hb)
    obtain ⟨z0, z1, z2, z3⟩ := quad_hold hb ⟨y0, y1, y2, y3⟩
    clear y0 y1 y2 y3 hb HS3 HA
    cases g with
    | false =>
      go_wp2
      go_ret
      exact ⟨by rw [HE.out]; rfl, HB4.out⟩
    | true =>
      go_wp2_with fail
      refine (HT.out _ HS4.out).mono ?_; rintro e w5 ⟨rfl, hb⟩
      have HB5 := Lib.hid (below_then HB4.out hb)
      obtain ⟨y0, y1, y2, y3⟩ := quad_hold hb ⟨z0, z1, z2, z3⟩
      clear z0 z1 z2 z3 hb HS4 HT
      by_cases ht : 0 ≤ tw
      · go_wp2
        go_ret
        exact ⟨by rw [HE.out, if_neg (by decide), if_neg (by decide), if_pos ht]; rfl, HB5.out⟩
      · have HE2 := Lib.hid (show checkL S = if sz = false then 2 else if vi = false then 6 else 0 by rw [HE.out, if_neg (by decide), if_neg (by decide), if_neg ht])
        go_wp2_with fail
        refine (HZ.out _ HB5.out).mono ?_; rintro e w6 ⟨rfl, hb⟩
        have HB6 := Lib.hid (below_then HB5.out hb)
        obtain ⟨z0, z1, z2, z3⟩ := quad_hold hb ⟨y0, y1, y2, y3⟩
        clear y0 y1 y2 y3 hb HZ HE
        cases sz with
        | false =>
          go_wp2
          go_ret
          exact ⟨by rw [HE2.out]; rfl, HB6.out⟩
        | true =>
          go_upto_region 10 with fail
          have hk : w6.drew.cell? ⟨w.heap.size, 0, none⟩ = some (.slice a S.ds.length c) ∧ w6.drew.cell? ⟨w.heap.size, 1, none⟩ = some (.slice a2 S.is.length c2) ∧ w6.drew.cell? ⟨w.heap.size, 2, none⟩ = some (.slice a3 S.ns.length c3) ∧ w6.drew.cell? ⟨w.heap.size, 3, none⟩ = some (.slice a4 S.vs.length c4) := ⟨by simp [z0], by simp [z1], by simp [z2], by simp [z3]⟩
          have hBw : Below w.heap.size w w6.drew := HB6.out.drew
          go_region_held3 (fun w' => w'.cell? ⟨w.heap.size, 0, none⟩ = some (.slice a S.ds.length c) ∧ w'.cell? ⟨w.heap.size, 1, none⟩ = some (.slice a2 S.is.length c2) ∧ w'.cell? ⟨w.heap.size, 2, none⟩ = some (.slice a3 S.ns.length c3) ∧ w'.cell? ⟨w.heap.size, 3, none⟩ = some (.slice a4 S.vs.length c4)) (with_reducible exact hk)
            (first
              | (go_at_call 24; refine (HBa.out _ hBw).mono ?_; rintro r w7 ⟨rfl, hb2⟩; have hk := quad_hold hb2 hk; have hBw := below_then hBw hb2; clear hb2)
              | (go_at_call 34; refine (HY.out _ hBw).mono ?_; rintro r w8 ⟨rfl, rfl⟩))
          have HB7 := Lib.hid hBw
          cases vi with
          | false =>
            go_wp2
            go_ret
            exact ⟨by rw [HE2.out]; rfl, HB7.out⟩
          | true =>
            go_wp2
            go_ret
            exact ⟨by rw [HE2.out]; rfl, HB7.out⟩
end Go.Proofs.Ytdlebcjkokabjaa
