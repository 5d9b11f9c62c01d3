/- FactPuts: for any schema and any facts the statement's function returns true and changes nothing that was there. No condition. -/
import Derived.Test.YtdnbjaeeebodkaaFaci
import Derived.Test.YtdnbjaeeebodkaaFacm
import Derived.Test.YtdnbjaeeebodkaaFaco
import Derived.Test.YtdnbjaeeebodkaaFacs
import Derived.ProofKit
import Derived.Deep.RegionHeld3
import Derived.Deep.RegionLaw
namespace Go.Proofs.Ytdnbjaeeebodkaa.factPuts
set_option maxRecDepth 100000
open Go.ChangeShapes Go.WideShapes Go.ChangeAt Go.RowKit
set_option linter.unusedVariables false
theorem own : ownKnob Try.prog.godebug = none := by kernel_rfl
theorem laidOut : laidOutB Try.prog = true := by kernel_rfl
set_option maxHeartbeats 8000000 in
theorem walk_no (D I M V : Value) (S : Sc) (v : Value) (l : List Fa) (w : World) (h : Sch4 w D I M V S) (hw : SWf S) (hv : Facts w v l) (hf : ∀ f ∈ l, FaWf f) (hc : (batchL S l).2 ≠ 0) :
    Calls Try.prog 4 #[SchV D I M V, v] w fun e w' => e = .returned (.bool true) ∧ Below w.heap.size w w' := by
  have HA := Lib.hid (fun w => fawake_any w)
  have HB0 := Lib.hid (below_one w (SchO D I M V))
  have HX := Lib.hid (box_new w D I M V)
  have HL := Lib.hid (fun w1 (hb : Below w.heap.size w w1) => slight_any w1 D I M V S (h.below hb))
  have HFL := Lib.hid (fun w1 (hb : Below w.heap.size w w1) => flight_any w1 v l (hv.below hb))
  have HP := Lib.hid (fun w1 (hb : Below w.heap.size w w1) => fput_no w1 D I M V v S l (h.below hb) hw (hv.below hb) hf hc)
  have HR := Lib.hid (fun w1 (hb : Below w.heap.size w w1) => rbatch_any w1 D I M V v S l (h.below hb) hw (hv.below hb) hf)
  obtain ⟨⟨a, c, rfl⟩, ⟨a2, c2, rfl⟩, ⟨a3, c3, rfl⟩, a4, c4, rfl⟩ := h.slices
  obtain ⟨b0, cap, rfl⟩ := facts_slice hv
  unfold PairL at HR
  have hc2 : (((batchL S l).2 : Int) != 0) = true := by simp; omega
  have hc3 : (((batchL S l).2 : Int) == ((batchL S l).2 : Int)) = true := by simp
  generalize ((batchL S l).2 : Int) = ck at *
  generalize ((batchL S l).1 : Int) = ca at *
  clear h hw hv hf hc
  go_enter Try.func4, Try.ntmps4
  go_wp2_with fail
  refine (HL.out _ HB0.out).mono ?_; rintro e w1 ⟨⟨bl, rfl⟩, hb⟩
  have HB1 := Lib.hid (below_then HB0.out hb)
  have HX1 := Lib.hid (HX.out.below hb)
  clear hb
  cases bl with
  | false =>
    go_wp2_with fail
    refine (HA.out _).mono ?_; rintro e w2 ⟨rfl, hb⟩
    have HB2 := Lib.hid (below_then HB1.out hb)
    clear hb
    go_wp2_with fail
    go_ret
    exact ⟨rfl, HB2.out⟩
  | true =>
    by_cases hm : (250 : Int) < (l.length : Int)
    · have hm1 : decide ((250 : Int) < (l.length : Int)) = true := decide_eq_true hm
      clear hm
      go_wp2_with fail
      refine (HA.out _).mono ?_; rintro e w2 ⟨rfl, hb⟩
      have HB2 := Lib.hid (below_then HB1.out hb)
      clear hb
      go_wp2_with fail
      go_ret
      exact ⟨rfl, HB2.out⟩
    · have hm1 : decide ((250 : Int) < (l.length : Int)) = false := decide_eq_false hm
      clear hm
      go_wp2_with fail
      refine (HFL.out _ HB1.out).mono ?_; rintro e w2 ⟨⟨bl, rfl⟩, hb⟩
      obtain rfl := hb
      cases bl with
      | false =>
        go_wp2_with fail
        refine (HA.out _).mono ?_; rintro e w2 ⟨rfl, hb⟩
        have HB2 := Lib.hid (below_then HB1.out hb)
        clear hb
        go_wp2_with fail
        go_ret
        exact ⟨rfl, HB2.out⟩
      | true =>
        obtain ⟨x0, x1, x2, x3⟩ := HX1.out.reads
        go_wp2_with fail
        refine (HP.out _ HB1.out).mono ?_; rintro e w2 ⟨rfl, hb⟩
        have HB2 := Lib.hid (below_then HB1.out hb)
        have HX2 := Lib.hid (HX1.out.below hb)
        clear hb x0 x1 x2 x3
        obtain ⟨x0, x1, x2, x3⟩ := HX2.out.reads
        go_wp2_with fail
        refine (HR.out _ HB2.out).mono ?_; rintro e w3 ⟨rfl, hb⟩
        have HB3 := Lib.hid (below_then HB2.out hb)
        clear hb x0 x1 x2 x3
        go_wp2_with fail
        refine (HA.out _).mono ?_; rintro e w4 ⟨rfl, hb⟩
        have HB4 := Lib.hid (below_then HB3.out hb)
        clear hb
        go_wp2_with fail
        go_ret
        exact ⟨rfl, HB4.out⟩
set_option maxHeartbeats 16000000 in
theorem walk_yes (D I M V : Value) (S : Sc) (v : Value) (l : List Fa) (w : World) (h : Sch4 w D I M V S) (hw : SWf S) (hv : Facts w v l) (hf : ∀ f ∈ l, FaWf f) (hc : (batchL S l).2 = 0) :
    Calls Try.prog 4 #[SchV D I M V, v] w fun e w' => e = .returned (.bool true) ∧ Below w.heap.size w w' := by
  obtain ⟨hsm, hl2, hge, hgf, hsame, hnw⟩ := put_got hf hc
  obtain ⟨hbt, hln⟩ := encFs_bt hsm hl2
  have HA := Lib.hid (fun w => fawake_any w)
  have HB0 := Lib.hid (below_one w (SchO D I M V))
  have HX := Lib.hid (box_new w D I M V)
  have HL := Lib.hid (fun w1 (hb : Below w.heap.size w w1) => slight_any w1 D I M V S (h.below hb))
  have HFL := Lib.hid (fun w1 (hb : Below w.heap.size w w1) => flight_any w1 v l (hv.below hb))
  have HP := Lib.hid (fun w1 (hb : Below w.heap.size w w1) => fput_yes w1 D I M V v S l (h.below hb) hw (hv.below hb) hf hc)
  have HR := Lib.hid (fun w1 (hb : Below w.heap.size w w1) => rbatch_any w1 D I M V v S l (h.below hb) hw (hv.below hb) hf)
  have HQ := Lib.hid (fun w1 (hb : Below w.heap.size w w1) => rfput_any w1 v l (hv.below hb) hsm hl2)
  have HG := Lib.hid (fun w1 u (hb : Below w.heap.size w w1) (hu : Ints .u8 w1 u (encFs l)) => fget_any w1 D I M V u S (encFs l) (h.below hb) hw hu hbt hln)
  have HS := Lib.hid (fun w1 u (hb : Below w.heap.size w w1) (hu : Facts w1 u (l.map normF)) => rall_any w1 v u l (l.map normF) (hv.below hb) hu hf hnw)
  have HC := Lib.hid (fun w1 u (hu : Ints .u8 w1 u (encFs l)) => conv_ints hu hbt)
  unfold GotF at HG
  rw [hge, hgf] at HG
  unfold PairL at HR
  rw [hc] at HR
  rw [hsame] at HS
  unfold BytesP at HQ
  have hq : ((strB (encFs l)).toList == (strB (encFs l)).toList) = true := by simp
  obtain ⟨⟨a, c, rfl⟩, ⟨a2, c2, rfl⟩, ⟨a3, c3, rfl⟩, a4, c4, rfl⟩ := h.slices
  obtain ⟨b0, cap, rfl⟩ := facts_slice hv
  generalize ((batchL S l).1 : Int) = ca at *
  generalize strB (encFs l) = sb at *
  generalize encFs l = b at *
  generalize l.map normF = lm at *
  clear h hw hv hf hc hsm hl2 hge hgf hsame hnw hbt hln
  go_enter Try.func4, Try.ntmps4
  go_wp2_with fail
  refine (HL.out _ HB0.out).mono ?_; rintro e w1 ⟨⟨bl, rfl⟩, hb⟩
  have HB1 := Lib.hid (below_then HB0.out hb)
  have HX1 := Lib.hid (HX.out.below hb)
  clear hb
  cases bl with
  | false =>
    go_wp2_with fail
    refine (HA.out _).mono ?_; rintro e w2 ⟨rfl, hb⟩
    have HB2 := Lib.hid (below_then HB1.out hb)
    clear hb
    go_wp2_with fail
    go_ret
    exact ⟨rfl, HB2.out⟩
  | true =>
    by_cases hm : (250 : Int) < (l.length : Int)
    · have hm1 : decide ((250 : Int) < (l.length : Int)) = true := decide_eq_true hm
      clear hm
      go_wp2_with fail
      refine (HA.out _).mono ?_; rintro e w2 ⟨rfl, hb⟩
      have HB2 := Lib.hid (below_then HB1.out hb)
      clear hb
      go_wp2_with fail
      go_ret
      exact ⟨rfl, HB2.out⟩
    · have hm1 : decide ((250 : Int) < (l.length : Int)) = false := decide_eq_false hm
      clear hm
      go_wp2_with fail
      refine (HFL.out _ HB1.out).mono ?_; rintro e w2 ⟨⟨bl, rfl⟩, hb⟩
      obtain rfl := hb
      cases bl with
      | false =>
        go_wp2_with fail
        refine (HA.out _).mono ?_; rintro e w2 ⟨rfl, hb⟩
        have HB2 := Lib.hid (below_then HB1.out hb)
        clear hb
        go_wp2_with fail
        go_ret
        exact ⟨rfl, HB2.out⟩
      | true =>
        obtain ⟨x0, x1, x2, x3⟩ := HX1.out.reads
        go_wp2_with fail
        refine (HP.out _ HB1.out).mono ?_; rintro e w2 ⟨⟨u, rfl, ho⟩, hb⟩
        have HB2 := Lib.hid (below_then HB1.out hb)
        have HX2 := Lib.hid (HX1.out.below hb)
        have HO2 := Lib.hid ho
        obtain ⟨pa, pl, pc, rfl⟩ := own_slice3 ho
        clear hb ho x0 x1 x2 x3
        obtain ⟨x0, x1, x2, x3⟩ := HX2.out.reads
        go_wp2_with fail
        refine (HR.out _ HB2.out).mono ?_; rintro e w3 ⟨rfl, hb⟩
        have HB3 := Lib.hid (below_then HB2.out hb)
        have HX3 := Lib.hid (HX2.out.below hb)
        have HO3 := Lib.hid (own_stay HO2.out hb)
        clear hb x0 x1 x2 x3
        obtain ⟨x0, x1, x2, x3⟩ := HX3.out.reads
        go_wp2_with fail
        refine (HG.out _ _ HB3.out (Ints.own HO3.out)).mono ?_; rintro e w4 ⟨⟨m, rfl, hm⟩, hb⟩
        have HB4 := Lib.hid (below_then HB3.out hb)
        have HO4 := Lib.hid (own_stay HO3.out hb)
        have HM4 := Lib.hid hm
        obtain ⟨ma, mc, rfl⟩ := facts_slice hm
        clear hb hm x0 x1 x2 x3
        go_upto_region 8 with fail
        have hd := (Below.refl w4.heap.size w4).drew
        have HO5 := Lib.hid (own_stay HO4.out hd)
        have HM5 := Lib.hid (HM4.out.below hd)
        have hBw : Below w.heap.size w w4.drew := HB4.out.drew
        have hBd : Below w4.drew.heap.size w4.drew w4.drew := Below.refl _ _
        have hk := HC.out _ _ (Ints.own HO5.out)
        clear hd
        refine wp_region_held_drew (S := fun w' => (convert 46 9 (.slice pa pl pc)).run Try.prog w' = .ok (.string sb) w') (by kernel_rfl) hk (fun _ => ?_)
        refine wpAnyH_take (i := 0) (oi := { dst := some 56, op := _, type := _, pos := _, after := _, guard := _ }) (v := .int .i64 0) rfl (by kernel_rfl) (by kernel_rfl) (by kernel_rfl) (fun _ _ _ h => h) (Or.inl ⟨by kernel_rfl, fun w hSw => by (try dsimp only at hSw); first | (go_simp; done) | (go_simp; rfl)⟩) hk ?_
        try simp only [Act.put, List.setIfInBounds_toArray, List.set_cons_zero, List.set_cons_succ]
        refine wpAnyH_take (i := 1) (oi := { dst := some 57, op := _, type := _, pos := _, after := _, guard := _ }) (v := .bool true) rfl (by kernel_rfl) (by kernel_rfl) (by kernel_rfl) (fun _ _ _ h => h) (Or.inl ⟨by kernel_rfl, fun w hSw => by (try dsimp only at hSw); first | (go_simp; done) | (go_simp; rfl)⟩) hk ?_
        try simp only [Act.put, List.setIfInBounds_toArray, List.set_cons_zero, List.set_cons_succ]
        refine wpAnyH_take (i := 2) (oi := { dst := some 58, op := _, type := _, pos := _, after := _, guard := _ }) (v := .bool true) rfl (by kernel_rfl) (by kernel_rfl) (by kernel_rfl) (fun _ _ _ h => h) (Or.inl ⟨by kernel_rfl, fun w hSw => by (try dsimp only at hSw); first | (go_simp; done) | (go_simp; rfl)⟩) hk ?_
        try simp only [Act.put, List.setIfInBounds_toArray, List.set_cons_zero, List.set_cons_succ]
        refine wpAnyH_take (i := 3) (oi := { dst := some 59, op := _, type := _, pos := _, after := _, guard := _ }) (v := .slice pa pl pc) rfl (by kernel_rfl) (by kernel_rfl) (by kernel_rfl) (fun _ _ _ h => h) (Or.inl ⟨by kernel_rfl, fun w hSw => by (try dsimp only at hSw); first | (go_simp; done) | (go_simp; rfl)⟩) hk ?_
        try simp only [Act.put, List.setIfInBounds_toArray, List.set_cons_zero, List.set_cons_succ]
        refine wpAnyH_take (i := 4) (oi := { dst := some 60, op := _, type := _, pos := _, after := _, guard := _ }) (v := .string sb) rfl (by kernel_rfl) (by kernel_rfl) (by kernel_rfl) (fun _ _ _ h => h) (Or.inl ⟨by kernel_rfl, fun w hSw => by (try dsimp only at hSw); first | (go_simp; done) | (go_simp; rfl)⟩) hk ?_
        try simp only [Act.put, List.setIfInBounds_toArray, List.set_cons_zero, List.set_cons_succ]
        refine wpAnyH_take (i := 5) (oi := { dst := some 61, op := _, type := _, pos := _, after := _, guard := _ }) (v := .slice b0 l.length cap) rfl (by kernel_rfl) (by kernel_rfl) (by kernel_rfl) (fun _ _ _ h => h) (Or.inl ⟨by kernel_rfl, fun w hSw => by (try dsimp only at hSw); first | (go_simp; done) | (go_simp; rfl)⟩) hk ?_
        try simp only [Act.put, List.setIfInBounds_toArray, List.set_cons_zero, List.set_cons_succ]
        refine wpAnyH_ready (rs := [6]) (by kernel_rfl) (by simp) (AllReadyH.cons rfl (fun K' hK => ?_) AllReadyH.nil)
        rw [if_pos (by kernel_rfl)]
        go_simp
        go_at_call 17
        refine (HQ.out _ hBw).mono ?_; rintro r w5 ⟨⟨d, rfl, ho⟩, hb2⟩
        have hBw := below_then hBw hb2
        have hBd := below_then hBd hb2
        have hk := HC.out _ _ (Ints.own (own_stay HO5.out hBd))
        have hcv := HC.out _ _ (Ints.own ho)
        obtain ⟨da, dl, dc, rfl⟩ := own_slice3 ho
        clear ho hb2
        refine hK.out _ _ hk (fun _ => ?_)
        try simp only [Act.put, List.setIfInBounds_toArray, List.set_cons_zero, List.set_cons_succ]
        refine wpAnyH_ready (rs := [7]) (by kernel_rfl) (by simp) (AllReadyH.cons rfl (fun K' hK => ?_) AllReadyH.nil)
        rw [if_pos (by kernel_rfl)]
        go_simp
        clear hcv
        refine hK.out _ _ hk (fun _ => ?_)
        try simp only [Act.put, List.setIfInBounds_toArray, List.set_cons_zero, List.set_cons_succ]
        refine wpAnyH_take (i := 8) (oi := { dst := some 64, op := _, type := _, pos := _, after := _, guard := _ }) (v := .bool true) rfl (by kernel_rfl) (by kernel_rfl) (by kernel_rfl) (fun _ _ _ h => h) (Or.inl ⟨by kernel_rfl, fun w hSw => by (try dsimp only at hSw); first | (go_simp; done) | (go_simp; rfl)⟩) hk ?_
        try simp only [Act.put, List.setIfInBounds_toArray, List.set_cons_zero, List.set_cons_succ]
        refine wpAnyH_take (i := 9) (oi := { dst := some 65, op := _, type := _, pos := _, after := _, guard := _ }) (v := .bool true) rfl (by kernel_rfl) (by kernel_rfl) (by kernel_rfl) (fun _ _ _ h => h) (Or.inl ⟨by kernel_rfl, fun w hSw => by (try dsimp only at hSw); first | (go_simp; done) | (go_simp; rfl)⟩) hk ?_
        try simp only [Act.put, List.setIfInBounds_toArray, List.set_cons_zero, List.set_cons_succ]
        refine wpAnyH_take (i := 10) (oi := { dst := some 66, op := _, type := _, pos := _, after := _, guard := _ }) (v := .bool true) rfl (by kernel_rfl) (by kernel_rfl) (by kernel_rfl) (fun _ _ _ h => h) (Or.inl ⟨by kernel_rfl, fun w hSw => by (try dsimp only at hSw); first | (go_simp; done) | (go_simp; rfl)⟩) hk ?_
        try simp only [Act.put, List.setIfInBounds_toArray, List.set_cons_zero, List.set_cons_succ]
        refine wpAnyH_take (i := 11) (oi := { dst := some 67, op := _, type := _, pos := _, after := _, guard := _ }) (v := .int .i64 0) rfl (by kernel_rfl) (by kernel_rfl) (by kernel_rfl) (fun _ _ _ h => h) (Or.inl ⟨by kernel_rfl, fun w hSw => by (try dsimp only at hSw); first | (go_simp; done) | (go_simp; rfl)⟩) hk ?_
        try simp only [Act.put, List.setIfInBounds_toArray, List.set_cons_zero, List.set_cons_succ]
        refine wpAnyH_take (i := 12) (oi := { dst := some 68, op := _, type := _, pos := _, after := _, guard := _ }) (v := .bool true) rfl (by kernel_rfl) (by kernel_rfl) (by kernel_rfl) (fun _ _ _ h => h) (Or.inl ⟨by kernel_rfl, fun w hSw => by (try dsimp only at hSw); first | (go_simp; done) | (go_simp; rfl)⟩) hk ?_
        try simp only [Act.put, List.setIfInBounds_toArray, List.set_cons_zero, List.set_cons_succ]
        refine wpAnyH_take (i := 13) (oi := { dst := some 69, op := _, type := _, pos := _, after := _, guard := _ }) (v := .bool true) rfl (by kernel_rfl) (by kernel_rfl) (by kernel_rfl) (fun _ _ _ h => h) (Or.inl ⟨by kernel_rfl, fun w hSw => by (try dsimp only at hSw); first | (go_simp; done) | (go_simp; rfl)⟩) hk ?_
        try simp only [Act.put, List.setIfInBounds_toArray, List.set_cons_zero, List.set_cons_succ]
        refine wpAnyH_take (i := 14) (oi := { dst := some 70, op := _, type := _, pos := _, after := _, guard := _ }) (v := .bool true) rfl (by kernel_rfl) (by kernel_rfl) (by kernel_rfl) (fun _ _ _ h => h) (Or.inl ⟨by kernel_rfl, fun w hSw => by (try dsimp only at hSw); first | (go_simp; done) | (go_simp; rfl)⟩) hk ?_
        try simp only [Act.put, List.setIfInBounds_toArray, List.set_cons_zero, List.set_cons_succ]
        refine wpAnyH_take (i := 15) (oi := { dst := some 71, op := _, type := _, pos := _, after := _, guard := _ }) (v := .slice b0 l.length cap) rfl (by kernel_rfl) (by kernel_rfl) (by kernel_rfl) (fun _ _ _ h => h) (Or.inl ⟨by kernel_rfl, fun w hSw => by (try dsimp only at hSw); first | (go_simp; done) | (go_simp; rfl)⟩) hk ?_
        try simp only [Act.put, List.setIfInBounds_toArray, List.set_cons_zero, List.set_cons_succ]
        refine wpAnyH_take (i := 16) (oi := { dst := some 72, op := _, type := _, pos := _, after := _, guard := _ }) (v := .slice ma lm.length mc) rfl (by kernel_rfl) (by kernel_rfl) (by kernel_rfl) (fun _ _ _ h => h) (Or.inl ⟨by kernel_rfl, fun w hSw => by (try dsimp only at hSw); first | (go_simp; done) | (go_simp; rfl)⟩) hk ?_
        try simp only [Act.put, List.setIfInBounds_toArray, List.set_cons_zero, List.set_cons_succ]
        refine wpAnyH_ready (rs := [17]) (by kernel_rfl) (by simp) (AllReadyH.cons rfl (fun K' hK => ?_) AllReadyH.nil)
        rw [if_pos (by kernel_rfl)]
        go_simp
        go_at_call 18
        refine (HS.out _ _ hBw (HM5.out.below hBd)).mono ?_; rintro r w6 ⟨rfl, hb2⟩
        have hBw := below_then hBw hb2
        have hBd := below_then hBd hb2
        have hk := HC.out _ _ (Ints.own (own_stay HO5.out hBd))
        clear hb2
        refine hK.out _ _ hk (fun _ => ?_)
        try simp only [Act.put, List.setIfInBounds_toArray, List.set_cons_zero, List.set_cons_succ]
        refine wpAnyH_take (i := 18) (oi := { dst := some 74, op := _, type := _, pos := _, after := _, guard := _ }) (v := .bool true) rfl (by kernel_rfl) (by kernel_rfl) (by kernel_rfl) (fun _ _ _ h => h) (Or.inl ⟨by kernel_rfl, fun w hSw => by (try dsimp only at hSw); first | (go_simp; done) | (go_simp; rfl)⟩) hk ?_
        try simp only [Act.put, List.setIfInBounds_toArray, List.set_cons_zero, List.set_cons_succ]
        refine wpAnyH_take (i := 19) (oi := { dst := some 75, op := _, type := _, pos := _, after := _, guard := _ }) (v := .bool true) rfl (by kernel_rfl) (by kernel_rfl) (by kernel_rfl) (fun _ _ _ h => h) (Or.inl ⟨by kernel_rfl, fun w hSw => by (try dsimp only at hSw); first | (go_simp; done) | (go_simp; rfl)⟩) hk ?_
        try simp only [Act.put, List.setIfInBounds_toArray, List.set_cons_zero, List.set_cons_succ]
        refine wpAnyH_ready (rs := [20]) (by kernel_rfl) (by simp) (AllReadyH.cons rfl (fun K' hK => ?_) AllReadyH.nil)
        rw [if_pos (by kernel_rfl)]
        go_simp
        go_at_call 7
        refine (HA.out _).mono ?_; rintro r w7 ⟨rfl, hb2⟩
        have hBw := below_then hBw hb2
        have hBd := below_then hBd hb2
        have hk := HC.out _ _ (Ints.own (own_stay HO5.out hBd))
        clear hb2
        refine hK.out _ _ hk (fun _ => ?_)
        try simp only [Act.put, List.setIfInBounds_toArray, List.set_cons_zero, List.set_cons_succ]
        refine wpAnyH_take (i := 21) (oi := { dst := some 77, op := _, type := _, pos := _, after := _, guard := _ }) (v := .bool true) rfl (by kernel_rfl) (by kernel_rfl) (by kernel_rfl) (fun _ _ _ h => h) (Or.inl ⟨by kernel_rfl, fun w hSw => by (try dsimp only at hSw); first | (go_simp; done) | (go_simp; rfl)⟩) hk ?_
        try simp only [Act.put, List.setIfInBounds_toArray, List.set_cons_zero, List.set_cons_succ]
        refine wpAnyH_take (i := 22) (oi := { dst := some 4, op := _, type := _, pos := _, after := _, guard := _ }) (v := .bool true) rfl (by kernel_rfl) (by kernel_rfl) (by kernel_rfl) (fun _ _ _ h => h) (Or.inl ⟨by kernel_rfl, fun w hSw => by (try dsimp only at hSw); first | (go_simp; done) | (go_simp; rfl)⟩) hk ?_
        try simp only [Act.put, List.setIfInBounds_toArray, List.set_cons_zero, List.set_cons_succ]
        refine wpAnyH_done (by kernel_rfl) ?_ _
        go_wp2_with fail
        go_ret
        exact ⟨rfl, hBw⟩
theorem walk (D I M V : Value) (S : Sc) (v : Value) (l : List Fa) (w : World) (h : Sch4 w D I M V S) (hw : SWf S) (hv : Facts w v l) (hf : ∀ f ∈ l, FaWf f) :
    Calls Try.prog 4 #[SchV D I M V, v] w fun e w' => e = .returned (.bool true) ∧ Below w.heap.size w w' := by
  by_cases hc : (batchL S l).2 = 0
  · exact walk_yes D I M V S v l w h hw hv hf hc
  · exact walk_no D I M V S v l w h hw hv hf hc
set_option maxRecDepth 100000 in
theorem lifted (os : Os) (started : os.Started) (H : Type) (enc : TypeId × Value → H) :
    ReturnsInHanded {} Try.checked os 4 .any (Rows.factPutsSpec.pre6 enc Try.prog Try.f4 Rows.factPutsRow.domain false) (Rows.factPutsSpec.post enc Try.prog Try.f4 false true false false) := by
  refine returnsInHanded_of_change (C := Try.checked) own started (by kernel_rfl) Try.func4
    (ChangeSpec.witness6 (enc := enc) (C := Try.checked) false ⟨#[], #[.agg #[.slice none 0 0, .slice none 0 0, .slice none 0 0, .slice none 0 0], .slice none 0 0], []⟩ 8 (by kernel_rfl) (by kernel_rfl) (by kernel_rfl) (by kernel_rfl)) ?_
  intro W base args ds gs before hval0 hW hcnd _
  have hval : ∀ (j : Nat) t v, Try.f4.params[j]? = some t → args[j]? = some v → Value.okWide Try.prog W .any base t v := hval0
  have hW' := hW
  obtain ⟨p, q, hA0, hV, rfl, hfz, hnd⟩ := hW
  have hA : DataW.TrodAll enc Try.prog W 0 (fun _ => true) true Try.f4.params.toList args.toList ds p := hA0
  rw [Try.params4] at hA hval
  obtain ⟨v0, vs0, d0, ds0, p0, q0, hargs, rfl, rfl, h0, r0⟩ := trodAll_cons hA
  obtain ⟨v1, vs1, d1, ds1, p1, q1, rfl, rfl, rfl, h1, r1⟩ := trodAll_cons r0
  obtain ⟨rfl, rfl, rfl⟩ := trodAll_nil r1
  obtain rfl : args = #[v0, v1] := by cases args; simp_all
  obtain ⟨rfl, rfl⟩ := trodVars_none hV
  have k0 := h0
  have lt0 : ∀ x ∈ p0, x.block < W.heap.size := by obtain ⟨m, hm⟩ := k0; exact DataW.trod_lt m _ _ _ hm
  obtain ⟨D0, I0, N0, V0, S0, rfl, s0, w0⟩ := schema_of (hval 0 26 v0 rfl rfl) h0
  obtain ⟨a1, len1, cap1, rfl⟩ := okWide_slice Try.underlying27 (hval 1 27 v1 rfl rfl)
  have k1 := h1
  have lt1 : ∀ x ∈ p1, x.block < W.heap.size := by obtain ⟨m, hm⟩ := k1; exact DataW.trod_lt m _ _ _ hm
  obtain ⟨l1, s1, w1⟩ := facts_of h1 ⟨_, _, _, rfl⟩
  clear hA0 hval0
  refine (walk D0 I0 N0 V0 S0 (.slice a1 len1 cap1) l1 W s0 w0 s1 w1).mono fun e W' ⟨he, bel⟩ => ?_
  subst he
  exact ⟨_, rfl, _, _, _, [], _, [], hW', trodAll_mk1 (shut_bool Try.underlying4 _), (trodAll_cons_mk (Below.trod laidOut (by kernel_rfl) (of_decide_eq_true (by kernel_rfl)) k0 bel lt0) (trodAll_cons_mk (Below.trod laidOut (by kernel_rfl) (of_decide_eq_true (by kernel_rfl)) k1 bel lt1) trodAll_mk0)), rfl, bel.frame _, fun h => by cases h⟩

theorem over : Rows.factPutsRow.holds Try.pinned (OpenSpec.ofChange Rows.factPutsSpec) :=
  OpenClaim.holds_of_wide 4 Try.f4 rfl rfl rfl rfl rfl rfl rfl ⟨rfl, rfl, rfl, rfl, rfl⟩ rfl rfl rfl rfl rfl (by kernel_rfl) Try.func4 (by kernel_rfl)
    (of_decide_eq_true (by kernel_rfl)) (by unfold Func.isWrapper; first | (rw [if_pos (by decide +kernel)]; kernel_rfl) | (rw [if_neg (by decide +kernel)]; exact ⟨rfl, rfl⟩))
    (fun os started H enc _ => lifted os started H enc)
end Go.Proofs.Ytdnbjaeeebodkaa.factPuts
namespace Go.Proofs.Ytdnbjaeeebodkaa
/-- The statement. -/
theorem factPuts_holds : Rows.FactPutsSaid := factPuts.over
#print axioms factPuts_holds
end Go.Proofs.Ytdnbjaeeebodkaa
