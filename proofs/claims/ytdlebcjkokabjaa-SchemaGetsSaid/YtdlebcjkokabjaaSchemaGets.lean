/- SchemaGets: for any bytes the statement's function returns true and changes nothing that was there. No condition. -/
import Derived.Test.YtdlebcjkokabjaaScib
import Derived.ProofKit
import Derived.Deep.RegionHeld3
namespace Go.Proofs.Ytdlebcjkokabjaa.schemaGets
set_option maxRecDepth 100000
open Go.ChangeShapes Go.WideShapes Go.ChangeAt Go.RowKit
set_option linter.unusedVariables false
theorem own : ownKnob Try.prog.godebug = none := by kernel_rfl
theorem laidOut : laidOutB Try.prog = true := by kernel_rfl
theorem two_got {w w1 w2 : World} {D I M V D' I' M' V' : Value} {S : Sc} (h1 : Sch4 w1 D I M V S) (hb1 : Below w.heap.size w w1) (h2 : Sch4 w2 D' I' M' V' S) (hb2 : Below (w1.alloc (SchO D I M V)).heap.size (w1.alloc (SchO D I M V)) w2) :
    Sch4 (w2.alloc (SchO D' I' M' V')) D I M V S ∧ Sch4 (w2.alloc (SchO D' I' M' V')) D' I' M' V' S ∧ Below w.heap.size w (w2.alloc (SchO D' I' M' V')) ∧ Box (w2.alloc (SchO D' I' M' V')) w1.heap.size D I M V ∧ Box (w2.alloc (SchO D' I' M' V')) w2.heap.size D' I' M' V' := by
  have hb3 := below_then (below_then (below_one w1 (SchO D I M V)) hb2) (below_one w2 (SchO D' I' M' V'))
  exact ⟨h1.below hb3, h2.below (below_one _ _), below_then hb1 hb3, (box_new w1 D I M V).below (below_then hb2 (below_one _ _)), box_new w2 D' I' M' V'⟩
set_option maxHeartbeats 8000000 in
theorem walk_out (v : Value) (b : List Int) (w : World) (h : Ints .u8 w v b) (hl : 1000 < b.length) :
    Calls Try.prog 5 #[v] w fun e w' => e = .returned (.bool true) ∧ Below w.heap.size w w' := by
  have HA := Lib.hid (fun w => awake_any w)
  obtain ⟨a, c, rfl, -, -⟩ := h
  have h2 : 1000 < (b.length : Int) := by omega
  go_enter Try.func5, Try.ntmps5
  go_wp2_with fail
  refine (HA.out _).mono ?_; rintro e w' ⟨rfl, hb⟩
  go_wp2_with fail
  go_ret
  exact ⟨rfl, hb⟩
set_option maxHeartbeats 8000000 in
theorem walk_no (v : Value) (b : List Int) (w : World) (h : Ints .u8 w v b) (hb : Bt b) (hl : b.length ≤ 1000) (he : getE b ≠ 0) :
    Calls Try.prog 5 #[v] w fun e w' => e = .returned (.bool true) ∧ Below w.heap.size w w' := by
  have HA := Lib.hid (fun w => awake_any w)
  have HG := Lib.hid (get_any w v b h hb (by omega))
  have HR := Lib.hid (fun w1 (hb' : Below w.heap.size w w1) => rget_any w1 v b (h.below hb') hb (by omega))
  have hz : getS b = zeroS := by unfold getS; rw [if_neg he]
  unfold GotS at HG HR
  rw [hz] at HG HR
  have HS := Lib.hid (fun w1 D I M V D' I' M' V' (h : Sch4 w1 D I M V zeroS) (h' : Sch4 w1 D' I' M' V' zeroS) => schsame_any w1 D I M V D' I' M' V' zeroS h h' (by simp [zeroS]))
  obtain ⟨a, c, rfl, -, -⟩ := h
  have h2 : ¬ 1000 < (b.length : Int) := by omega
  obtain ⟨E, hE⟩ : ∃ E : Int, ((getE b : Nat) : Int) = E := ⟨_, rfl⟩
  rw [hE] at HG HR
  have e1 : (E != 0) = true := by rw [← hE]; simp; omega
  have e2 : (E != E) = false := by simp
  have e3 : ¬ E = 0 := by omega
  have e4 : decide (E = 0) = false := by simp [e3]
  have e5 : (E == 0) = false := by simp [e3]
  have e6 : (decide (E ≠ 0)) = true := by simp [e3]
  have e7 : (!decide (E = 0)) = true := by simp [e3]
  generalize zeroS = S at *
  clear hE he hz hb
  go_enter Try.func5, Try.ntmps5
  go_wp2_with fail
  refine (HG.out).mono ?_; rintro r w1 ⟨D, I, M, V, rfl, hs, hb1⟩
  obtain ⟨⟨a1, c1, rfl⟩, ⟨a2, c2, rfl⟩, ⟨a3, c3, rfl⟩, a4, c4, rfl⟩ := hs.slices
  have HS1 := Lib.hid (And.intro hs hb1)
  clear hs hb1
  go_wp2_with fail
  refine (HR.out _ (below_then HS1.out.2 (below_one _ _))).mono ?_; rintro r w2 ⟨D', I', M', V', rfl, hs', hb2⟩
  obtain ⟨⟨b1, d1, rfl⟩, ⟨b2, d2, rfl⟩, ⟨b3, d3, rfl⟩, b4, d4, rfl⟩ := hs'.slices
  obtain ⟨k1, k2, k3, k4, k5⟩ := two_got HS1.out.1 HS1.out.2 hs' hb2
  have HT := Lib.hid (And.intro k1 (And.intro k2 k3))
  obtain ⟨x0, x1, x2, x3⟩ := k4.reads
  obtain ⟨y0, y1, y2, y3⟩ := k5.reads
  have HX := Lib.hid k4
  clear hs' hb2 k1 k2 k3 k4 k5
  go_wp2_with fail
  refine (HS.out _ _ _ _ _ _ _ _ _ HT.out.1 HT.out.2.1).mono ?_; rintro r w4 ⟨rfl, hb4⟩
  obtain ⟨x0, x1, x2, x3⟩ := (HX.out.below hb4).reads
  have HB4 := Lib.hid (below_then HT.out.2.2 hb4)
  clear y0 y1 y2 y3
  clear hb4 x0 x1 x2 x3
  go_upto_region 7 with fail
  have hBw : Below w.heap.size w w4.drew := HB4.out.drew
  clear HG HR HT HS HX HS1
  refine wp_region_held_drew (S := fun _ => True) (by kernel_rfl) True.intro (fun _ => ?_)
  refine wpAnyH_take (i := 0) (v := .int .i64 E) rfl (by kernel_rfl) (by kernel_rfl) (by kernel_rfl) (fun _ _ _ h => h) (Or.inl ⟨by kernel_rfl, fun w _ => by first | (go_simp; done) | (go_simp; rfl) | (go_simp; simp [e3])⟩) True.intro ?_
  try simp only [Act.put, List.setIfInBounds_toArray]
  refine wpAnyH_take (i := 1) (v := .bool true) rfl (by kernel_rfl) (by kernel_rfl) (by kernel_rfl) (fun _ _ _ h => h) (Or.inl ⟨by kernel_rfl, fun w _ => by first | (go_simp; done) | (go_simp; rfl) | (go_simp; simp [e3])⟩) True.intro ?_
  try simp only [Act.put]
  refine wpAnyH_take (i := 2) (v := .bool true) rfl (by kernel_rfl) (by kernel_rfl) (by kernel_rfl) (fun _ _ _ h => h) (Or.inl ⟨by kernel_rfl, fun w _ => by first | (go_simp; done) | (go_simp; rfl) | (go_simp; simp [e3])⟩) True.intro ?_
  try simp only [Act.put]
  refine wpAnyH_take (i := 3) (v := undef) rfl (by kernel_rfl) (by kernel_rfl) (by kernel_rfl) (fun _ _ _ h => h) (Or.inr ⟨by kernel_rfl, rfl⟩) True.intro ?_
  try simp only [Act.put]
  refine wpAnyH_take (i := 4) (v := undef) rfl (by kernel_rfl) (by kernel_rfl) (by kernel_rfl) (fun _ _ _ h => h) (Or.inr ⟨by kernel_rfl, rfl⟩) True.intro ?_
  try simp only [Act.put]
  refine wpAnyH_take (i := 5) (v := undef) rfl (by kernel_rfl) (by kernel_rfl) (by kernel_rfl) (fun _ _ _ h => h) (Or.inr ⟨by kernel_rfl, rfl⟩) True.intro ?_
  try simp only [Act.put]
  refine wpAnyH_take (i := 6) (v := undef) rfl (by kernel_rfl) (by kernel_rfl) (by kernel_rfl) (fun _ _ _ h => h) (Or.inr ⟨by kernel_rfl, rfl⟩) True.intro ?_
  try simp only [Act.put]
  refine wpAnyH_take (i := 7) (v := undef) rfl (by kernel_rfl) (by kernel_rfl) (by kernel_rfl) (fun _ _ _ h => h) (Or.inr ⟨by kernel_rfl, rfl⟩) True.intro ?_
  try simp only [Act.put]
  refine wpAnyH_take (i := 8) (v := undef) rfl (by kernel_rfl) (by kernel_rfl) (by kernel_rfl) (fun _ _ _ h => h) (Or.inr ⟨by kernel_rfl, rfl⟩) True.intro ?_
  try simp only [Act.put]
  refine wpAnyH_take (i := 9) (v := .bool true) rfl (by kernel_rfl) (by kernel_rfl) (by kernel_rfl) (fun _ _ _ h => h) (Or.inl ⟨by kernel_rfl, fun w _ => by first | (go_simp; done) | (go_simp; rfl) | (go_simp; simp [e3])⟩) True.intro ?_
  try simp only [Act.put]
  refine wpAnyH_take (i := 10) (v := .bool true) rfl (by kernel_rfl) (by kernel_rfl) (by kernel_rfl) (fun _ _ _ h => h) (Or.inl ⟨by kernel_rfl, fun w _ => by first | (go_simp; done) | (go_simp; rfl) | (go_simp; simp [e3])⟩) True.intro ?_
  try simp only [Act.put]
  refine wpAnyH_ready (rs := [11]) (by kernel_rfl) (by simp) (AllReadyH.cons rfl (fun K' hK => ?_) AllReadyH.nil)
  rw [if_pos (by kernel_rfl)]
  go_simp
  go_at_call 7
  refine (HA.out _).mono ?_; rintro e wz ⟨rfl, hbz⟩
  have HZ := Lib.hid (below_then hBw hbz)
  refine hK.out _ _ True.intro (fun _ => ?_)
  try simp only [Act.put, List.setIfInBounds_toArray, List.set_cons_zero, List.set_cons_succ]
  refine wpAnyH_take (i := 12) (oi := { dst := some 42, op := _, type := _, pos := _, after := _, guard := _ }) (v := .bool true) rfl (by kernel_rfl) (by kernel_rfl) (by kernel_rfl) (fun _ _ _ h => h) (Or.inl ⟨by kernel_rfl, fun w _ => by first | (go_simp; done) | (go_simp; rfl) | (go_simp; simp [e3])⟩) True.intro ?_
  try simp only [Act.put, List.setIfInBounds_toArray, List.set_cons_zero, List.set_cons_succ]
  refine wpAnyH_take (i := 13) (oi := { dst := some 2, op := _, type := _, pos := _, after := _, guard := _ }) (v := .bool true) rfl (by kernel_rfl) (by kernel_rfl) (by kernel_rfl) (fun _ _ _ h => h) (Or.inl ⟨by kernel_rfl, fun w _ => by first | (go_simp; done) | (go_simp; rfl) | (go_simp; simp [e3])⟩) True.intro ?_
  try simp only [Act.put, List.setIfInBounds_toArray, List.set_cons_zero, List.set_cons_succ]
  refine wpAnyH_done (by kernel_rfl) ?_ _
  all_goals (go_wp2_with fail; go_ret; exact ⟨rfl, HZ.out⟩)
set_option maxHeartbeats 8000000 in
theorem walk_yes (v : Value) (b : List Int) (w : World) (h : Ints .u8 w v b) (hb : Bt b) (hl : b.length ≤ 1000) (he : getE b = 0) :
    Calls Try.prog 5 #[v] w fun e w' => e = .returned (.bool true) ∧ Below w.heap.size w w' := by
  have HA := Lib.hid (fun w => awake_any w)
  have HG := Lib.hid (get_any w v b h hb (by omega))
  have HR := Lib.hid (fun w1 (hb' : Below w.heap.size w w1) => rget_any w1 v b (h.below hb') hb (by omega))
  have hz : getS b = rdS b := by unfold getS; rw [if_pos he]
  have hre := rd_enc hb he
  have hf := fit_of hre.2 (rdS_wf hb)
  have HP := Lib.hid (fun w1 D I M V (h : Sch4 w1 D I M V (rdS b)) => rput_any w1 D I M V (rdS b) h hf)
  rw [hre.1] at HP
  unfold BytesP at HP
  unfold GotS at HG HR
  rw [hz] at HG HR
  have HS := Lib.hid (fun w1 D I M V D' I' M' V' (h : Sch4 w1 D I M V (rdS b)) (h' : Sch4 w1 D' I' M' V' (rdS b)) => schsame_any w1 D I M V D' I' M' V' (rdS b) h h' (by have := hf.cnt; omega))
  have HC := Lib.hid (fun w1 (hb' : Below w.heap.size w w1) => conv_ints (h.below hb') hb)
  have HC2 := Lib.hid (fun w1 v1 (h1 : Ints .u8 w1 v1 b) => conv_ints h1 hb)
  have hq : ((strB b).toList == (strB b).toList) = true := by simp
  obtain ⟨a, c, rfl, -, -⟩ := h
  have h2 : ¬ 1000 < (b.length : Int) := by omega
  rw [he] at HG HR
  have e1 : (((0 : Nat) : Int) != 0) = false := by simp
  have e2 : (((0 : Nat) : Int) != ((0 : Nat) : Int)) = false := by simp
  generalize rdS b = S at *
  generalize strB b = sb at *
  clear he hz hb hf hre
  go_enter Try.func5, Try.ntmps5
  go_wp2_with fail
  refine (HG.out).mono ?_; rintro r w1 ⟨D, I, M, V, rfl, hs, hb1⟩
  obtain ⟨⟨a1, c1, rfl⟩, ⟨a2, c2, rfl⟩, ⟨a3, c3, rfl⟩, a4, c4, rfl⟩ := hs.slices
  have HS1 := Lib.hid (And.intro hs hb1)
  clear hs hb1
  go_wp2_with fail
  refine (HR.out _ (below_then HS1.out.2 (below_one _ _))).mono ?_; rintro r w2 ⟨D', I', M', V', rfl, hs', hb2⟩
  obtain ⟨⟨b1, d1, rfl⟩, ⟨b2, d2, rfl⟩, ⟨b3, d3, rfl⟩, b4, d4, rfl⟩ := hs'.slices
  obtain ⟨k1, k2, k3, k4, k5⟩ := two_got HS1.out.1 HS1.out.2 hs' hb2
  have HT := Lib.hid (And.intro k1 (And.intro k2 k3))
  obtain ⟨x0, x1, x2, x3⟩ := k4.reads
  obtain ⟨y0, y1, y2, y3⟩ := k5.reads
  have HX := Lib.hid k4
  clear hs' hb2 k1 k2 k3 k4 k5
  go_wp2_with fail
  refine (HS.out _ _ _ _ _ _ _ _ _ HT.out.1 HT.out.2.1).mono ?_; rintro r w4 ⟨rfl, hb4⟩
  obtain ⟨x0, x1, x2, x3⟩ := (HX.out.below hb4).reads
  have HB4 := Lib.hid (below_then HT.out.2.2 hb4)
  clear y0 y1 y2 y3
  have HD4 := Lib.hid (HT.out.1.below hb4.drew)
  clear hb4
  go_upto_region 7 with fail
  have hk : w4.drew.cell? ⟨w1.heap.size, 0, none⟩ = some (.slice a1 S.ds.length c1) ∧ w4.drew.cell? ⟨w1.heap.size, 1, none⟩ = some (.slice a2 S.is.length c2) ∧ w4.drew.cell? ⟨w1.heap.size, 2, none⟩ = some (.slice a3 S.ns.length c3) ∧ w4.drew.cell? ⟨w1.heap.size, 3, none⟩ = some (.slice a4 S.vs.length c4) := ⟨by simp [x0], by simp [x1], by simp [x2], by simp [x3]⟩
  have hBw : Below w.heap.size w w4.drew := HB4.out.drew
  have hBd : Below w4.drew.heap.size w4.drew w4.drew := Below.refl _ _
  have hc := HC.out _ hBw
  clear x0 x1 x2 x3
  obtain ⟨x0, x1, x2, x3⟩ := hk
  go_region_law (first
      | (go_simp; go_at_call 20; refine (HP.out _ _ _ _ _ (HD4.out.below hBd)).mono ?_; rintro r w5 ⟨⟨d, rfl, ho⟩, hb2⟩; obtain ⟨x0, x1, x2, x3⟩ := quad_hold hb2 ⟨x0, x1, x2, x3⟩; have hBw := below_then hBw hb2; have hBd := below_then hBd hb2; have hc := HC.out _ hBw; have hc2 := HC2.out _ _ (Ints.own ho); obtain ⟨da, dl, dc, rfl⟩ := own_slice3 ho; clear ho hb2)
      | (go_simp; go_at_call 7; refine (HA.out _).mono ?_; rintro r w6 ⟨rfl, hb2⟩; have hBw := below_then hBw hb2; have hBd := below_then hBd hb2; clear hb2))
  all_goals (go_wp2_with fail; go_ret; exact ⟨rfl, hBw⟩)
theorem walk (v : Value) (b : List Int) (w : World) (h : Ints .u8 w v b) (hb : Bt b) :
    Calls Try.prog 5 #[v] w fun e w' => e = .returned (.bool true) ∧ Below w.heap.size w w' := by
  by_cases hl : b.length ≤ 1000
  · by_cases he : getE b = 0
    · exact walk_yes v b w h hb hl he
    · exact walk_no v b w h hb hl he
  · exact walk_out v b w h (by omega)
set_option maxRecDepth 100000 in
theorem lifted (os : Os) (started : os.Started) (H : Type) (enc : TypeId × Value → H) :
    ReturnsInHanded {} Try.checked os 5 .any (Rows.schemaGetsSpec.pre6 enc Try.prog Try.f5 Rows.schemaGetsRow.domain false) (Rows.schemaGetsSpec.post enc Try.prog Try.f5 false true false false) := by
  refine returnsInHanded_of_change (C := Try.checked) own started (by kernel_rfl) Try.func5
    (ChangeSpec.witness6 (enc := enc) (C := Try.checked) false ⟨#[], #[.slice none 0 0], []⟩ 8 (by kernel_rfl) (by kernel_rfl) (by kernel_rfl) (by kernel_rfl)) ?_
  intro W base args ds gs before hval0 hW hcnd _
  have hval : ∀ (j : Nat) t v, Try.f5.params[j]? = some t → args[j]? = some v → Value.okWide Try.prog W .any base t v := hval0
  have hW' := hW
  obtain ⟨p, q, hA0, hV, rfl, hfz, hnd⟩ := hW
  have hA : DataW.TrodAll enc Try.prog W 0 (fun _ => true) true Try.f5.params.toList args.toList ds p := hA0
  rw [Try.params5] at hA hval
  obtain ⟨v0, vs0, d0, ds0, p0, q0, hargs, rfl, rfl, h0, r0⟩ := trodAll_cons hA
  obtain ⟨rfl, rfl, rfl⟩ := trodAll_nil r0
  obtain rfl : args = #[v0] := by cases args; simp_all
  obtain ⟨rfl, rfl⟩ := trodVars_none hV
  obtain ⟨a0, len0, cap0, rfl⟩ := okWide_slice Try.underlying42 (hval 0 42 v0 rfl rfl)
  have k0 := h0
  have lt0 : ∀ x ∈ p0, x.block < W.heap.size := by obtain ⟨m, hm⟩ := k0; exact DataW.trod_lt m _ _ _ hm
  obtain ⟨z0, w0, y0⟩ := bytes_of h0 ⟨_, _, _, rfl⟩
  clear hA0 hval0
  refine (walk _ z0 W w0 y0).mono fun e W' ⟨he, bel⟩ => ?_
  subst he
  exact ⟨_, rfl, _, _, _, [], _, [], hW', trodAll_mk1 (shut_bool Try.underlying4 _), (trodAll_cons_mk (Below.trod laidOut (by kernel_rfl) (of_decide_eq_true (by kernel_rfl)) k0 bel lt0) trodAll_mk0), rfl, bel.frame _, fun h => by cases h⟩

theorem over : Rows.schemaGetsRow.holds Try.pinned (OpenSpec.ofChange Rows.schemaGetsSpec) :=
  OpenClaim.holds_of_wide 5 Try.f5 rfl rfl rfl rfl rfl rfl rfl ⟨rfl, rfl, rfl, rfl, rfl⟩ rfl rfl rfl rfl rfl (by kernel_rfl) Try.func5 (by kernel_rfl)
    (of_decide_eq_true (by kernel_rfl)) (by unfold Func.isWrapper; first | (rw [if_pos (by decide +kernel)]; kernel_rfl) | (rw [if_neg (by decide +kernel)]; exact ⟨rfl, rfl⟩))
    (fun os started H enc _ => lifted os started H enc)
end Go.Proofs.Ytdlebcjkokabjaa.schemaGets
namespace Go.Proofs.Ytdlebcjkokabjaa
/-- The statement. -/
theorem schemaGets_holds : Rows.SchemaGetsSaid := schemaGets.over
#print axioms schemaGets_holds
end Go.Proofs.Ytdlebcjkokabjaa
