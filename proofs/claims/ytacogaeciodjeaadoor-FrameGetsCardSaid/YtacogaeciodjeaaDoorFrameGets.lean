/- FrameGets: for any slice of bytes the statement's function returns true and changes nothing that was there. No condition beyond the row's own. -/
import Derived.Test.YtacogaeciodjeaaDoorFrmi
import Derived.Test.YtacogaeciodjeaaDoorFrmj
import Derived.Deep.RegionLaw
namespace Go.Proofs.YtacogaeciodjeaaDoor
theorem allF_byt {b : List Int} (hb : Byt b) : ∀ f, ∀ l ∈ (allF f b).1, Byt l := by
  intro f
  induction f generalizing b with
  | zero => intro l h; simp [allF] at h
  | succ f ih =>
    intro l h
    unfold allF at h
    split at h
    · simp at h
    · split at h
      · rcases List.mem_cons.1 h with rfl | h
        · exact getN_byt hb
        · exact ih (byt_drop hb _) l h
      · simp at h
theorem allF_len (f : Nat) (b : List Int) : (allF f b).1.length ≤ f := by
  induction f generalizing b with
  | zero => simp [allF]
  | succ f ih =>
    unfold allF
    split
    · simp
    · split
      · simp only [List.length_cons]; have := ih (b.drop (getN b).2.1); omega
      · simp
theorem allN_byt {b : List Int} (hb : Byt b) (j : Nat) : Byt ((allN b).1.getD j []) := by
  by_cases h : j < (allN b).1.length
  · have e : (allN b).1.getD j [] = (allN b).1[j] := by simp [List.getD, h]
    rw [e]
    exact allF_byt hb _ _ (List.getElem_mem h)
  · have e : (allN b).1.getD j [] = [] := by simp [List.getD, List.getElem?_eq_none (Nat.le_of_not_lt h)]
    rw [e]; exact byt0
theorem row_at {w : World} {B : Nat} {p : Option Addr} {c : Nat} {L : List (List Int)} (h : Bods w B (.slice p L.length c) L) {k : Nat} (hk : k < L.length) :
    (∃ g, p = some ⟨g, 0, none⟩) ∧ ∃ u d, (∀ g, p = some ⟨g, 0, none⟩ → w.cell? ⟨g, k, none⟩ = some (.slice u (L.getD k []).length d)) ∧ BOwn w B (.slice u (L.getD k []).length d) (L.getD k []) := by
  obtain ⟨vs, h1, h2, h3⟩ := h
  have hv : vs[k]? = some vs[k] := List.getElem?_eq_getElem (by omega)
  have hu := h3 k _ hv
  obtain ⟨u, d, hs⟩ := own_slice hu
  refine ⟨?_, u, d, fun g hp => ?_, by rw [← hs]; exact hu⟩
  · rcases h2.2 with ⟨_, h0⟩ | ⟨g, cap, cur, hv, _⟩
    · omega
    · simp only [Value.slice.injEq] at hv
      exact ⟨g, hv.1⟩
  · subst hp
    rw [h2.cellAt k (by omega), hv, hs]
end Go.Proofs.YtacogaeciodjeaaDoor
namespace Go.Proofs.YtacogaeciodjeaaDoor.frameGets
set_option maxRecDepth 100000
open Go.ChangeShapes Go.WideShapes Go.ChangeAt Go.RowKit
set_option linter.unusedVariables false
theorem walk_out (a0 : Option Addr) (len0 cap0 : Nat) (w : World) (h : 3000 < len0) (hT : Fours w) :
    Calls Tryd.prog 4 #[.slice a0 len0 cap0] w fun e w' => e = .returned (.bool true) ∧ Below w.heap.size w w' := by
  have HA := Lib.hid (awake9_any w hT)
  have h2 : 3000 < (len0 : Int) := by omega
  clear hT
  go_enter Tryd.func4, Tryd.ntmps4
  go_wp2_with fail
  refine (HA.out).mono ?_; rintro e w' ⟨rfl, hb⟩
  go_wp2_with fail
  go_ret
  exact ⟨rfl, hb⟩
set_option maxHeartbeats 8000000 in
theorem walk_main (a0 : Option Addr) (cap0 : Nat) (z0 : List Int) (w : World) (g0 : Ints .u8 w (.slice a0 z0.length cap0) z0) (hb : Byt z0) (hl : z0.length ≤ 3000) (hT : Fours w) :
    Calls Tryd.prog 4 #[.slice a0 z0.length cap0] w fun e w' => e = .returned (.bool true) ∧ Below w.heap.size w w' := by
  have HG1 := Lib.hid (pget_any _ z0 w g0 hb (by omega) hT)
  have HG2 := Lib.hid (fun w' (h : Below w.heap.size w w') => rget_any _ z0 w' (g0.below h) hb (by omega))
  have HA1 := Lib.hid (fun w' (h : Below w.heap.size w w') => pall_any _ z0 w' (g0.below h) hb hl (hT.call h))
  have HA2 := Lib.hid (fun w' (h : Below w.heap.size w w') => rall_any _ z0 w' (g0.below h) hb hl)
  have HAw := Lib.hid (fun w' (h : Below w.heap.size w w') => awake9_any w' (hT.call h))
  have HCv := Lib.hid (fun w' v (h : Ints .u8 w' v (getN z0).1) => conv_ints h (getN_byt hb))
  have HCj := Lib.hid (fun j w' v (h : Ints .u8 w' v ((allN z0).1.getD j [])) => conv_ints h (allN_byt hb j))
  have hq : ((strB (getN z0).1).toList != (strB (getN z0).1).toList) = false := by simp
  have HQj := Lib.hid (fun j => show ((strB ((allN z0).1.getD j [])).toList != (strB ((allN z0).1.getD j [])).toList) = false by simp)
  unfold GetP at HG1 HG2
  unfold AllP at HA1 HA2
  have hLn : (allN z0).1.length ≤ z0.length := allF_len _ _
  have h2 : ¬ 3000 < (z0.length : Int) := by omega
  generalize getN z0 = R at *
  generalize allN z0 = T at *
  obtain ⟨x, n, e⟩ := R
  obtain ⟨L, N, E⟩ := T
  simp only at HG1 HG2 HA1 HA2 HCv HCj hq HQj hLn
  generalize strB x = S at *
  clear g0 hb hT
  go_enter Tryd.func4, Tryd.ntmps4
  go_wp2_with fail
  refine (HG1.out).mono ?_; rintro r w1 ⟨⟨v1, rfl, ho1⟩, hb1⟩
  have HB1 := Lib.hid (And.intro ho1 hb1)
  obtain ⟨p1, l1, c1, rfl⟩ := own_slice3 ho1
  clear ho1 hb1 HG1
  go_wp2_with fail
  refine (HG2.out _ HB1.out.2).mono ?_; rintro r w2 ⟨⟨v2, rfl, ho2⟩, hb2⟩
  have HB2 := Lib.hid (below_then HB1.out.2 hb2)
  have hc1 := HCv.out _ _ (Ints.own (own_below HB1.out.1 hb2))
  have hc2 := HCv.out _ _ (Ints.own ho2)
  obtain ⟨p2, l2, c2, rfl⟩ := own_slice3 ho2
  clear ho2 hb2 HG2 HB1
  go_wp2_with fail
  refine (HA1.out _ HB2.out).mono ?_; rintro r w3 ⟨⟨v3, rfl, ho3⟩, hb3⟩
  have HB3 := Lib.hid (And.intro ho3 (below_then HB2.out hb3))
  obtain ⟨p3, c3, rfl⟩ := ho3.slice
  clear ho3 hb3 HA1 hc1 hc2 hq
  go_wp2_with fail
  refine (HA2.out _ HB3.out.2).mono ?_; rintro r w4 ⟨⟨v4, rfl, ho4⟩, hb4⟩
  have HB4 := Lib.hid (show Bods w4 0 _ L ∧ Bods w4 0 _ L ∧ Below w.heap.size w w4 from ⟨(HB3.out.1.mono (Nat.zero_le _)).below hb4, ho4.mono (Nat.zero_le _), below_then HB3.out.2 hb4⟩)
  obtain ⟨p4, c4, rfl⟩ := ho4.slice
  clear ho4 hb4 HA2 HB3
  go_wp2_with fail
  go_loopw [11] (fun i wr => ∃ k : Nat, k ≤ L.length ∧ i = .int .i64 k ∧ Hid (Bods wr 0 (.slice p3 L.length c3) L ∧ Bods wr 0 (.slice p4 L.length c4) L ∧ Below w.heap.size w wr)) (fun i _ => L.length - (intOf i).toNat)
  case atStart => exact ⟨0, Nat.zero_le _, rfl, HB4⟩
  case round =>
    obtain ⟨k, hk, rfl, hS⟩ := hrel
    by_cases hlt : k < L.length
    · obtain ⟨⟨g3, hp3⟩, u3, d3, e3, hu3⟩ := row_at hS.out.1 hlt
      obtain ⟨⟨g4, hp4⟩, u4, d4, e4, hu4⟩ := row_at hS.out.2.1 hlt
      subst hp3 hp4
      have m3 : wr.drew.cell? ⟨g3, k, none⟩ = some (.slice u3 (L.getD k []).length d3) := by simpa using e3 g3 rfl
      have m4 : wr.drew.cell? ⟨g4, k, none⟩ = some (.slice u4 (L.getD k []).length d4) := by simpa using e4 g4 rfl
      have cv3 := HCj.out k wr.drew _ (Ints.own hu3.drew)
      have cv4 := HCj.out k wr.drew _ (Ints.own hu4.drew)
      have hq := HQj.out k
      generalize (L.getD k []).length = lk at *
      generalize strB (L.getD k []) = S at *
      have i1 : (k : Int) < (L.length : Int) := by omega
      have HD := Lib.hid (show Bods wr.drew 0 _ L ∧ Bods wr.drew 0 _ L ∧ Below w.heap.size w wr.drew from ⟨hS.out.1.below (Below.refl _ _).drew, hS.out.2.1.below (Below.refl _ _).drew, hS.out.2.2.drew⟩)
      clear hu3 hu4 e3 e4 HB4
      go_upto_region 14 with fail
      go_region
      go_wp2_with fail
      go_roundw
      case rel => exact ⟨k + 1, by omega, by go_num, HD⟩
      case measure => simp [intOf]; omega
    · obtain rfl : k = L.length := by omega
      have HAA := Lib.hid (HAw.out _ hS.out.2.2)
      go_wp2_with fail
      refine (HAA.out).mono ?_; rintro r w5 ⟨rfl, hb5⟩
      go_wp2_with fail
      go_ret
      exact ⟨rfl, below_then hS.out.2.2 hb5⟩
theorem walk (a0 : Option Addr) (len0 cap0 : Nat) (z0 : List Int) (w : World) (g0 : Given .u8 w (.slice a0 len0 cap0) z0) (m0 : len0 ≤ 9223372036854775807) (hT : Fours w) :
    Calls Tryd.prog 4 #[.slice a0 len0 cap0] w fun e w' => e = .returned (.bool true) ∧ Below w.heap.size w w' := by
  have hl := len_max g0
  by_cases h : 3000 < len0
  · exact walk_out a0 len0 cap0 w h hT
  · subst hl
    exact walk_main a0 cap0 z0 w g0.1 g0.byt (by omega) hT
set_option maxRecDepth 100000 in
theorem lifted (os : Os) (started : os.Started) (H : Type) (enc : TypeId × Value → H) :
    ReturnsInHanded {} Tryd.checked os 4 .any (fun w args => (Rows.frameGetsSpec.pre enc Tryd.prog Tryd.f4 [] false w args ∧ laidMetH Tryd.prog laid6 w) ∧ sizedMet enc Tryd.prog Tryd.f4 (OpenSpec.ofChange Rows.frameGetsSpec) false w args)
      (Rows.frameGetsSpec.post enc Tryd.prog Tryd.f4 false true false false) := by
  refine returnsInHanded_of_change_and (C := Tryd.checked) (X := fun w _ => laidMetH Tryd.prog laid6 w) (fun _ _ _ hh h => h.of_heap hh) own2 started (by kernel_rfl) Tryd.func4
    (ChangeSpec.witness_shaped (enc := enc) (C := Tryd.checked) (os := os) (X := fun w _ => laidMetH Tryd.prog laid6 w) false (World.doorLaid Tryd.prog 400 os) #[.slice none 0 0] 8 rfl (World.shaped_of_RefB (by kernel_rfl) (by kernel_rfl)) (by kernel_rfl) (by kernel_rfl) (by kernel_rfl) (door_met6 os _)) ?_
  intro W base args ds gs before hval0 hW _ _ hL _
  have hTab := fours_of hL
  have hval : ∀ (j : Nat) t v, Tryd.f4.params[j]? = some t → args[j]? = some v → Value.okWide Tryd.prog W .any base t v := hval0
  have hW' := hW
  obtain ⟨p, q, hA0, hV, rfl, hfz, hnd⟩ := hW
  have hA : DataW.TrodAll enc Tryd.prog W 0 (fun _ => true) true Tryd.f4.params.toList args.toList ds p := hA0
  rw [Tryd.params4] at hA hval
  obtain ⟨v0, vs0, d0, ds0, p0, q0, hargs, rfl, rfl, h0, r0⟩ := trodAll_cons hA
  obtain ⟨rfl, rfl, rfl⟩ := trodAll_nil r0
  obtain rfl : args = #[v0] := by cases args; simp_all
  obtain ⟨rfl, rfl⟩ := trodVars_none hV
  obtain ⟨a0, len0, cap0, rfl⟩ := okWide_slice Tryd.underlying22 (hval 0 22 v0 rfl rfl)
  have k0 := h0
  have lt0 : ∀ x ∈ p0, x.block < W.heap.size := by obtain ⟨m, hm⟩ := k0; exact DataW.trod_lt m _ _ _ hm
  obtain ⟨z0, w0, m0⟩ : ∃ zs, Given .u8 W (.slice a0 len0 cap0) zs ∧ len0 ≤ 9223372036854775807 := by
    obtain ⟨fuel, hf⟩ := h0
    rcases open_ints Tryd.underlying22 Tryd.underlying5 (by kernel_rfl) hf with ⟨hcs, _⟩ | ⟨x, l, c, zs, hcs, _, hl, hm, hz, _, hcell, hwz⟩
    · simp [Value.cells] at hcs
      obtain ⟨rfl, rfl, rfl⟩ := hcs
      exact ⟨[], given_nil, by decide⟩
    · simp [Value.cells] at hcs
      obtain ⟨rfl, rfl, rfl⟩ := hcs
      exact ⟨_, given_row hl (by simpa using hz) hcell hwz, by unfold maxLen at hm; omega⟩
  clear hA0 hval0
  refine (walk a0 len0 cap0 z0 W w0 m0 hTab).mono fun e W' ⟨he, bel⟩ => ?_
  subst he
  exact ⟨_, rfl, _, _, _, [], _, [], hW', trodAll_mk1 (shut_bool Tryd.underlying4 _), (trodAll_cons_mk (Below.trod laidOut2 (by kernel_rfl) (of_decide_eq_true (by kernel_rfl)) k0 bel lt0) trodAll_mk0), rfl, bel.frame _, fun h => by cases h⟩

theorem over : Rows.frameGetsRow.holds Tryd.pinned (OpenSpec.ofChange Rows.frameGetsSpec) :=
  OpenClaim.holds_of_wide 4 Tryd.f4 rfl rfl rfl rfl rfl rfl rfl ⟨rfl, rfl, rfl, rfl, rfl⟩ rfl rfl rfl rfl rfl (by kernel_rfl) Tryd.func4 (by kernel_rfl)
    (of_decide_eq_true (by kernel_rfl)) (by unfold Func.isWrapper; first | (rw [if_pos (by decide +kernel)]; kernel_rfl) | (rw [if_neg (by decide +kernel)]; exact ⟨rfl, rfl⟩))
    (fun os started H enc _ => lifted os started H enc)
theorem row_holds : Rows.FrameGetsSaid := over
end Go.Proofs.YtacogaeciodjeaaDoor.frameGets
namespace Go.Proofs.YtacogaeciodjeaaDoor
/-- The statement: the tied card. -/
theorem frameGets_holds : Rows.FrameGetsCardSaid :=
  Claim7.holds_tied_plain_at .later [] [.data] true _ false
    frameGets.row_holds (fun _ h => by cases h) (by kernel_rfl) (fun _ h => by cases h) frameGets_row_tie rfl ⟨rfl, rfl⟩ (by kernel_rfl) rfl
    (fun f fn hf hfn => by
      obtain rfl : f = 4 := Option.some.inj ((show Tryd.prog.funcNamed "bushel/bushellaw09.FrameGets" = some 4 by kernel_rfl).symm.trans hf) |>.symm
      obtain rfl : fn = Tryd.f4 := (Option.some.inj (Tryd.func4.symm.trans hfn)).symm
      exact ⟨by kernel_rfl, fun j t ht => by
        rw [Tryd.params4] at ht
        have hm : t ∈ [22] := by simpa using Array.mem_of_getElem? ht
        have hall : ([22].all fun u => !Tryd.prog.wantsStandIn u) = true := by kernel_rfl
        exact (show Tryd.prog.wantsStandIn t = false by simpa using List.all_eq_true.1 hall t hm)⟩)
    (by kernel_rfl)
#print axioms frameGets_holds
end Go.Proofs.YtacogaeciodjeaaDoor
