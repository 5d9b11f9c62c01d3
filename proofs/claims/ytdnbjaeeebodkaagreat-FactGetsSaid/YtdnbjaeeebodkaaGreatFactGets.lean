/- FactGets: for any schema and any bytes the statement's function returns true and changes nothing that was there. No condition. -/
import Derived.Test.YtdnbjaeeebodkaaGreatFacx
import Derived.Test.YtdnbjaeeebodkaaGreatFaci
import Derived.Test.YtdnbjaeeebodkaaGreatFacm
import Derived.ProofKit
import Derived.Deep.RegionHeld3
namespace Go.Proofs.YtdnbjaeeebodkaaGreat.factGets
set_option maxRecDepth 100000
open Go.ChangeShapes Go.WideShapes Go.ChangeAt Go.RowKit Go.Deep
set_option linter.unusedVariables false
theorem own : ownKnob Tryz.prog.godebug = none := by kernel_rfl
theorem laidOut : laidOutB Tryz.prog = true := by kernel_rfl
theorem bytes_of {H : Type} {enc : TypeId × Value → H} {w : World} {base : Nat} {spare : Nat → Bool} {held : Bool} {v : Value} {d : DataW H} {p : List MemPlace}
    (h : DataW.Trod enc Tryz.prog w base spare held 27 v d p) (hs : ∃ a l c, v = .slice a l c) :
    ∃ b, Ints .u8 w v b ∧ Bt b := by
  obtain ⟨a, l, c, rfl⟩ := hs
  obtain ⟨fuel, h⟩ := h
  rcases open_ints Tryz.underlying27 Tryz.underlying5 (by kernel_rfl) h with ⟨hcs, _⟩ | ⟨x, l, c, zs, hcs, _, hl, hm, hz, _, hcell, hwz⟩
  · simp [Value.cells] at hcs
    obtain ⟨rfl, rfl, rfl⟩ := hcs
    exact ⟨[], ⟨none, 0, rfl, by simp, .inl rfl⟩, fun _ h => by cases h⟩
  · simp [Value.cells] at hcs
    obtain ⟨rfl, rfl, rfl⟩ := hcs
    have hlz : l ≤ zs.length := by rw [hz]; split <;> omega
    have ht : (zs.take l).length = l := by rw [List.length_take]; omega
    refine ⟨zs.take l, ⟨some x, c, by rw [ht], by omega, ?_⟩, fun n hn => ?_⟩
    · by_cases h0 : l = 0
      · subst h0; exact .inl (by simp)
      · refine .inr ?_
        obtain ⟨b, off, spot⟩ := x
        have hc := hcell 0 (by omega)
        have hspot : spot = none := by simpa [Addr.add] using World.cell?_spot hc
        subst hspot
        refine ⟨b, off, rfl, World.block_lt_of_cell? w _ hc, fun i hi => ?_⟩
        rw [ht] at hi
        have e : (zs.take l).getD i 0 = zs.getD i 0 := by simp [List.getD, hi]
        rw [e]
        have hh := hcell i (by omega)
        by_cases h0 : i = 0
        · subst h0; simpa [Addr.add] using hh
        · simpa [Addr.add, h0] using hh
    · have := hwz n (List.mem_of_mem_take hn)
      simp [Lit.wf, IntKind.min, IntKind.max, IntKind.signed, IntKind.bits] at this
      omega
/-- What both sides got. -/
theorem both {S : Sc} {b : List Int} {l : List Fa} (hb : Bt b) (hk : l.map keyF = (getGF S b).map keyF) (hn : ∀ f ∈ l, ∀ x ∈ f.ns, W64 x) :
    (∀ f ∈ getGF S b, Small f) ∧ (∀ f ∈ l, Small f) ∧ sameFs (getGF S b) l = true := by
  have h1 : ∀ f ∈ getGF S b, Small f := fun f hf => by
    unfold getGF at hf
    by_cases he : getGE S b = 0
    · rw [if_pos he] at hf
      have hc : checkL S = 0 := by
        unfold getGE at he
        by_cases q : checkL S = 0
        · exact q
        · rw [if_pos q] at he; simp at he
      exact rdB_small hb hc f hf
    · rw [if_neg he] at hf; simp at hf
  refine ⟨h1, smalls_key hk h1 hn, ?_⟩
  unfold sameFs
  rw [decide_eq_true_iff]
  exact hk.symm
theorem bytes_back {S : Sc} {b : List Int} {l : List Fa} (hb : Bt b) (he : getGE S b = 0) (hk : l.map keyF = (getGF S b).map keyF) : encFs l = b ∧ l.length ≤ 200 := by
  have hg : getGF S b = (rdB b (mostsS S) S.is.length S.ns.length).1 := by unfold getGF; rw [if_pos he]
  have hc : getBE b (mostsS S) S.is.length S.ns.length = 0 := by
    unfold getGE at he
    by_cases q : checkL S = 0
    · rw [if_neg (by omega)] at he; exact he
    · rw [if_pos q] at he; simp at he
  obtain ⟨e1, e2, e3⟩ := rdB_enc hb hc
  have hl : l.length = (getGF S b).length := by have := congrArg List.length hk; simpa using this
  exact ⟨by rw [encFs_key hk, hg]; exact e1, by rw [hl, hg]; exact e3⟩
set_option maxHeartbeats 4000000 in
theorem walk_out (D I M V : Value) (S : Sc) (v : Value) (b : List Int) (w : World) (h : Sch4 w D I M V S) (hv : Ints .u8 w v b) (hl : 3000 < b.length) :
    Calls Tryz.prog 3 #[SchV D I M V, v] w fun e w' => e = .returned (.bool true) ∧ Below w.heap.size w w' := by
  have HA := Lib.hid (fun w => fawake_any w)
  have HB0 := Lib.hid (below_one w (SchO D I M V))
  have HX := Lib.hid (box_new w D I M V)
  have HL := Lib.hid (fun w1 (hb : Below w.heap.size w w1) => slight_any w1 D I M V S (h.below hb))
  obtain ⟨⟨a, c, rfl⟩, ⟨a2, c2, rfl⟩, ⟨a3, c3, rfl⟩, a4, c4, rfl⟩ := h.slices
  obtain ⟨va, vc, rfl, -, -⟩ := hv
  have hm : (3000 : Int) < (b.length : Int) := by omega
  have hm1 : decide ((3000 : Int) < (b.length : Int)) = true := decide_eq_true hm
  clear h hl hm
  go_enter Tryz.func3, Tryz.ntmps3
  go_wp2_with fail
  refine (HL.out _ HB0.out).mono ?_; rintro e w1 ⟨⟨bl, rfl⟩, hb⟩
  have HB1 := Lib.hid (below_then HB0.out hb)
  have HX1 := Lib.hid (HX.out.below hb)
  clear hb
  cases bl with
  | false =>
    go_wp2_with fail
    refine (HA.out _).mono ?_; rintro e w2 ⟨rfl, hb⟩
    have HB2 := Lib.hid (below_then HB1.out hb)
    clear hb
    go_wp2_with fail
    go_ret
    exact ⟨rfl, HB2.out⟩
  | true =>
    go_wp2_with fail
    refine (HA.out _).mono ?_; rintro e w2 ⟨rfl, hb⟩
    have HB2 := Lib.hid (below_then HB1.out hb)
    clear hb
    go_wp2_with fail
    go_ret
    exact ⟨rfl, HB2.out⟩
set_option maxHeartbeats 16000000 in
theorem walk_some (D I M V : Value) (S : Sc) (v : Value) (b : List Int) (w : World) (h : Sch4 w D I M V S) (hw : SWf S) (hv : Ints .u8 w v b) (hb : Bt b) (hl : ¬ 3000 < b.length) :
    Calls Tryz.prog 3 #[SchV D I M V, v] w fun e w' => e = .returned (.bool true) ∧ Below w.heap.size w w' := by
  have HA := Lib.hid (fun w => fawake_any w)
  have HB0 := Lib.hid (below_one w (SchO D I M V))
  have HX := Lib.hid (box_new w D I M V)
  have HL := Lib.hid (fun w1 (hb : Below w.heap.size w w1) => slight_any w1 D I M V S (h.below hb))
  have HG := Lib.hid (fun w1 (hb1 : Below w.heap.size w w1) => fget_any w1 D I M V v S b (h.below hb1) hw (hv.below hb1) hb (by omega))
  have HR := Lib.hid (fun w1 (hb1 : Below w.heap.size w w1) => rfget_any w1 D I M V v S b (h.below hb1) hw (hv.below hb1) hb (by omega))
  have HBo := Lib.hid (fun l h1 h2 => both (S := S) (b := b) (l := l) hb h1 h2)
  have HBk := Lib.hid (fun l he h1 => bytes_back (S := S) (b := b) (l := l) hb he h1)
  have HS := Lib.hid (fun w1 u u' l (h1 : Facts w1 u (getGF S b)) (h2 : Facts w1 u' l) (hk : l.map keyF = (getGF S b).map keyF) (hn : ∀ f ∈ l, ∀ x ∈ f.ns, W64 x) => rall_any w1 u u' (getGF S b) l h1 h2 (fun f hf => ((both hb hk hn).1 f hf).wf) (fun f hf => ((both hb hk hn).2.1 f hf).wf))
  have HQ := Lib.hid (fun w1 u l (h2 : Facts w1 u l) (hs : ∀ f ∈ l, Small f) (hl : l.length ≤ 200) => rfput_any w1 u l h2 hs hl)
  have HV := Lib.hid (fun w1 (hb1 : Below w.heap.size w w1) => hv.below hb1)
  have HC := Lib.hid (fun w1 u (hu : Ints .u8 w1 u b) => conv_ints hu hb)
  unfold GotF at HG
  unfold GotR at HR
  unfold BytesP BytesB at HQ
  have hq : ((strB b).toList == (strB b).toList) = true := by simp
  obtain ⟨⟨a, c, rfl⟩, ⟨a2, c2, rfl⟩, ⟨a3, c3, rfl⟩, a4, c4, rfl⟩ := h.slices
  obtain ⟨va, vc, rfl, -, -⟩ := id hv
  have hm : ¬ (3000 : Int) < (b.length : Int) := by omega
  have hm1 : decide ((3000 : Int) < (b.length : Int)) = false := decide_eq_false hm
  have eG : (((getGE S b : Nat) : Int) != ((getGE S b : Nat) : Int)) = false := by simp
  have HGE := Lib.hid (show getGE S b = 0 ∨ ((getGE S b : Nat) : Int) ≠ 0 by omega)
  generalize strB b = sb at *
  generalize getGE S b = GE at *
  generalize getGF S b = GF at *
  clear h hw hv hb hl hm
  go_enter Tryz.func3, Tryz.ntmps3
  go_wp2_with fail
  refine (HL.out _ HB0.out).mono ?_; rintro e w1 ⟨⟨bl, rfl⟩, hb⟩
  have HB1 := Lib.hid (below_then HB0.out hb)
  have HX1 := Lib.hid (HX.out.below hb)
  clear hb
  cases bl with
  | false =>
    go_wp2_with fail
    refine (HA.out _).mono ?_; rintro e w2 ⟨rfl, hb⟩
    have HB2 := Lib.hid (below_then HB1.out hb)
    clear hb
    go_wp2_with fail
    go_ret
    exact ⟨rfl, HB2.out⟩
  | true =>
    obtain ⟨x0, x1, x2, x3⟩ := HX1.out.reads
    go_wp2_with fail
    refine (HG.out _ HB1.out).mono ?_; rintro e w2 ⟨⟨u, rfl, hu⟩, hb⟩
    have HB2 := Lib.hid (below_then HB1.out hb)
    have HX2 := Lib.hid (HX1.out.below hb)
    have HU2 := Lib.hid hu
    obtain ⟨ua, uc, rfl⟩ := facts_slice hu
    clear hb hu x0 x1 x2 x3
    obtain ⟨x0, x1, x2, x3⟩ := HX2.out.reads
    go_wp2_with fail
    refine (HR.out _ HB2.out).mono ?_; rintro e w3 ⟨⟨r, l, rfl, hr, hk, hn⟩, hb⟩
    have HB3 := Lib.hid (below_then HB2.out hb)
    have HU3 := Lib.hid (HU2.out.below hb)
    have HR3 := Lib.hid hr
    have HK3 := Lib.hid (And.intro hk hn)
    have HO3 := Lib.hid (HBo.out l hk hn)
    have HS3 := Lib.hid (HS.out _ _ _ _ HU3.out HR3.out hk hn)
    rw [HO3.out.2.2] at HS3
    have HBk3 := Lib.hid (fun he => HBk.out l he hk)
    obtain ⟨ra, rc, rfl⟩ := facts_slice hr
    have HLs := Lib.hid (fun f hf => HO3.out.2.1 f hf)
    clear hb hr hk hn x0 x1 x2 x3 HBo HBk HS HO3
    go_wp2_with fail
    refine (HS3.out).mono ?_; rintro e w4 ⟨rfl, hb⟩
    have HB4 := Lib.hid (below_then HB3.out hb)
    have HR4 := Lib.hid (HR3.out.below hb)
    clear hb
    rcases HGE.out with hz | hz
    · obtain ⟨k1, k2⟩ := HBk3.out hz
      have HQ4 := Lib.hid (fun wy (h : Facts wy (.slice ra l.length rc) l) => HQ.out wy _ l h HLs.out k2)
      rw [k1] at HQ4
      subst hz
      clear k1 HQ
      go_upto_region 7 with fail
      have hBw : Below w.heap.size w w4.drew := HB4.out.drew
      have hR := HR4.out.below (Below.refl w4.heap.size w4).drew
      have hk := HC.out _ _ (HV.out _ hBw)
      refine wp_region_held_drew (S := fun w' => (convert 27 9 (.slice va b.length vc)).run Tryz.prog w' = .ok (.string sb) w') (by kernel_rfl) hk (fun _ => ?_)
      refine wpAnyH_take (i := 0) (oi := { dst := some 39, op := _, type := _, pos := _, after := _, guard := _ }) (v := .int .i64 0) rfl (by kernel_rfl) (by kernel_rfl) (by kernel_rfl) (fun _ _ _ h => h) (Or.inl ⟨by kernel_rfl, fun w hSw => by (try dsimp only at hSw); first | (go_simp; done) | (go_simp; rfl)⟩) hk ?_
      try simp only [Act.put, List.setIfInBounds_toArray, List.set_cons_zero, List.set_cons_succ]
      refine wpAnyH_take (i := 1) (oi := { dst := some 40, op := _, type := _, pos := _, after := _, guard := _ }) (v := .bool false) rfl (by kernel_rfl) (by kernel_rfl) (by kernel_rfl) (fun _ _ _ h => h) (Or.inl ⟨by kernel_rfl, fun w hSw => by (try dsimp only at hSw); first | (go_simp; done) | (go_simp; rfl)⟩) hk ?_
      try simp only [Act.put, List.setIfInBounds_toArray, List.set_cons_zero, List.set_cons_succ]
      refine wpAnyH_take (i := 2) (oi := { dst := some 41, op := _, type := _, pos := _, after := _, guard := _ }) (v := .bool false) rfl (by kernel_rfl) (by kernel_rfl) (by kernel_rfl) (fun _ _ _ h => h) (Or.inl ⟨by kernel_rfl, fun w hSw => by (try dsimp only at hSw); first | (go_simp; done) | (go_simp; rfl)⟩) hk ?_
      try simp only [Act.put, List.setIfInBounds_toArray, List.set_cons_zero, List.set_cons_succ]
      refine wpAnyH_take (i := 3) (oi := { dst := some 42, op := _, type := _, pos := _, after := _, guard := _ }) (v := .slice ra l.length rc) rfl (by kernel_rfl) (by kernel_rfl) (by kernel_rfl) (fun _ _ _ h => h) (Or.inl ⟨by kernel_rfl, fun w hSw => by (try dsimp only at hSw); first | (go_simp; done) | (go_simp; rfl)⟩) hk ?_
      try simp only [Act.put, List.setIfInBounds_toArray, List.set_cons_zero, List.set_cons_succ]
      refine wpAnyH_take (i := 6) (oi := { dst := some 45, op := _, type := _, pos := _, after := _, guard := _ }) (v := .slice va b.length vc) rfl (by kernel_rfl) (by kernel_rfl) (by kernel_rfl) (fun _ _ _ h => h) (Or.inl ⟨by kernel_rfl, fun w hSw => by (try dsimp only at hSw); first | (go_simp; done) | (go_simp; rfl)⟩) hk ?_
      try simp only [Act.put, List.setIfInBounds_toArray, List.set_cons_zero, List.set_cons_succ]
      refine wpAnyH_take (i := 7) (oi := { dst := some 46, op := _, type := _, pos := _, after := _, guard := _ }) (v := .string sb) rfl (by kernel_rfl) (by kernel_rfl) (by kernel_rfl) (fun _ _ _ h => h) (Or.inl ⟨by kernel_rfl, fun w hSw => by (try dsimp only at hSw); first | (go_simp; done) | (go_simp; rfl)⟩) hk ?_
      try simp only [Act.put, List.setIfInBounds_toArray, List.set_cons_zero, List.set_cons_succ]
      refine wpAnyH_ready (rs := [4]) (by kernel_rfl) (by simp) (AllReadyH.cons rfl (fun K' hK => ?_) AllReadyH.nil)
      rw [if_pos (by kernel_rfl)]
      go_simp
      go_at_call 9
      refine (HQ4.out _ hR).mono ?_; rintro r w5 ⟨⟨dd, rfl, ho⟩, hb2⟩
      have hBw := below_then hBw hb2
      have hk := HC.out _ _ (HV.out _ hBw)
      have hcv := HC.out _ _ (Ints.own ho)
      obtain ⟨da, dl, dc, rfl⟩ := own_slice3 ho
      clear ho hb2
      refine hK.out _ _ hk (fun _ => ?_)
      try simp only [Act.put, List.setIfInBounds_toArray, List.set_cons_zero, List.set_cons_succ]
      refine wpAnyH_ready (rs := [5]) (by kernel_rfl) (by simp) (AllReadyH.cons rfl (fun K' hK => ?_) AllReadyH.nil)
      rw [if_pos (by kernel_rfl)]
      go_simp
      clear hcv
      refine hK.out _ _ hk (fun _ => ?_)
      try simp only [Act.put, List.setIfInBounds_toArray, List.set_cons_zero, List.set_cons_succ]
      refine wpAnyH_take (i := 8) (oi := { dst := some 47, op := _, type := _, pos := _, after := _, guard := _ }) (v := .bool true) rfl (by kernel_rfl) (by kernel_rfl) (by kernel_rfl) (fun _ _ _ h => h) (Or.inl ⟨by kernel_rfl, fun w hSw => by (try dsimp only at hSw); first | (go_simp; done) | (go_simp; rfl)⟩) hk ?_
      try simp only [Act.put, List.setIfInBounds_toArray, List.set_cons_zero, List.set_cons_succ]
      refine wpAnyH_take (i := 9) (oi := { dst := some 48, op := _, type := _, pos := _, after := _, guard := _ }) (v := .bool true) rfl (by kernel_rfl) (by kernel_rfl) (by kernel_rfl) (fun _ _ _ h => h) (Or.inl ⟨by kernel_rfl, fun w hSw => by (try dsimp only at hSw); first | (go_simp; done) | (go_simp; rfl)⟩) hk ?_
      try simp only [Act.put, List.setIfInBounds_toArray, List.set_cons_zero, List.set_cons_succ]
      refine wpAnyH_take (i := 10) (oi := { dst := some 49, op := _, type := _, pos := _, after := _, guard := _ }) (v := .bool true) rfl (by kernel_rfl) (by kernel_rfl) (by kernel_rfl) (fun _ _ _ h => h) (Or.inl ⟨by kernel_rfl, fun w hSw => by (try dsimp only at hSw); first | (go_simp; done) | (go_simp; rfl)⟩) hk ?_
      try simp only [Act.put, List.setIfInBounds_toArray, List.set_cons_zero, List.set_cons_succ]
      refine wpAnyH_ready (rs := [11]) (by kernel_rfl) (by simp) (AllReadyH.cons rfl (fun K' hK => ?_) AllReadyH.nil)
      rw [if_pos (by kernel_rfl)]
      go_simp
      go_at_call 5
      refine (HA.out _).mono ?_; rintro r w7 ⟨rfl, hb2⟩
      have hBw := below_then hBw hb2
      have hk := HC.out _ _ (HV.out _ hBw)
      clear hb2
      refine hK.out _ _ hk (fun _ => ?_)
      try simp only [Act.put, List.setIfInBounds_toArray, List.set_cons_zero, List.set_cons_succ]
      refine wpAnyH_take (i := 12) (oi := { dst := some 51, op := _, type := _, pos := _, after := _, guard := _ }) (v := .bool true) rfl (by kernel_rfl) (by kernel_rfl) (by kernel_rfl) (fun _ _ _ h => h) (Or.inl ⟨by kernel_rfl, fun w hSw => by (try dsimp only at hSw); first | (go_simp; done) | (go_simp; rfl)⟩) hk ?_
      try simp only [Act.put, List.setIfInBounds_toArray, List.set_cons_zero, List.set_cons_succ]
      refine wpAnyH_take (i := 13) (oi := { dst := some 4, op := _, type := _, pos := _, after := _, guard := _ }) (v := .bool true) rfl (by kernel_rfl) (by kernel_rfl) (by kernel_rfl) (fun _ _ _ h => h) (Or.inl ⟨by kernel_rfl, fun w hSw => by (try dsimp only at hSw); first | (go_simp; done) | (go_simp; rfl)⟩) hk ?_
      try simp only [Act.put, List.setIfInBounds_toArray, List.set_cons_zero, List.set_cons_succ]
      refine wpAnyH_done (by kernel_rfl) ?_ _
      go_wp2_with fail
      go_ret
      exact ⟨rfl, hBw⟩
    · have e3 : (((GE : Nat) : Int) != 0) = true := by rw [bne_iff_ne]; exact hz
      generalize ((GE : Nat) : Int) = E at *
      go_upto_region 7 with fail
      have hBw : Below w.heap.size w w4.drew := HB4.out.drew
      have hk := True.intro
      refine wp_region_held_drew (S := fun _ => True) (by kernel_rfl) True.intro (fun _ => ?_)
      refine wpAnyH_take (i := 0) (oi := { dst := some 39, op := _, type := _, pos := _, after := _, guard := _ }) (v := .int .i64 E) rfl (by kernel_rfl) (by kernel_rfl) (by kernel_rfl) (fun _ _ _ h => h) (Or.inl ⟨by kernel_rfl, fun w hSw => by (try dsimp only at hSw); first | (go_simp; done) | (go_simp; rfl) | (go_simp; simp [e3])⟩) True.intro ?_
      try simp only [Act.put, List.setIfInBounds_toArray, List.set_cons_zero, List.set_cons_succ]
      refine wpAnyH_take (i := 1) (oi := { dst := some 40, op := _, type := _, pos := _, after := _, guard := _ }) (v := .bool true) rfl (by kernel_rfl) (by kernel_rfl) (by kernel_rfl) (fun _ _ _ h => h) (Or.inl ⟨by kernel_rfl, fun w hSw => by (try dsimp only at hSw); first | (go_simp; done) | (go_simp; rfl) | (go_simp; simp [e3])⟩) True.intro ?_
      try simp only [Act.put, List.setIfInBounds_toArray, List.set_cons_zero, List.set_cons_succ]
      refine wpAnyH_take (i := 2) (oi := { dst := some 41, op := _, type := _, pos := _, after := _, guard := _ }) (v := .bool true) rfl (by kernel_rfl) (by kernel_rfl) (by kernel_rfl) (fun _ _ _ h => h) (Or.inl ⟨by kernel_rfl, fun w hSw => by (try dsimp only at hSw); first | (go_simp; done) | (go_simp; rfl) | (go_simp; simp [e3])⟩) True.intro ?_
      try simp only [Act.put, List.setIfInBounds_toArray, List.set_cons_zero, List.set_cons_succ]
      refine wpAnyH_take (i := 3) (oi := { dst := some 42, op := _, type := _, pos := _, after := _, guard := _ }) (v := undef) rfl (by kernel_rfl) (by kernel_rfl) (by kernel_rfl) (fun _ _ _ h => h) (Or.inr ⟨by kernel_rfl, rfl⟩) True.intro ?_
      try simp only [Act.put, List.setIfInBounds_toArray, List.set_cons_zero, List.set_cons_succ]
      refine wpAnyH_take (i := 4) (oi := { dst := some 43, op := _, type := _, pos := _, after := _, guard := _ }) (v := undef) rfl (by kernel_rfl) (by kernel_rfl) (by kernel_rfl) (fun _ _ _ h => h) (Or.inr ⟨by kernel_rfl, rfl⟩) True.intro ?_
      try simp only [Act.put, List.setIfInBounds_toArray, List.set_cons_zero, List.set_cons_succ]
      refine wpAnyH_take (i := 5) (oi := { dst := some 44, op := _, type := _, pos := _, after := _, guard := _ }) (v := undef) rfl (by kernel_rfl) (by kernel_rfl) (by kernel_rfl) (fun _ _ _ h => h) (Or.inr ⟨by kernel_rfl, rfl⟩) True.intro ?_
      try simp only [Act.put, List.setIfInBounds_toArray, List.set_cons_zero, List.set_cons_succ]
      refine wpAnyH_take (i := 6) (oi := { dst := some 45, op := _, type := _, pos := _, after := _, guard := _ }) (v := undef) rfl (by kernel_rfl) (by kernel_rfl) (by kernel_rfl) (fun _ _ _ h => h) (Or.inr ⟨by kernel_rfl, rfl⟩) True.intro ?_
      try simp only [Act.put, List.setIfInBounds_toArray, List.set_cons_zero, List.set_cons_succ]
      refine wpAnyH_take (i := 7) (oi := { dst := some 46, op := _, type := _, pos := _, after := _, guard := _ }) (v := undef) rfl (by kernel_rfl) (by kernel_rfl) (by kernel_rfl) (fun _ _ _ h => h) (Or.inr ⟨by kernel_rfl, rfl⟩) True.intro ?_
      try simp only [Act.put, List.setIfInBounds_toArray, List.set_cons_zero, List.set_cons_succ]
      refine wpAnyH_take (i := 8) (oi := { dst := some 47, op := _, type := _, pos := _, after := _, guard := _ }) (v := undef) rfl (by kernel_rfl) (by kernel_rfl) (by kernel_rfl) (fun _ _ _ h => h) (Or.inr ⟨by kernel_rfl, rfl⟩) True.intro ?_
      try simp only [Act.put, List.setIfInBounds_toArray, List.set_cons_zero, List.set_cons_succ]
      refine wpAnyH_take (i := 9) (oi := { dst := some 48, op := _, type := _, pos := _, after := _, guard := _ }) (v := .bool true) rfl (by kernel_rfl) (by kernel_rfl) (by kernel_rfl) (fun _ _ _ h => h) (Or.inl ⟨by kernel_rfl, fun w hSw => by (try dsimp only at hSw); first | (go_simp; done) | (go_simp; rfl) | (go_simp; simp [e3])⟩) True.intro ?_
      try simp only [Act.put, List.setIfInBounds_toArray, List.set_cons_zero, List.set_cons_succ]
      refine wpAnyH_take (i := 10) (oi := { dst := some 49, op := _, type := _, pos := _, after := _, guard := _ }) (v := .bool true) rfl (by kernel_rfl) (by kernel_rfl) (by kernel_rfl) (fun _ _ _ h => h) (Or.inl ⟨by kernel_rfl, fun w hSw => by (try dsimp only at hSw); first | (go_simp; done) | (go_simp; rfl) | (go_simp; simp [e3])⟩) True.intro ?_
      try simp only [Act.put, List.setIfInBounds_toArray, List.set_cons_zero, List.set_cons_succ]
      refine wpAnyH_ready (rs := [11]) (by kernel_rfl) (by simp) (AllReadyH.cons rfl (fun K' hK => ?_) AllReadyH.nil)
      rw [if_pos (by kernel_rfl)]
      go_simp
      go_at_call 5
      refine (HA.out _).mono ?_; rintro r w7 ⟨rfl, hb2⟩
      have hBw := below_then hBw hb2
      clear hb2
      refine hK.out _ _ True.intro (fun _ => ?_)
      try simp only [Act.put, List.setIfInBounds_toArray, List.set_cons_zero, List.set_cons_succ]
      refine wpAnyH_take (i := 12) (oi := { dst := some 51, op := _, type := _, pos := _, after := _, guard := _ }) (v := .bool true) rfl (by kernel_rfl) (by kernel_rfl) (by kernel_rfl) (fun _ _ _ h => h) (Or.inl ⟨by kernel_rfl, fun w hSw => by (try dsimp only at hSw); first | (go_simp; done) | (go_simp; rfl) | (go_simp; simp [e3])⟩) True.intro ?_
      try simp only [Act.put, List.setIfInBounds_toArray, List.set_cons_zero, List.set_cons_succ]
      refine wpAnyH_take (i := 13) (oi := { dst := some 4, op := _, type := _, pos := _, after := _, guard := _ }) (v := .bool true) rfl (by kernel_rfl) (by kernel_rfl) (by kernel_rfl) (fun _ _ _ h => h) (Or.inl ⟨by kernel_rfl, fun w hSw => by (try dsimp only at hSw); first | (go_simp; done) | (go_simp; rfl) | (go_simp; simp [e3])⟩) True.intro ?_
      try simp only [Act.put, List.setIfInBounds_toArray, List.set_cons_zero, List.set_cons_succ]
      refine wpAnyH_done (by kernel_rfl) ?_ _
      go_wp2_with fail
      go_ret
      exact ⟨rfl, hBw⟩
theorem walk (D I M V : Value) (S : Sc) (v : Value) (b : List Int) (w : World) (h : Sch4 w D I M V S) (hw : SWf S) (hv : Ints .u8 w v b) (hb : Bt b) :
    Calls Tryz.prog 3 #[SchV D I M V, v] w fun e w' => e = .returned (.bool true) ∧ Below w.heap.size w w' := by
  by_cases hl : 3000 < b.length
  · exact walk_out D I M V S v b w h hv hl
  · exact walk_some D I M V S v b w h hw hv hb hl
set_option maxRecDepth 100000 in
theorem lifted (os : Os) (started : os.Started) (H : Type) (enc : TypeId × Value → H) :
    ReturnsInHanded {} Tryz.checked os 3 .any (Rows.factGetsSpec.pre6 enc Tryz.prog Tryz.f3 Rows.factGetsRow.domain false) (Rows.factGetsSpec.post enc Tryz.prog Tryz.f3 false true false false) := by
  refine returnsInHanded_of_change (C := Tryz.checked) own started (by kernel_rfl) Tryz.func3
    (ChangeSpec.witness6 (enc := enc) (C := Tryz.checked) false ⟨#[], #[.agg #[.slice none 0 0, .slice none 0 0, .slice none 0 0, .slice none 0 0], .slice none 0 0], []⟩ 8 (by kernel_rfl) (by kernel_rfl) (by kernel_rfl) (by kernel_rfl)) ?_
  intro W base args ds gs before hval0 hW hcnd _
  have hval : ∀ (j : Nat) t v, Tryz.f3.params[j]? = some t → args[j]? = some v → Value.okWide Tryz.prog W .any base t v := hval0
  have hW' := hW
  obtain ⟨p, q, hA0, hV, rfl, hfz, hnd⟩ := hW
  have hA : DataW.TrodAll enc Tryz.prog W 0 (fun _ => true) true Tryz.f3.params.toList args.toList ds p := hA0
  rw [Tryz.params3] at hA hval
  obtain ⟨v0, vs0, d0, ds0, p0, q0, hargs, rfl, rfl, h0, r0⟩ := trodAll_cons hA
  obtain ⟨v1, vs1, d1, ds1, p1, q1, rfl, rfl, rfl, h1, r1⟩ := trodAll_cons r0
  obtain ⟨rfl, rfl, rfl⟩ := trodAll_nil r1
  obtain rfl : args = #[v0, v1] := by cases args; simp_all
  obtain ⟨rfl, rfl⟩ := trodVars_none hV
  have k0 := h0
  have lt0 : ∀ x ∈ p0, x.block < W.heap.size := by obtain ⟨m, hm⟩ := k0; exact DataW.trod_lt m _ _ _ hm
  obtain ⟨D0, I0, N0, V0, S0, rfl, s0, w0⟩ := schema_of (hval 0 26 v0 rfl rfl) h0
  obtain ⟨a1, len1, cap1, rfl⟩ := okWide_slice Tryz.underlying27 (hval 1 27 v1 rfl rfl)
  have k1 := h1
  have lt1 : ∀ x ∈ p1, x.block < W.heap.size := by obtain ⟨m, hm⟩ := k1; exact DataW.trod_lt m _ _ _ hm
  obtain ⟨z1, s1, w1⟩ := bytes_of h1 ⟨_, _, _, rfl⟩
  clear hA0 hval0
  refine (walk D0 I0 N0 V0 S0 (.slice a1 len1 cap1) z1 W s0 w0 s1 w1).mono fun e W' ⟨he, bel⟩ => ?_
  subst he
  exact ⟨_, rfl, _, _, _, [], _, [], hW', trodAll_mk1 (shut_bool Tryz.underlying4 _), (trodAll_cons_mk (Below.trod laidOut (by kernel_rfl) (of_decide_eq_true (by kernel_rfl)) k0 bel lt0) (trodAll_cons_mk (Below.trod laidOut (by kernel_rfl) (of_decide_eq_true (by kernel_rfl)) k1 bel lt1) trodAll_mk0)), rfl, bel.frame _, fun h => by cases h⟩

theorem over : Rows.factGetsRow.holds Tryz.pinned (OpenSpec.ofChange Rows.factGetsSpec) :=
  OpenClaim.holds_of_wide 3 Tryz.f3 rfl rfl rfl rfl rfl rfl rfl ⟨rfl, rfl, rfl, rfl, rfl⟩ rfl rfl rfl rfl rfl (by kernel_rfl) Tryz.func3 (by kernel_rfl)
    (of_decide_eq_true (by kernel_rfl)) (by unfold Func.isWrapper; first | (rw [if_pos (by decide +kernel)]; kernel_rfl) | (rw [if_neg (by decide +kernel)]; exact ⟨rfl, rfl⟩))
    (fun os started H enc _ => lifted os started H enc)
end Go.Proofs.YtdnbjaeeebodkaaGreat.factGets
namespace Go.Proofs.YtdnbjaeeebodkaaGreat
/-- The statement. -/
theorem factGets_holds : Rows.FactGetsSaid := factGets.over
#print axioms factGets_holds
end Go.Proofs.YtdnbjaeeebodkaaGreat
