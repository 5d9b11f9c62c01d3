/- CrcJoins: for any bytes, any cut and any number of noughts the statement's function returns true and changes nothing that was there. No condition; the row lists the package's table as the program's text lays it. -/
import Derived.Test.YtagogjdibbckkaaDoorCrce
import Derived.Deep.RegionHeld3
namespace Go.Proofs.YtagogjdibbckkaaDoor.crcJoins
set_option maxRecDepth 100000
open Go.ChangeShapes Go.WideShapes Go.ChangeAt Go.RowKit
set_option linter.unusedVariables false
theorem elem_u8 : Tryd.prog.elem 22 = 5 := by kernel_rfl
theorem under_u8 : Tryd.prog.underlying 22 = some (.slice (Tryd.prog.elem 22)) := by kernel_rfl
theorem slice_take {w : World} {a : Option Addr} {len cap : Nat} {zs : List Int} {k : Nat} (h : Ints .u8 w (.slice a len cap) zs) (hk : k ≤ zs.length) :
    ∃ p c, (∀ w', (Instr.slice 22 (.slice a len cap) none (some (.int .i64 (k : Int))) none).run Tryd.prog w' = .ok (.slice p k c) w') ∧ Ints .u8 w (.slice p k c) (zs.take k) := by
  obtain ⟨i0, hi, hz0, hz1, hz2⟩ := info_parts Tryd.infoU8
  have hc : zs.length ≤ cap := by obtain ⟨_, _, e, h2, _⟩ := h; simp at e; rw [e.2.2]; exact h2
  refine ⟨if cap = 0 then a else a.map (·.add (0 * 1)), cap, fun w' => ?_, ?_⟩
  · rw [run_slice_h w' _ a len cap under_u8 .i64 (k : Int) (by omega) (by omega), elem_u8]
    simp [sizeOf, typeInfo, hi, hz1, sliced, Result.andThen]
  · have e : (if cap = 0 then a else a.map (·.add (0 * 1))) = a := by
      split
      · rfl
      · cases a <;> simp [Addr.add]
    rw [e]; exact h.take hk
theorem slice_drop {w : World} {a : Option Addr} {len cap : Nat} {zs : List Int} {k : Nat} (h : Ints .u8 w (.slice a len cap) zs) (hk : k ≤ zs.length) :
    ∃ p c, (∀ w', (Instr.slice 22 (.slice a len cap) (some (.int .i64 (k : Int))) none none).run Tryd.prog w' = .ok (.slice p (len - k) c) w') ∧ Ints .u8 w (.slice p (len - k) c) (zs.drop k) := by
  obtain ⟨i0, hi, hz0, hz1, hz2⟩ := info_parts Tryd.infoU8
  obtain ⟨a', cap', e, hc, ha⟩ := h
  simp only [Value.slice.injEq] at e
  obtain ⟨rfl, rfl, rfl⟩ := e
  refine ⟨if cap = k then a else a.map (·.add (k * 1)), cap - k, fun w' => ?_, ?_⟩
  · rw [run_slice_l w' _ a zs.length cap under_u8 .i64 (k : Int) (by omega) (by omega), elem_u8]
    simp [sizeOf, typeInfo, hi, hz1, sliced, Result.andThen]
  · refine ⟨_, _, by rw [List.length_drop], by rw [List.length_drop]; omega, ?_⟩
    rcases ha with h0 | ⟨b, off, rfl, hb, hcell⟩
    · left; rw [h0]; simp
    · by_cases hd : zs.length = k
      · left; rw [← hd]; simp
      · right
        refine ⟨b, off + k, ?_, hb, fun i hi => ?_⟩
        · rw [if_neg (by omega)]
          by_cases hk0 : k = 0
          · subst hk0; simp [Addr.add]
          · simp [Addr.add, hk0]
        · rw [List.length_drop] at hi
          have := hcell (k + i) (by omega)
          rw [← Nat.add_assoc] at this
          rw [this]; simp [List.getD]
set_option maxHeartbeats 1000000 in
theorem walk_long (a0 : Option Addr) (len0 cap0 : Nat) (c n : Int) (w : World) (h : 5000 < len0) (hT : Fours w) :
    Calls Tryd.prog 4 #[.slice a0 len0 cap0, .int .i64 c, .int .i64 n] w fun e w' => e = .returned (.bool true) ∧ Below w.heap.size w w' := by
  go_enter Tryd.func4, Tryd.ntmps4
  go_wp2_with fail
  refine (awake6_any w hT).mono ?_; rintro e w' ⟨rfl, hb⟩
  go_wp2_with fail
  go_ret
  exact ⟨rfl, hb⟩
theorem join_parts {z : List Int} (hz : Byt z) (k : Nat) : passN (z.length - k) (moreN 0 (z.take k)) ^^^ moreN 0 (z.drop k) = moreN 0 z := by
  have h := join_eq (moreN 0 (z.take k)) (z.drop k) (more_lt _ _) (byt_drop hz k)
  rw [List.length_drop] at h
  rw [h, more_more 0 _ _ (by decide) (byt_take hz k), List.take_append_drop]
set_option maxHeartbeats 2000000 in
theorem walk_short (a0 : Option Addr) (len0 cap0 : Nat) (z0 : List Int) (c n : Int) (w : World) (g0 : Ints .u8 w (.slice a0 len0 cap0) z0) (hb : Byt z0) (l0 : z0.length = len0) (hl : len0 ≤ 5000) (c1 : -9223372036854775808 ≤ c) (c2 : c ≤ 9223372036854775807) (n1 : -9223372036854775808 ≤ n) (n2 : n ≤ 9223372036854775807) (hT : Fours w) :
    Calls Tryd.prog 4 #[.slice a0 len0 cap0, .int .i64 c, .int .i64 n] w fun e w' => e = .returned (.bool true) ∧ Below w.heap.size w w' := by
  obtain ⟨C, hC, hC1, hC2⟩ : ∃ C : Int, (if c < 0 then 0 else c) = C ∧ 0 ≤ C ∧ C ≤ 9223372036854775807 := ⟨_, rfl, by split <;> omega, by split <;> omega⟩
  obtain ⟨k, hkk, hk⟩ : ∃ k : Nat, (if (len0 : Int) < C then (len0 : Int) else C) = (k : Int) ∧ k ≤ len0 := ⟨(if (len0 : Int) < C then (len0 : Int) else C).toNat, by split <;> omega, by split <;> omega⟩
  obtain ⟨p1, q1, hs1, g1⟩ := slice_take (k := k) g0 (by omega)
  obtain ⟨p2, q2, hs2, g2⟩ := slice_drop (k := k) g0 (by omega)
  have hlt : (z0.take k).length = k := by rw [List.length_take]; omega
  have hld : (z0.drop k).length = len0 - k := by rw [List.length_drop, l0]
  have R1 := Lib.hid (fun w1 (h : Below w.heap.size w w1) => rsum_any _ _ w1 (g1.below h) (byt_take hb k) (by omega))
  have R2 := Lib.hid (fun w1 (h : Below w.heap.size w w1) => rsum_any _ _ w1 (g2.below h) (byt_drop hb k) (by omega))
  have R3 := Lib.hid (fun w1 (h : Below w.heap.size w w1) => rsum_any _ _ w1 (g0.below h) hb (by omega))
  have R4 := Lib.hid (fun w1 (h : Below w.heap.size w w1) => join_any (moreN 0 (z0.take k)) (moreN 0 (z0.drop k)) ((len0 : Int) - (k : Int)) w1 (more_lt _ _) (more_lt _ _) (by omega) (by omega) (hT.call h))
  have HB := Lib.hid hb
  have HT := Lib.hid hT
  have HL := Lib.hid l0
  have hj := join_parts hb k
  rw [l0] at hj
  rw [show ((len0 : Int) - (k : Int)).toNat = len0 - k by omega, hj] at R4
  have HG := Lib.hid g0
  have H1 := Lib.hid hs1
  have H2 := Lib.hid hs2
  have hx0 := more_lt 0 z0
  clear g0 g1 g2 hb hT l0 hlt hld hj hs1 hs2
  generalize moreN 0 (z0.take k) = m1 at *
  generalize moreN 0 (z0.drop k) = m2 at *
  have hkL : 0 ≤ (k : Int) ∧ (k : Int) ≤ (len0 : Int) := by omega
  go_enter Tryd.func4, Tryd.ntmps4
  go_upto_region 4 with fail
  have HC := Lib.hid hC
  clear hC hkk
  have hs1 := H1.out
  have hs2 := H2.out
  have hBw : Below w.heap.size w w.drew := (Below.refl _ _).drew
  have hw1 : IntKind.i64.wrap ((len0 : Int) - (k : Int)) = (len0 : Int) - (k : Int) := IntWalk.i64_in _ (by omega)
  have hw2 : 0 ≤ (len0 : Int) - (k : Int) := by omega
  go_region_held3 (fun _ => True) (with_reducible exact True.intro)
    (first
      | (go_at_call 9; (with_reducible refine (R1.out _ hBw).mono ?_); rintro e w3 ⟨rfl, rfl⟩)
      | (go_at_call 9; (with_reducible refine (R2.out _ hBw).mono ?_); rintro e w3 ⟨rfl, rfl⟩)
      | (go_at_call 9; (with_reducible refine (R3.out _ hBw).mono ?_); rintro e w3 ⟨rfl, rfl⟩)
      | (go_at_call 12; (with_reducible refine (R4.out _ hBw).mono ?_); rintro e w3 ⟨rfl, hb3⟩; have hBw := below_then hBw hb3))
  have HE := Lib.hid hBw
  have HA := Lib.hid (awake6_any w3 (HT.out.call hBw))
  clear hBw hw1 hw2 hs1 hs2 H1 H2 R1 R2 R4
  by_cases hn : 3000 < n
  · go_wp2_with fail
    refine (HA.out).mono ?_; rintro e w4 ⟨rfl, hb4⟩
    go_wp2_with fail
    go_ret
    exact ⟨rfl, below_then HE.out hb4⟩
  · obtain ⟨i0, hi, hz0, hz1, hz2⟩ := info_parts Tryd.infoU8
    obtain ⟨m, hm, hm2⟩ : ∃ m : Nat, (if n < 0 then 0 else n) = (m : Int) ∧ m = n.toNat := ⟨n.toNat, by split <;> omega, rfl⟩
    have hm3 : m ≤ 3000 := by omega
    have HN := Lib.hid hm2
    clear hm2
    go_wp2_with (at_make; refine wpList_make_full _ rfl _ _ 22 rfl w3.heap.size 5 i0 (.int .u8 0) 1 Tryd.underlying22 hi hz0 hz1 .i64 .i64 _ _ m rfl rfl (by simp) (by simp) (by rw [hz2]; omega) (by unfold maxLen; omega) (by simp) ?_; intro w4 hown hgrow)
    clear hm
    have hb4 : Below w3.heap.size w3 w4 := (Below.refl _ _).grown hgrow (Nat.le_refl _) (fun k hk => by cases hk)
    have HE4 := Lib.hid (below_then HE.out hb4)
    have hv : w4.ownsRow w3.heap.size 5 1 (.slice (some ⟨w3.heap.size, 0, none⟩) m m) m ((List.replicate m (0 : Int)).map (Value.int .u8)) := by
      have e : (madeCells (Value.int .u8 0).cells (m * 1)).toList = (List.replicate m (0 : Int)).map (Value.int .u8) := by
        rw [show (Value.int .u8 0).cells = #[Value.int .u8 0] from rfl, toList_madeCells_one, List.map_replicate, Nat.mul_one]
      rw [← e]; exact hown
    have hI := Ints.own hv
    have hlz : (List.replicate m (0 : Int)).length = m := List.length_replicate
    have hbz : Byt (List.replicate m (0 : Int)) := fun x hx => by rw [List.eq_of_mem_replicate hx]; omega
    have hmx := more_lt 0 z0
    have Q1 := Lib.hid (R3.out w4 HE4.out)
    have Q2 := Lib.hid (rsum_any _ _ w4 hI hbz (by omega))
    have Q3 := Lib.hid (join_any (moreN 0 z0) (moreN 0 (List.replicate m (0 : Int))) n w4 hmx (more_lt _ _) n1 n2 (HT.out.call HE4.out))
    have hj := join_eq (moreN 0 z0) (List.replicate m (0 : Int)) hmx hbz
    rw [hlz] at hj
    rw [← HN.out] at Q3
    rw [hj] at Q3
    have Q4 := Lib.hid (fun w5 (h : Below w4.heap.size w4 w5) => R3.out w5 (below_then HE4.out h))
    have Q5 := Lib.hid (fun w5 (h : Below w4.heap.size w4 w5) => rmore_any (moreN 0 z0) _ _ w5 hmx (hI.below h) hbz (by omega))
    have Q6 := Lib.hid (fun w5 (h : Below w4.heap.size w4 w5) => awake6_any w5 (HT.out.call (below_then HE4.out h)))
    clear hown hgrow hb4 hv hI hj HE HA R3 hx0
    generalize moreN (moreN 0 z0) (List.replicate m (0 : Int)) = y at *
    generalize moreN 0 (List.replicate m (0 : Int)) = y2 at *
    generalize moreN 0 z0 = y1 at *
    refine (Q1.out).mono ?_; rintro e w' ⟨rfl, rfl⟩
    go_wp2_with fail
    refine (Q2.out).mono ?_; rintro e w' ⟨rfl, rfl⟩
    go_wp2_with fail
    refine (Q3.out).mono ?_; rintro e w5 ⟨rfl, hb5⟩
    have P4 := Lib.hid (Q4.out w5 hb5)
    have P5 := Lib.hid (Q5.out w5 hb5)
    have P6 := Lib.hid (Q6.out w5 hb5)
    have HE5 := Lib.hid (below_then HE4.out hb5)
    clear hb5 Q1 Q2 Q3 Q4 Q5 Q6 HE4
    go_wp2_with fail
    refine (P4.out).mono ?_; rintro e w' ⟨rfl, rfl⟩
    go_wp2_with fail
    refine (P5.out).mono ?_; rintro e w' ⟨rfl, rfl⟩
    go_wp2_with fail
    refine (P6.out).mono ?_; rintro e w6 ⟨rfl, hb6⟩
    go_wp2_with fail
    go_ret
    exact ⟨rfl, below_then HE5.out hb6⟩
theorem walk (a0 : Option Addr) (len0 cap0 : Nat) (z0 : List Int) (a1 a2 : Int) (w : World) (g0 : Given .u8 w (.slice a0 len0 cap0) z0) (m0 : len0 ≤ 9223372036854775807) (w1 : (Lit.int .i64 a1).wf = true) (w2 : (Lit.int .i64 a2).wf = true) (hT : Fours w) :
    Calls Tryd.prog 4 #[.slice a0 len0 cap0, .int .i64 a1, .int .i64 a2] w fun e w' => e = .returned (.bool true) ∧ Below w.heap.size w w' := by
  have h1 : -9223372036854775808 ≤ a1 ∧ a1 ≤ 9223372036854775807 := by simp [Lit.wf, IntKind.min, IntKind.max, IntKind.signed, IntKind.bits] at w1; omega
  have h2 : -9223372036854775808 ≤ a2 ∧ a2 ≤ 9223372036854775807 := by simp [Lit.wf, IntKind.min, IntKind.max, IntKind.signed, IntKind.bits] at w2; omega
  have hl := len_max g0
  by_cases h : len0 ≤ 5000
  · exact walk_short a0 len0 cap0 z0 a1 a2 w g0.1 g0.byt hl h h1.1 h1.2 h2.1 h2.2 hT
  · exact walk_long a0 len0 cap0 a1 a2 w (by omega) hT
set_option maxRecDepth 100000 in
theorem lifted (os : Os) (started : os.Started) (H : Type) (enc : TypeId × Value → H) :
    ReturnsInHanded {} Tryd.checked os 4 .any (fun w args => (Rows.crcJoinsSpec.pre enc Tryd.prog Tryd.f4 [] false w args ∧ laidMetH Tryd.prog laid6 w) ∧ sizedMet enc Tryd.prog Tryd.f4 (OpenSpec.ofChange Rows.crcJoinsSpec) false w args)
      (Rows.crcJoinsSpec.post enc Tryd.prog Tryd.f4 false true false false) := by
  refine returnsInHanded_of_change_and (C := Tryd.checked) (X := fun w _ => laidMetH Tryd.prog laid6 w) (fun _ _ _ hh h => h.of_heap hh) own2 started (by kernel_rfl) Tryd.func4
    (ChangeSpec.witness_shaped (enc := enc) (C := Tryd.checked) (os := os) (X := fun w _ => laidMetH Tryd.prog laid6 w) false (World.doorLaid Tryd.prog 400 os) #[.slice none 0 0, .int .i64 0, .int .i64 0] 8 rfl (World.shaped_of_RefB (by kernel_rfl) (by kernel_rfl)) (by kernel_rfl) (by kernel_rfl) (by kernel_rfl) (door_met6 os _)) ?_
  intro W base args ds gs before hval0 hW _ _ hL _
  have hTab := fours_of hL
  have hval : ∀ (j : Nat) t v, Tryd.f4.params[j]? = some t → args[j]? = some v → Value.okWide Tryd.prog W .any base t v := hval0
  have hW' := hW
  obtain ⟨p, q, hA0, hV, rfl, hfz, hnd⟩ := hW
  have hA : DataW.TrodAll enc Tryd.prog W 0 (fun _ => true) true Tryd.f4.params.toList args.toList ds p := hA0
  rw [Tryd.params4] at hA hval
  obtain ⟨v0, vs0, d0, ds0, p0, q0, hargs, rfl, rfl, h0, r0⟩ := trodAll_cons hA
  obtain ⟨v1, vs1, d1, ds1, p1, q1, rfl, rfl, rfl, h1, r1⟩ := trodAll_cons r0
  obtain ⟨v2, vs2, d2, ds2, p2, q2, rfl, rfl, rfl, h2, r2⟩ := trodAll_cons r1
  obtain ⟨rfl, rfl, rfl⟩ := trodAll_nil r2
  obtain rfl : args = #[v0, v1, v2] := by cases args; simp_all
  obtain ⟨rfl, rfl⟩ := trodVars_none hV
  obtain ⟨a0, len0, cap0, rfl⟩ := okWide_slice Tryd.underlying22 (hval 0 22 v0 rfl rfl)
  have k0 := h0
  have lt0 : ∀ x ∈ p0, x.block < W.heap.size := by obtain ⟨m, hm⟩ := k0; exact DataW.trod_lt m _ _ _ hm
  obtain ⟨z0, w0, m0⟩ : ∃ zs, Given .u8 W (.slice a0 len0 cap0) zs ∧ len0 ≤ 9223372036854775807 := by
    obtain ⟨fuel, hf⟩ := h0
    rcases open_ints Tryd.underlying22 Tryd.underlying5 (by kernel_rfl) hf with ⟨hcs, _⟩ | ⟨x, l, c, zs, hcs, _, hl, hm, hz, _, hcell, hwz⟩
    · simp [Value.cells] at hcs
      obtain ⟨rfl, rfl, rfl⟩ := hcs
      exact ⟨[], given_nil, by decide⟩
    · simp [Value.cells] at hcs
      obtain ⟨rfl, rfl, rfl⟩ := hcs
      exact ⟨_, given_row hl (by simpa using hz) hcell hwz, by unfold maxLen at hm; omega⟩
  obtain ⟨a1, rfl, rfl, rfl, w1⟩ := open_int Tryd.underlying3 (hval 1 3 v1 rfl rfl) h1
  obtain ⟨a2, rfl, rfl, rfl, w2⟩ := open_int Tryd.underlying3 (hval 2 3 v2 rfl rfl) h2
  clear hA0 hval0
  refine (walk a0 len0 cap0 z0 a1 a2 W w0 m0 w1 w2 hTab).mono fun e W' ⟨he, bel⟩ => ?_
  subst he
  exact ⟨_, rfl, _, _, _, [], _, [], hW', trodAll_mk1 (shut_bool Tryd.underlying4 _), (trodAll_cons_mk (Below.trod laidOut2 (by kernel_rfl) (of_decide_eq_true (by kernel_rfl)) k0 bel lt0) (trodAll_cons_mk (shut_int Tryd.underlying3 w1) (trodAll_cons_mk (shut_int Tryd.underlying3 w2) trodAll_mk0))), rfl, bel.frame _, fun h => by cases h⟩

theorem over : Rows.crcJoinsRow.holds Tryd.pinned (OpenSpec.ofChange Rows.crcJoinsSpec) :=
  OpenClaim.holds_of_wide 4 Tryd.f4 rfl rfl rfl rfl rfl rfl rfl ⟨rfl, rfl, rfl, rfl, rfl⟩ rfl rfl rfl rfl rfl (by kernel_rfl) Tryd.func4 (by kernel_rfl)
    (of_decide_eq_true (by kernel_rfl)) (by unfold Func.isWrapper; first | (rw [if_pos (by decide +kernel)]; kernel_rfl) | (rw [if_neg (by decide +kernel)]; exact ⟨rfl, rfl⟩))
    (fun os started H enc _ => lifted os started H enc)
theorem row_holds : Rows.CrcJoinsSaid := over
end Go.Proofs.YtagogjdibbckkaaDoor.crcJoins
namespace Go.Proofs.YtagogjdibbckkaaDoor
/-- The statement: the tied card. -/
theorem crcJoins_holds : Rows.CrcJoinsCardSaid :=
  Claim7.holds_tied_plain_at .later [] [.data] true _ false
    crcJoins.row_holds (fun _ h => by cases h) (by kernel_rfl) (fun _ h => by cases h) crcJoins_row_tie rfl ⟨rfl, rfl⟩ (by kernel_rfl) rfl
    (fun f fn hf hfn => by
      obtain rfl : f = 4 := Option.some.inj ((show Tryd.prog.funcNamed "bushel/bushellaw06.CrcJoins" = some 4 by kernel_rfl).symm.trans hf) |>.symm
      obtain rfl : fn = Tryd.f4 := (Option.some.inj (Tryd.func4.symm.trans hfn)).symm
      exact ⟨by kernel_rfl, fun j t ht => by
        rw [Tryd.params4] at ht
        have hm : t ∈ [22, 3, 3] := by simpa using Array.mem_of_getElem? ht
        have hall : ([22, 3, 3].all fun u => !Tryd.prog.wantsStandIn u) = true := by kernel_rfl
        exact (show Tryd.prog.wantsStandIn t = false by simpa using List.all_eq_true.1 hall t hm)⟩)
    (by kernel_rfl)
#print axioms crcJoins_holds
end Go.Proofs.YtagogjdibbckkaaDoor
