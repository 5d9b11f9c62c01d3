/- FrameFinds: for any body, any place and any change the statement's function returns true and changes nothing that was there. No condition beyond the row's own. -/
import Derived.Test.YtacogaeciodjeaaDoorFrmj
import Derived.Deep.RegionLaw
namespace Go.Proofs.YtacogaeciodjeaaDoor.frameFinds
set_option maxRecDepth 100000
open Go.ChangeShapes Go.WideShapes Go.ChangeAt Go.RowKit
set_option linter.unusedVariables false
theorem bits_xor_u8_nat (a b : Nat) (ha : a < 256) (hb : b < 256) : bits .xor .u8 (a : Int) (b : Int) = ((a ^^^ b : Nat) : Int) := by
  have hx : a ^^^ b < 2 ^ 8 := Nat.xor_lt_two_pow (by omega) (by omega)
  show IntKind.u8.wrap ((BitVec.ofInt 8 (a : Int) ^^^ BitVec.ofInt 8 (b : Int)).toNat : Int) = _
  rw [BitVec.toNat_xor, BitVec.ofInt_natCast, BitVec.ofInt_natCast, BitVec.toNat_ofNat, BitVec.toNat_ofNat, Nat.mod_eq_of_lt (by omega : a < 2 ^ 8), Nat.mod_eq_of_lt (by omega : b < 2 ^ 8), IntKind.wrap_u8]
  omega
abbrev arr4 (x0 x1 x2 x3 : Int) : Value := .agg #[.int .u8 x0, .int .u8 x1, .int .u8 x2, .int .u8 x3]
set_option maxHeartbeats 1000000 in
theorem walk_out (a0 : Option Addr) (len0 cap0 : Nat) (at0 : Int) (x0 x1 x2 x3 : Int) (w : World) (h : 2000 < len0 ∨ at0 < 0 ∨ (len0 : Int) + 3 < at0) (hT : Fours w) :
    Calls Tryd.prog 5 #[.slice a0 len0 cap0, .int .i64 at0, arr4 x0 x1 x2 x3] w fun e w' => e = .returned (.bool true) ∧ Below w.heap.size w w' := by
  have hb1 := below_one w (.cells #[.int .u8 x0, .int .u8 x1, .int .u8 x2, .int .u8 x3] 40)
  have HB := Lib.hid hb1
  have HA := Lib.hid (awake9_any _ (hT.call hb1))
  clear hb1 hT
  by_cases h1 : 2000 < len0
  · clear h
    have h2 : 2000 < (len0 : Int) := by omega
    go_enter Tryd.func5, Tryd.ntmps5
    go_wp2_with fail
    refine (HA.out).mono ?_; rintro e w' ⟨rfl, hb⟩
    go_wp2_with fail
    go_ret
    exact ⟨rfl, below_then HB.out hb⟩
  · have h2 : (len0 : Int) ≤ 2000 := by omega
    by_cases h3 : at0 < 0
    · clear h
      go_enter Tryd.func5, Tryd.ntmps5
      go_wp2_with fail
      refine (HA.out).mono ?_; rintro e w' ⟨rfl, hb⟩
      go_wp2_with fail
      go_ret
      exact ⟨rfl, below_then HB.out hb⟩
    · have h4 : (len0 : Int) + 3 < at0 := by omega
      have h5 : 0 ≤ at0 := by omega
      clear h
      go_enter Tryd.func5, Tryd.ntmps5
      go_wp2_with fail
      refine (HA.out).mono ?_; rintro e w' ⟨rfl, hb⟩
      go_wp2_with fail
      go_ret
      exact ⟨rfl, below_then HB.out hb⟩
/-- What the loop holds after k rounds. -/
def Laid (w : World) (z x : List Int) (A g n cap k : Nat) (wr : World) : Prop :=
  wr.ownsRow (w.heap.size + 1) 5 1 (.slice (some ⟨g, 0, none⟩) n cap) n ((xorAt z x A k).map (Value.int .u8)) ∧ (∀ j, j < 4 → wr.cell? ⟨w.heap.size, j, none⟩ = some (.int .u8 (x.getD j 0))) ∧ Below w.heap.size w wr
theorem Laid.drew {w : World} {z x : List Int} {A g n cap k : Nat} {wr : World} (h : Laid w z x A g n cap k wr) : Laid w z x A g n cap k wr.drew :=
  ⟨h.1, h.2.1, h.2.2.drew⟩
theorem Laid.step {w : World} {z x : List Int} {A g n cap k : Nat} {wr : World} (h : Laid w z x A g n cap k wr) {V : Nat} (hV : V = (z.getD (A + k) 0).toNat ^^^ (x.getD k 0).toNat) : Laid w z x A g n cap (k + 1) (wr.setCell ⟨g, A + k, none⟩ (.int .u8 (V : Int))) := by
  have hg := own_ge h.1 g rfl
  refine ⟨?_, fun j hj => ?_, h.2.2.setCell (by simp; omega) _⟩
  · have := (h.1.stored (A + k) (.int .u8 (V : Int))).1
    rw [xorAt, List.map_set, ← hV]; exact this
  · rw [World.cell?_setCell_far _ _ _ _ (by simp; omega)]; exact h.2.1 j hj
set_option maxHeartbeats 4000000 in
theorem walk_mid (a0 : Option Addr) (len0 cap0 at0 : Nat) (x0 x1 x2 x3 : Int) (z0 : List Int) (w : World) (g0 : Ints .u8 w (.slice a0 len0 cap0) z0) (hb : Byt z0) (hx : Byt [x0, x1, x2, x3]) (l0 : z0.length = len0) (hl : len0 ≤ 2000) (hA : at0 ≤ len0 + 3) (hT : Fours w) :
    Calls Tryd.prog 5 #[.slice a0 len0 cap0, .int .i64 at0, arr4 x0 x1 x2 x3] w fun e w' => e = .returned (.bool true) ∧ Below w.heap.size w w' := by
  have hb1 := below_one w (.cells #[.int .u8 x0, .int .u8 x1, .int .u8 x2, .int .u8 x3] 40)
  have HB1 := Lib.hid hb1
  have HC : Hid (∀ j, j < 4 → (w.alloc (.cells #[.int .u8 x0, .int .u8 x1, .int .u8 x2, .int .u8 x3] 40)).cell? ⟨w.heap.size, j, none⟩ = some (.int .u8 ([x0, x1, x2, x3].getD j 0))) := Lib.hid (fun j hj => by
    rw [cell_of_row _ _ j _ _ (0, 0) (heap_alloc_last w _)]
    have : j = 0 ∨ j = 1 ∨ j = 2 ∨ j = 3 := by omega
    rcases this with rfl | rfl | rfl | rfl <;> rfl)
  have HR := Lib.hid (rput_any _ z0 _ (g0.below hb1) hb (by omega))
  have HG := Lib.hid g0
  have HB := Lib.hid (put_byt hb)
  have HB0 := Lib.hid hb
  have HX := Lib.hid hx
  have HL := Lib.hid (show (putN z0).length = 8 + len0 by rw [put_len, l0])
  have HT := Lib.hid hT
  have HF := Lib.hid (fun k (hk : k ≤ 4) (h : (4 + at0) + k ≤ 8 + z0.length) => finds_eq (A := 4 + at0) hb hx (by omega) (by omega) h hk)
  have hs1 : (w.alloc (.cells #[.int .u8 x0, .int .u8 x1, .int .u8 x2, .int .u8 x3] 40)).heap.size = w.heap.size + 1 := by simp
  rw [l0] at HF
  have L0 := Lib.hid l0
  clear g0 hb hx l0 hT hb1
  have hd1 : decide ((2000 : Int) < (len0 : Int)) = false := by simp; omega
  have hd2 : decide ((at0 : Int) < 0) = false := by simp
  have hd3 : decide ((len0 : Int) + 3 < (at0 : Int)) = false := by simp; omega
  have hd4 : ¬ (len0 : Int) + 3 < (at0 : Int) := by omega
  have hd5 : ¬ (2000 : Int) < (len0 : Int) := by omega
  go_enter Tryd.func5, Tryd.ntmps5
  go_upto_region 3 with fail
  clear hd1 hd2 hd3 hd4 hd5
  generalize hx4 : [x0, x1, x2, x3] = x at *
  have HX4 := Lib.hid hx4
  clear hx4
  generalize w.alloc (.cells #[.int .u8 x0, .int .u8 x1, .int .u8 x2, .int .u8 x3] 40) = W at *
  unfold BytesP at HR
  rw [hs1] at HR
  go_wp2_with fail
  refine (HR.out).mono ?_; rintro e w2 ⟨⟨v2, rfl, ho⟩, hb2⟩
  obtain ⟨g, cap, rfl, hge, hlt⟩ := own_form ho (by rw [HL.out]; omega)
  have hbb : Below w.heap.size w w2 := HB1.out.trans (hb2.mono (by omega))
  have hc2 : ∀ j, j < 4 → w2.cell? ⟨w.heap.size, j, none⟩ = some (.int .u8 (x.getD j 0)) := fun j hj => by
    rw [hb2.cell (p := ⟨w.heap.size, j, none⟩) (by simp)]; exact HC.out j hj
  have HLa : Hid (Laid w (putN z0) x (4 + at0) g (8 + len0) cap 0 w2) := Lib.hid ⟨by rw [← HL.out]; exact ho, hc2, hbb⟩
  rw [HL.out]
  have HS := Lib.hid (rfl : strB z0 = strB z0)
  clear ho hb2 hbb hc2 HC HB1 hs1 hge hlt HR
  generalize putN z0 = z at *
  generalize hN : w.heap.size = N at *
  have HN := Lib.hid hN
  clear hN
  go_wp2_with fail
  go_loopw [8, 9] (fun s i wr => ∃ k : Nat, k ≤ 4 ∧ 4 + at0 + k ≤ 8 + len0 ∧ i = .int .i64 k ∧ s = .bool (zeroB x k) ∧ Hid (Laid w z x (4 + at0) g (8 + len0) cap k wr)) (fun _ i _ => 4 - (intOf i).toNat)
  case atStart => exact ⟨0, by omega, by omega, rfl, rfl, HLa⟩
  case round =>
    obtain ⟨k, hk, hAk, rfl, rfl, hH⟩ := hrel
    by_cases hin : k < 4 ∧ 4 + at0 + k < 8 + len0
    · obtain ⟨hk4, hkn⟩ := hin
      have hown := hH.out.1
      have hzl : 4 + at0 + k < z.length := by rw [HL.out]; exact hkn
      have hcy : wr.cell? ⟨g, 4 + at0 + k, none⟩ = some (.int .u8 (z.getD (4 + at0 + k) 0)) := by
        rw [hown.cellAt (4 + at0 + k) (by omega), List.getElem?_map]
        have e := xorAt_get z x (4 + at0) k (4 + at0 + k) hzl
        rw [if_neg (by omega)] at e
        have hl2 : 4 + at0 + k < (xorAt z x (4 + at0) k).length := by rw [xorAt_len]; exact hzl
        rw [← e, List.getElem?_eq_getElem hl2]
        simp [List.getD, hl2]
      have hcx := hH.out.2.1 k hk4
      rw [HN.out] at hcx
      have hfz := hown.frozenAt (4 + at0 + k)
      have hY := byt_getD HB.out (4 + at0 + k)
      have hX := byt_getD HX.out k
      have hSt := Lib.hid (fun w' (h : Laid w z x (4 + at0) g (8 + len0) cap k w') (V : Nat) (hV : V = (z.getD (4 + at0 + k) 0).toNat ^^^ (x.getD k 0).toNat) => h.step hV)
      have hZ : Hid (zeroB x (k + 1) = (zeroB x k && (x.getD k 0 == 0))) := Lib.hid rfl
      clear hown hzl
      generalize z.getD (4 + at0 + k) 0 = y at *
      generalize hcx0 : x.getD k 0 = u at *
      have hcX := Lib.hid hcx0
      clear hcx0
      obtain ⟨Y, rfl⟩ := Int.eq_ofNat_of_zero_le hY.1
      obtain ⟨U, rfl⟩ := Int.eq_ofNat_of_zero_le hX.1
      have hxor := bits_xor_u8_nat Y U (by omega) (by omega)
      have hSt2 := Lib.hid (hSt.out wr hH.out (Y ^^^ U) (by simp)).drew
      clear hSt
      generalize Y ^^^ U = V at *
      have hin1 : (k : Int) < 4 := by omega
      have hin2 : 4 + (at0 : Int) + (k : Int) < 8 + (len0 : Int) := by omega
      have hto : (4 + (at0 : Int) + (k : Int)).toNat = 4 + at0 + k := by omega
      have hp0 : 0 ≤ 4 + (at0 : Int) + (k : Int) := by omega
      have hw0 : IntKind.i64.wrap (4 + (at0 : Int)) = 4 + (at0 : Int) := IntWalk.i64_in _ (by omega)
      have hw1 : IntKind.i64.wrap (4 + (at0 : Int) + (k : Int)) = 4 + (at0 : Int) + (k : Int) := IntWalk.i64_in _ (by omega)
      go_wp2_with fail
      go_region
      clear hcy hfz hxor hto hp0 hw0 hw1 hin1 hin2 hcx hH
      generalize (wr.setCell ⟨g, 4 + at0 + k, none⟩ (.int .u8 (V : Int))).drew = w5 at *
      have hc5 := hSt2.out.2.1 k hk4
      rw [HN.out, hcX.out] at hc5
      generalize zeroB x k = S at *
      by_cases hU0 : U = 0
      · subst hU0
        have hc5 : w5.cell? ⟨N, k, none⟩ = some (.int .u8 0) := hc5
        have hZ2 : Hid (zeroB x (k + 1) = S) := Lib.hid (by rw [hZ.out]; cases S <;> rfl)
        clear hZ
        cases S
        all_goals
          go_wp2_with fail
          go_roundw
          case rel => exact ⟨k + 1, by omega, by omega, by go_num, by rw [hZ2.out], hSt2⟩
          case measure => simp [intOf]; omega
      · have hU1 : ((U : Int) == 0) = false := by simpa using hU0
        have hU2 : (U == 0) = false := by simpa using hU0
        have hZ2 : Hid (zeroB x (k + 1) = false) := Lib.hid (by rw [hZ.out, hU1]; cases S <;> rfl)
        clear hZ
        cases S
        all_goals
          go_wp2_with fail
          go_roundw
          case rel => exact ⟨k + 1, by omega, by omega, by go_num, by rw [hZ2.out], hSt2⟩
          case measure => simp [intOf]; omega
    · have hxl : (xorAt z x (4 + at0) k).length = 8 + len0 := by rw [xorAt_len, HL.out]
      have HGt := Lib.hid (pget_any _ _ wr (Ints.own (by have := hH.out.1; rwa [← hxl] at this)) (xorAt_byt HB.out HX.out (4 + at0) k) (by rw [hxl]; omega) (HT.out.call hH.out.2.2))
      rw [hxl, HF.out k hk hAk] at HGt
      have HAw := Lib.hid (fun w' (h : Below w.heap.size w w') => awake9_any w' (HT.out.call h))
      have HBw := Lib.hid hH.out.2.2
      have HC0 := Lib.hid (fun w' v (h : Ints .u8 w' v z0) => conv_ints h HB0.out)
      have hq0 : ((strB z0).toList == (strB z0).toList) = true := by simp
      clear hH HLa HF hxl HB
      generalize strB z0 = S0 at *
      generalize zeroB x k = S at *
      have hcond : (k : Int) < 4 ∧ 8 + (len0 : Int) ≤ 4 + (at0 : Int) + (k : Int) ∨ ¬ (k : Int) < 4 := by omega
      clear hin
      cases S
      · rw [if_neg (by decide)] at HGt
        unfold GetP at HGt
        simp only [show ((0 : Nat) : Int) = 0 from rfl, show ((13 : Nat) : Int) = 13 from rfl] at HGt
        rcases hcond with ⟨hin1, hin2⟩ | hin1
        all_goals
          go_wp2_with fail
          refine (HGt.out).mono ?_; rintro r w5 ⟨⟨v5, rfl, ho5⟩, hb5⟩
          obtain ⟨p5, c5, rfl⟩ := own_slice ho5
          have HB5 := Lib.hid (below_then HBw.out hb5)
          have HAA := Lib.hid (HAw.out _ HB5.out)
          rw [show ([] : List Int).length = 0 from rfl]
          clear ho5 hb5
          go_wp2_with fail
          refine (HAA.out).mono ?_; rintro e w' ⟨rfl, hb⟩
          go_wp2_with fail
          go_ret
          exact ⟨rfl, below_then HB5.out hb⟩
      · rw [if_pos rfl] at HGt
        unfold GetP at HGt
        simp only [show ((0 : Nat) : Int) = 0 from rfl] at HGt
        rcases hcond with ⟨hin1, hin2⟩ | hin1
        all_goals
          go_wp2_with fail
          refine (HGt.out).mono ?_; rintro r w5 ⟨⟨v5, rfl, ho5⟩, hb5⟩
          have HB5 := Lib.hid (below_then HBw.out hb5)
          have hc5 := HC0.out _ _ (Ints.own ho5)
          have hc0 := HC0.out _ _ (HG.out.below HB5.out)
          obtain ⟨p5, c5, rfl⟩ := own_slice ho5
          have HAA := Lib.hid (HAw.out _ HB5.out)
          clear ho5 hb5
          go_wp2_with fail
          refine (HAA.out).mono ?_; rintro e w' ⟨rfl, hb⟩
          go_wp2_with fail
          go_ret
          exact ⟨rfl, below_then HB5.out hb⟩
theorem cells_arr4 : Tryd.prog.cellsOf 40 = 4 := by kernel_rfl
theorem cells_u8 : Tryd.prog.cellsOf 5 = 1 := by kernel_rfl
theorem list4 {α : Type} (l : List α) (h : (⟨l⟩ : Array α).size = 4) : ∃ a b c d, l = [a, b, c, d] := by
  match l, h with
  | [a, b, c, d], _ => exact ⟨a, b, c, d, rfl⟩
theorem byte_wf {x : Int} (h : (Lit.int .u8 x).wf = true) : 0 ≤ x ∧ x ≤ 255 := by simp [Lit.wf, IntKind.min, IntKind.max, IntKind.signed, IntKind.bits] at h; omega
theorem walk (a0 : Option Addr) (len0 cap0 : Nat) (z0 : List Int) (a1 : Int) (x0 x1 x2 x3 : Int) (w : World) (g0 : Given .u8 w (.slice a0 len0 cap0) z0) (m0 : len0 ≤ 9223372036854775807) (w1 : (Lit.int .i64 a1).wf = true)
    (xw0 : (Lit.int .u8 x0).wf = true) (xw1 : (Lit.int .u8 x1).wf = true) (xw2 : (Lit.int .u8 x2).wf = true) (xw3 : (Lit.int .u8 x3).wf = true) (hT : Fours w) :
    Calls Tryd.prog 5 #[.slice a0 len0 cap0, .int .i64 a1, .agg #[.int .u8 x0, .int .u8 x1, .int .u8 x2, .int .u8 x3]] w fun e w' => e = .returned (.bool true) ∧ Below w.heap.size w w' := by
  have hl := len_max g0
  by_cases h : 2000 < len0 ∨ a1 < 0 ∨ (len0 : Int) + 3 < a1
  · exact walk_out a0 len0 cap0 a1 x0 x1 x2 x3 w h hT
  · obtain ⟨A, rfl⟩ := Int.eq_ofNat_of_zero_le (by omega : 0 ≤ a1)
    refine walk_mid a0 len0 cap0 A x0 x1 x2 x3 z0 w g0.1 g0.byt (fun y hy => ?_) hl (by omega) (by omega) hT
    simp only [List.mem_cons, List.not_mem_nil, or_false] at hy
    rcases hy with rfl | rfl | rfl | rfl
    · exact byte_wf xw0
    · exact byte_wf xw1
    · exact byte_wf xw2
    · exact byte_wf xw3
set_option maxRecDepth 100000 in
theorem lifted (os : Os) (started : os.Started) (H : Type) (enc : TypeId × Value → H) :
    ReturnsInHanded {} Tryd.checked os 5 .any (fun w args => (Rows.frameFindsSpec.pre enc Tryd.prog Tryd.f5 [] false w args ∧ laidMetH Tryd.prog laid6 w) ∧ sizedMet enc Tryd.prog Tryd.f5 (OpenSpec.ofChange Rows.frameFindsSpec) false w args)
      (Rows.frameFindsSpec.post enc Tryd.prog Tryd.f5 false true false false) := by
  refine returnsInHanded_of_change_and (C := Tryd.checked) (X := fun w _ => laidMetH Tryd.prog laid6 w) (fun _ _ _ hh h => h.of_heap hh) own2 started (by kernel_rfl) Tryd.func5
    (ChangeSpec.witness_shaped (enc := enc) (C := Tryd.checked) (os := os) (X := fun w _ => laidMetH Tryd.prog laid6 w) false (World.doorLaid Tryd.prog 400 os) #[.slice none 0 0, .int .i64 0, .agg #[.int .u8 0, .int .u8 0, .int .u8 0, .int .u8 0]] 8 rfl (World.shaped_of_RefB (by kernel_rfl) (by kernel_rfl)) (by kernel_rfl) (by kernel_rfl) (by kernel_rfl) (door_met6 os _)) ?_
  intro W base args ds gs before hval0 hW _ _ hL _
  have hTab := fours_of hL
  have hval : ∀ (j : Nat) t v, Tryd.f5.params[j]? = some t → args[j]? = some v → Value.okWide Tryd.prog W .any base t v := hval0
  have hW' := hW
  obtain ⟨p, q, hA0, hV, rfl, hfz, hnd⟩ := hW
  have hA : DataW.TrodAll enc Tryd.prog W 0 (fun _ => true) true Tryd.f5.params.toList args.toList ds p := hA0
  rw [Tryd.params5] at hA hval
  obtain ⟨v0, vs0, d0, ds0, p0, q0, hargs, rfl, rfl, h0, r0⟩ := trodAll_cons hA
  obtain ⟨v1, vs1, d1, ds1, p1, q1, rfl, rfl, rfl, h1, r1⟩ := trodAll_cons r0
  obtain ⟨v2, vs2, d2, ds2, p2, q2, rfl, rfl, rfl, h2, r2⟩ := trodAll_cons r1
  obtain ⟨rfl, rfl, rfl⟩ := trodAll_nil r2
  obtain rfl : args = #[v0, v1, v2] := by cases args; simp_all
  obtain ⟨rfl, rfl⟩ := trodVars_none hV
  obtain ⟨a0, len0, cap0, rfl⟩ := okWide_slice Tryd.underlying22 (hval 0 22 v0 rfl rfl)
  have k0 := h0
  have lt0 : ∀ x ∈ p0, x.block < W.heap.size := by obtain ⟨m, hm⟩ := k0; exact DataW.trod_lt m _ _ _ hm
  obtain ⟨z0, w0, m0⟩ : ∃ zs, Given .u8 W (.slice a0 len0 cap0) zs ∧ len0 ≤ 9223372036854775807 := by
    obtain ⟨fuel, hf⟩ := h0
    rcases open_ints Tryd.underlying22 Tryd.underlying5 (by kernel_rfl) hf with ⟨hcs, _⟩ | ⟨x, l, c, zs, hcs, _, hl, hm, hz, _, hcell, hwz⟩
    · simp [Value.cells] at hcs
      obtain ⟨rfl, rfl, rfl⟩ := hcs
      exact ⟨[], given_nil, by decide⟩
    · simp [Value.cells] at hcs
      obtain ⟨rfl, rfl, rfl⟩ := hcs
      exact ⟨_, given_row hl (by simpa using hz) hcell hwz, by unfold maxLen at hm; omega⟩
  obtain ⟨a1, rfl, rfl, rfl, w1⟩ := open_int Tryd.underlying3 (hval 1 3 v1 rfl rfl) h1
  obtain ⟨cs2, rfl, hsz2, _⟩ : ∃ cs, v2 = .agg cs ∧ cs.size = Tryd.prog.cellsOf 40 ∧ Row.okWide Tryd.prog W .any base 40 cs := by
    have := hval 2 40 v2 rfl rfl
    simpa [Value.okWide, Tryd.underlying40] using this
  rw [cells_arr4] at hsz2
  obtain ⟨l2⟩ := cs2
  obtain ⟨c0, c1, c2, c3, rfl⟩ := list4 l2 hsz2
  obtain ⟨fuel2, hf2⟩ := h2
  obtain ⟨y0, y1, y2, y3, my, hx, hy0, hy1, hy2, hy3⟩ := trod_array4 Tryd.underlying40 cells_u8 hf2
  obtain ⟨x0, e0, rfl, xw0⟩ := DataW.trod_int Tryd.underlying5 hy0
  obtain ⟨x1, e1, rfl, xw1⟩ := DataW.trod_int Tryd.underlying5 hy1
  obtain ⟨x2, e2, rfl, xw2⟩ := DataW.trod_int Tryd.underlying5 hy2
  obtain ⟨x3, e3, rfl, xw3⟩ := DataW.trod_int Tryd.underlying5 hy3
  simp at e0 e1 e2 e3
  subst e0 e1 e2 e3
  simp only [Prod.mk.injEq] at hx
  obtain ⟨rfl, rfl⟩ := hx
  have arrayReads : ∀ (W' : World) (sp : Nat → Bool), DataW.Trod enc Tryd.prog W' 0 sp true 40 (.agg #[.int .u8 x0, .int .u8 x1, .int .u8 x2, .int .u8 x3]) (.agg [.lit (.int .u8 x0), .lit (.int .u8 x1), .lit (.int .u8 x2), .lit (.int .u8 x3)]) [] := fun W' sp =>
    ⟨2, by simp [DataW.trod, Value.cells, Tryd.underlying40, Tryd.underlying5, cells_arr4, cells_u8, xw0, xw1, xw2, xw3, show List.range 4 = [0, 1, 2, 3] from rfl]⟩
  clear hA0 hval0
  refine (walk a0 len0 cap0 z0 a1 x0 x1 x2 x3 W w0 m0 w1 xw0 xw1 xw2 xw3 hTab).mono fun e W' ⟨he, bel⟩ => ?_
  subst he
  exact ⟨_, rfl, _, _, _, [], _, [], hW', trodAll_mk1 (shut_bool Tryd.underlying4 _), (trodAll_cons_mk (Below.trod laidOut2 (by kernel_rfl) (of_decide_eq_true (by kernel_rfl)) k0 bel lt0) (trodAll_cons_mk (shut_int Tryd.underlying3 w1) (trodAll_cons_mk (arrayReads _ _) trodAll_mk0))), rfl, bel.frame _, fun h => by cases h⟩

theorem over : Rows.frameFindsRow.holds Tryd.pinned (OpenSpec.ofChange Rows.frameFindsSpec) :=
  OpenClaim.holds_of_wide 5 Tryd.f5 rfl rfl rfl rfl rfl rfl rfl ⟨rfl, rfl, rfl, rfl, rfl⟩ rfl rfl rfl rfl rfl (by kernel_rfl) Tryd.func5 (by kernel_rfl)
    (of_decide_eq_true (by kernel_rfl)) (by unfold Func.isWrapper; first | (rw [if_pos (by decide +kernel)]; kernel_rfl) | (rw [if_neg (by decide +kernel)]; exact ⟨rfl, rfl⟩))
    (fun os started H enc _ => lifted os started H enc)
theorem row_holds : Rows.FrameFindsSaid := over
end Go.Proofs.YtacogaeciodjeaaDoor.frameFinds
namespace Go.Proofs.YtacogaeciodjeaaDoor
/-- The statement: the tied card. -/
theorem frameFinds_holds : Rows.FrameFindsCardSaid :=
  Claim7.holds_tied_plain_at .later [] [.data] true _ false
    frameFinds.row_holds (fun _ h => by cases h) (by kernel_rfl) (fun _ h => by cases h) frameFinds_row_tie rfl ⟨rfl, rfl⟩ (by kernel_rfl) rfl
    (fun f fn hf hfn => by
      obtain rfl : f = 5 := Option.some.inj ((show Tryd.prog.funcNamed "bushel/bushellaw09.FrameFinds" = some 5 by kernel_rfl).symm.trans hf) |>.symm
      obtain rfl : fn = Tryd.f5 := (Option.some.inj (Tryd.func5.symm.trans hfn)).symm
      exact ⟨by kernel_rfl, fun j t ht => by
        rw [Tryd.params5] at ht
        have hm : t ∈ [22, 3, 40] := by simpa using Array.mem_of_getElem? ht
        have hall : ([22, 3, 40].all fun u => !Tryd.prog.wantsStandIn u) = true := by kernel_rfl
        exact (show Tryd.prog.wantsStandIn t = false by simpa using List.all_eq_true.1 hall t hm)⟩)
    (by kernel_rfl)
#print axioms frameFinds_holds
end Go.Proofs.YtacogaeciodjeaaDoor
