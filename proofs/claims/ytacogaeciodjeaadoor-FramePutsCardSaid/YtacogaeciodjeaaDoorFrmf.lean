/- The reference's Get. -/
import Derived.Test.YtacogaeciodjeaaDoorFrme
namespace Go.Proofs.YtacogaeciodjeaaDoor
set_option maxRecDepth 100000
open Go.RowKit
set_option linter.unusedVariables false
def lnN (b : List Int) : Nat → Nat
  | 0 => 0
  | k + 1 => lnN b k * 256 + (b.getD (k + 1) 0).toNat
theorem lnN_three (b : List Int) : lnN b 3 = lenN b := by unfold lenN; show (((0 * 256 + (b.getD 1 0).toNat) * 256 + (b.getD 2 0).toNat) * 256 + (b.getD 3 0).toNat) = _; omega
theorem lnN_lt {b : List Int} (hb : Byt b) : ∀ k, lnN b k < 256 ^ k
  | 0 => by simp [lnN]
  | k + 1 => by
    have := lnN_lt hb k
    have h := byt_getD hb (k + 1)
    rw [lnN, Nat.pow_succ]; omega
theorem lnN_small {b : List Int} (hb : Byt b) {k : Nat} (hk : k < 3) : lnN b k < 65536 := by
  have := lnN_lt hb k
  have h2 : 256 ^ k ≤ 256 ^ 2 := Nat.pow_le_pow_right (by decide) (by omega)
  have h3 : 256 ^ 2 = 65536 := rfl
  omega
theorem byte_cells {w : World} {v : Value} {b : List Int} (hv : Ints .u8 w v b) (h0 : 0 < b.length) : ∃ bb off cap, v = .slice (some ⟨bb, off, none⟩) b.length cap ∧ ∀ j, j < b.length → w.cell? ⟨bb, off + j, none⟩ = some (.int .u8 (b.getD j 0)) := by
  obtain ⟨a, cap, rfl, -, h | ⟨bb, off, rfl, -, h⟩⟩ := hv
  · subst h; simp at h0
  · exact ⟨bb, off, cap, rfl, h⟩
theorem strB_bne {a b : List Int} (ha : Byt a) (hb : Byt b) : ((strB a).toList == (strB b).toList) = decide (a = b) ∧ ((strB a).toList != (strB b).toList) = !decide (a = b) := by
  have h := strB_beq ha hb
  exact ⟨h, by rw [bne, h]⟩
set_option maxHeartbeats 4000000 in
theorem rget_any (v : Value) (b : List Int) (w : World) (hv : Ints .u8 w v b) (hb : Byt b) (hl : b.length ≤ 1099511627776) :
    Calls Tryd.prog 11 #[v] w (GetP w (getN b)) := by
  obtain ⟨i0, hi, hz0, hz1, hz2⟩ := info_parts Tryd.infoU8
  have hlt := lenN_le hb
  by_cases h0 : 0 < b.length
  · obtain ⟨bb, off, cap, rfl, hc⟩ := byte_cells hv h0
    have h0' : 0 < (b.length : Int) := by omega
    by_cases h1 : b.getD 0 0 = 181
    · have hc0 := hc 0 h0
      rw [h1, Nat.add_zero] at hc0
      have hno : ¬ (0 < b.length ∧ b.getD 0 0 ≠ 181) := fun h => h.2 h1
      have HC := Lib.hid hc
      have HN := Lib.hid (show ∀ k, lnN b (k + 1) = lnN b k * 256 + (b.getD (k + 1) 0).toNat from fun k => rfl)
      have HS := Lib.hid (fun k => lnN_small hb (k := k))
      have HB := Lib.hid (fun k => byt_getD hb k)
      have HM := Lib.hid (show ∀ k, ¬ k < b.length → b.getD k 0 = 0 from fun k hk => by simp [List.getD, List.getElem?_eq_none (Nat.le_of_not_lt hk)])
      have HE := Lib.hid (lnN_three b)
      have HV := Lib.hid hv
      have HBy := Lib.hid hb
      have HNo := Lib.hid hno
      clear hc hv hb hno h1
      go_enter Tryd.func11, Tryd.ntmps11
      go_wp2_with fail
      clear hc0
      go_loopw [5, 6] (fun n i wr => ∃ k : Nat, k ≤ 3 ∧ n = .int .i64 ((lnN b k : Nat) : Int) ∧ i = .int .i64 ((k : Int) + 1) ∧ Hid (w = wr)) (fun _ i _ => 4 - (intOf i).toNat)
      case atStart => exact ⟨0, by omega, rfl, rfl, Lib.hid rfl⟩
      case round =>
        obtain ⟨k, hk, rfl, rfl, hS⟩ := hrel
        obtain rfl := hS.out
        by_cases hlk : k < 3
        · have HN0 := Lib.hid (HN.out k)
          have hn := HS.out k hlk
          generalize lnN b k = n at *
          have i1 : (k : Int) + 1 < 4 := by omega
          have i2 : IntKind.i64.wrap ((n : Int) * 256) = (n : Int) * 256 := IntWalk.i64_in _ (by omega)
          have i3 : IntKind.i64.wrap ((k : Int) + 1 + 1) = (k : Int) + 1 + 1 := IntWalk.i64_in _ (by omega)
          by_cases hin : k + 1 < b.length
          · have hcy := HC.out (k + 1) hin
            have hby := HB.out (k + 1)
            generalize b.getD (k + 1) 0 = y at *
            have j1 : (k : Int) + 1 < (b.length : Int) := by omega
            have j2 : IntKind.i64.wrap ((n : Int) * 256 + y) = (n : Int) * 256 + y := IntWalk.i64_in _ (by omega)
            have j3 : ((k : Int) + 1).toNat = k + 1 := by omega
            go_wp2_with fail
            go_roundw
            case rel => exact ⟨k + 1, by omega, by rw [HN0.out]; congr 1; omega, by go_num, Lib.hid (by trivial)⟩
            case measure => simp [intOf]; omega
          · have j1 : ¬ (k : Int) + 1 < (b.length : Int) := by omega
            have hz := Lib.hid (HM.out (k + 1) hin)
            go_wp2_with fail
            go_roundw
            case rel => exact ⟨k + 1, by omega, by rw [HN0.out, hz.out]; rfl, by go_num, Lib.hid (by trivial)⟩
            case measure => simp [intOf]; omega
        · obtain rfl : k = 3 := by omega
          rw [HE.out]
          clear HC HN HS HB HM HE
          by_cases h2 : 60000 < lenN b
          · have HG := Lib.hid (get_two HNo.out h2)
            have h2' : 60000 < (lenN b : Int) := by omega
            generalize lenN b = n at *
            go_wp2_with fail
            go_ret3
            rw [HG.out]
            exact GetP.none rfl (Below.refl _ _)
          · have h2' : ¬ 60000 < (lenN b : Int) := by omega
            by_cases h3 : b.length < 8 + lenN b
            · have HG := Lib.hid (get_three HNo.out h2 h3)
              have h3' : (b.length : Int) < 8 + (lenN b : Int) := by omega
              generalize lenN b = n at *
              go_wp2_with fail
              go_ret3
              rw [HG.out]
              exact GetP.none rfl (Below.refl _ _)
            · obtain ⟨u3, c3, hop3, hi3⟩ := part_any HV.out (k := 4) (h := 4 + lenN b) (by omega) (by omega)
              obtain ⟨hop2, hi2⟩ := upto_any HV.out (h := 8 + lenN b) (by omega)
              rw [show 4 + lenN b - 4 = lenN b by omega] at hop3 hi3
              have e8 : ((8 + lenN b : Nat) : Int) = 8 + (lenN b : Int) := by omega
              have e4 : ((4 + lenN b : Nat) : Int) = 4 + (lenN b : Int) := by omega
              have e40 : ((4 : Nat) : Int) = 4 := rfl
              simp only [e8] at hop2
              simp only [e4, e40] at hop3
              clear e8 e4 e40
              have hbody := byt_drop (byt_take HBy.out (4 + lenN b)) 4
              have hbl : ((b.take (4 + lenN b)).drop 4).length = lenN b := by simp; omega
              have HBB := Lib.hid (And.intro hbody hbl)
              have HP := Lib.hid (fun u w' (ho : BOwn w' w.heap.size u ((b.take (4 + lenN b)).drop 4)) => rput_any u _ w' (Ints.own ho) hbody (by rw [hbl]; omega))
              have HI3 := Lib.hid (hi3.below (below_one w (.cells #[] 5)))
              have HC2 := Lib.hid (fun w' (h : Below w.heap.size w w') => conv_ints (hi2.below h) (byt_take HBy.out _))
              have HC1 := Lib.hid (fun u w' (h : Ints .u8 w' u (putN ((b.take (4 + lenN b)).drop 4))) => conv_ints h (put_byt hbody))
              obtain ⟨hq1, hq2⟩ := strB_bne (put_byt hbody) (byt_take HBy.out (8 + lenN b))
              have hqq := put_iff HBy.out (by by_cases h : b.getD 0 0 = 181; exact h; exact absurd ⟨h0, h⟩ HNo.out) (by omega)
              have e8 : ((8 + lenN b : Nat) : Int) = 8 + (lenN b : Int) := by omega
              by_cases h4 : (b.take (8 + lenN b)).drop (4 + lenN b) = fourB (moreN 0 (b.take (4 + lenN b)))
              · have HG := Lib.hid (get_five HNo.out h2 h3 h4)
                simp only [hqq.2 h4, decide_true, Bool.not_true] at hq1 hq2
                rw [hqq.2 h4] at HC1 HP
                generalize (b.take (4 + lenN b)).drop 4 = body at *
                generalize b.take (8 + lenN b) = pb at *
                generalize strB pb = S2 at *
                have HE8 := Lib.hid e8
                clear e8 hi3 hi2 h4 hqq hbody hbl
                generalize lenN b = n at *
                go_upto_region 15 with (at_builtin; refine wpList_append_want _ (by rfl) _ _ 22 rfl w.heap.size 5 i0 (.int .u8 0) 1 Tryd.underlying22 hi hz0 hz1 hz2 rfl .u8 _ _ [] body rfl rfl (own_lit0 w) HI3.out (by rw [HBB.out.2]; unfold maxLen; simp; omega) (by rw [HBB.out.2]; simp; omega) (by simp) ?_; intro v1 w1 hown hgrow; rw [List.nil_append] at hown; have HQ := Lib.hid (And.intro hown (lit_below (Below.refl _ _) hgrow)); have HPP := Lib.hid (fun w' (h : w'.ownsRow w.heap.size 5 1 v1 body.length (body.map (Value.int .u8))) => HP.out v1 w' h); obtain ⟨pv1, lv1, cv1, rfl⟩ := own_slice3 hown; clear hown hgrow)
                have hBw : Below w.heap.size w w1.drew := HQ.out.2.drew
                have hcb := HC2.out _ hBw
                have hwa : IntKind.i64.wrap (8 + (n : Int)) = 8 + (n : Int) := IntWalk.i64_in _ (by omega)
                go_region_law (go_simp; go_at_call 9; refine (HPP.out _ HQ.out.1.drew).mono ?_; rintro r w2 ⟨⟨v2, rfl, ho2⟩, hb2⟩; have hbd := below_then hBw hb2; have hcb2 := HC2.out _ hbd; have hca := HC1.out v2 w2 (Ints.own ho2); have HX := Lib.hid (And.intro ((Below.refl _ w1).drew.trans hb2) hbd); obtain ⟨pv2, lv2, cv2, rfl⟩ := own_slice3 ho2; clear ho2 hb2)
                all_goals
                  clear hcb hBw
                  go_wp2_with fail
                  go_ret3
                  rw [HG.out]
                  unfold GetP
                  simp only [HE8.out]
                  exact ⟨⟨_, rfl, own_below HQ.out.1 HX.out.1⟩, HX.out.2⟩
              · have HG := Lib.hid (get_four HNo.out h2 h3 h4)
                have hnq : ¬ putN ((b.take (4 + lenN b)).drop 4) = b.take (8 + lenN b) := fun h => h4 (hqq.1 h)
                simp only [hnq, decide_false, Bool.not_false] at hq1 hq2
                generalize (b.take (4 + lenN b)).drop 4 = body at *
                generalize putN body = pa at *
                generalize strB pa = S1 at *
                generalize b.take (8 + lenN b) = pb at *
                generalize strB pb = S2 at *
                have HE8 := Lib.hid e8
                clear e8 hi3 hi2 h4 hqq hbody hbl hnq
                generalize lenN b = n at *
                go_upto_region 15 with (at_builtin; refine wpList_append_want _ (by rfl) _ _ 22 rfl w.heap.size 5 i0 (.int .u8 0) 1 Tryd.underlying22 hi hz0 hz1 hz2 rfl .u8 _ _ [] body rfl rfl (own_lit0 w) HI3.out (by rw [HBB.out.2]; unfold maxLen; simp; omega) (by rw [HBB.out.2]; simp; omega) (by simp) ?_; intro v1 w1 hown hgrow; rw [List.nil_append] at hown; have HQ := Lib.hid (And.intro hown (lit_below (Below.refl _ _) hgrow)); have HPP := Lib.hid (fun w' (h : w'.ownsRow w.heap.size 5 1 v1 body.length (body.map (Value.int .u8))) => HP.out v1 w' h); obtain ⟨pv1, lv1, cv1, rfl⟩ := own_slice3 hown; clear hown hgrow)
                have hBw : Below w.heap.size w w1.drew := HQ.out.2.drew
                have hcb := HC2.out _ hBw
                have hwa : IntKind.i64.wrap (8 + (n : Int)) = 8 + (n : Int) := IntWalk.i64_in _ (by omega)
                go_region_law (go_simp; go_at_call 9; refine (HPP.out _ HQ.out.1.drew).mono ?_; rintro r w2 ⟨⟨v2, rfl, ho2⟩, hb2⟩; have hbd := below_then hBw hb2; have hcb2 := HC2.out _ hbd; have hca := HC1.out v2 w2 (Ints.own ho2); have HX := Lib.hid (And.intro ((Below.refl _ w1).drew.trans hb2) hbd); obtain ⟨pv2, lv2, cv2, rfl⟩ := own_slice3 ho2; clear ho2 hb2)
                all_goals
                  clear hcb hBw
                  go_wp2_with fail
                  go_ret3
                  rw [HG.out]
                  exact GetP.none rfl HX.out.2
    · rw [get_one h0 h1]
      have hc := hc 0 h0
      rw [Nat.add_zero] at hc
      have hq : (b.getD 0 0 != 181) = true := by simpa using h1
      generalize b.getD 0 0 = x at *
      generalize b.length = L at *
      clear hv hb h1
      go_enter Tryd.func11, Tryd.ntmps11
      go_wp2_with fail
      go_ret3
      exact GetP.none rfl (Below.refl _ _)
  · have hb0 : b = [] := List.length_eq_zero_iff.1 (by omega)
    subst hb0
    rw [show getN [] = ([], 0, 5) from rfl]
    obtain ⟨a, cap, rfl, -, -⟩ := hv
    clear hb
    go_enter Tryd.func11, Tryd.ntmps11
    go_wp2_with fail
    go_loopw [5, 6] (fun n i wr => ∃ k : Nat, k ≤ 3 ∧ n = .int .i64 0 ∧ i = .int .i64 ((k : Int) + 1) ∧ Hid (w = wr)) (fun _ i _ => 4 - (intOf i).toNat)
    case atStart => exact ⟨0, by omega, rfl, rfl, Lib.hid rfl⟩
    case round =>
      obtain ⟨k, hk, rfl, rfl, hS⟩ := hrel
      obtain rfl := hS.out
      by_cases hlk : k < 3
      · have i1 : (k : Int) + 1 < 4 := by omega
        have i3 : IntKind.i64.wrap ((k : Int) + 1 + 1) = (k : Int) + 1 + 1 := IntWalk.i64_in _ (by omega)
        have j1 : ¬ (k : Int) + 1 < 0 := by omega
        go_wp2_with fail
        go_roundw
        case rel => exact ⟨k + 1, by omega, rfl, by go_num, Lib.hid (by trivial)⟩
        case measure => simp [intOf]; omega
      · obtain rfl : k = 3 := by omega
        go_wp2_with fail
        go_ret3
        exact GetP.none rfl (Below.refl _ _)
end Go.Proofs.YtacogaeciodjeaaDoor
