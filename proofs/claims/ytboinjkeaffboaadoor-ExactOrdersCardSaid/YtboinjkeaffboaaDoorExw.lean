/- ExactOrders: the walk of a short list. -/
import Derived.Test.YtboinjkeaffboaaDoorExk
import Derived.Deep.RegionWith
import Derived.Deep.DrawnRows
namespace Go.Proofs.YtboinjkeaffboaaDoor.exactOrders
set_option maxRecDepth 100000
open Go.ChangeShapes Go.WideShapes Go.ChangeAt Go.RowKit
set_option linter.unusedVariables false
attribute [local go_sem ↓] Go.wp_at_zero Go.wp_at_succ
theorem four_new (w : World) (o : Obj) (ho : o = .cells #[.slice none 0 0, .bool false, .int .u8 0, .bool true] 60) (xs : List Nat) (C : Nat) :
    Ord5 xs C 0 0 0 w.heap.size ((((w.alloc o).alloc o).alloc o).alloc o) ∧ Below w.heap.size w ((((w.alloc o).alloc o).alloc o).alloc o) := by
  subst ho
  generalize ho : Obj.cells #[.slice none 0 0, .bool false, .int .u8 0, .bool true] 60 = o
  have new : ∀ W : World, SumAt (W.alloc o) W.heap.size 0 0 := fun W => by subst ho; exact sum_new W
  have h0 := (((new w).below (below_one _ o)).below (below_one _ o)).below (below_one _ o)
  have h1 := ((new (w.alloc o)).below (below_one _ o)).below (below_one _ o)
  have h2 := (new ((w.alloc o).alloc o)).below (below_one _ o)
  have h3 := new (((w.alloc o).alloc o).alloc o)
  refine ⟨Ord5.start xs C _ _ h0 ?_ ?_ ?_, ?_⟩
  · simpa using h1
  · simpa using h2
  · simpa using h3
  · exact below_then (below_then (below_then (below_one _ o) (below_one _ o)) (below_one _ o)) (below_one _ o)
set_option maxHeartbeats 4000000 in
theorem walk_short (p : Option Addr) (n c : Nat) (xs : List Nat) (cut : Int) (w : World) (g : Flts w (.slice p n c) xs) (hn : n ≤ 60) (c0 : -9223372036854775808 ≤ cut) (c1 : cut ≤ 9223372036854775807) (hT : Tab w) (hT2 : Tab64 w) :
    Calls Tryd.prog 5 #[.slice p n c, .int .i64 cut] w fun r w' => r = .returned (.bool true) ∧ Below w.heap.size w w' := by
  have hnl := flts_len g
  have HXs := Lib.hid (w64_list g.2)
  have HX := Lib.hid g.2
  have HCell := Lib.hid (fun (k : Nat) (hk : k < n) => g.cell (i := k) (by omega))
  have HT := Lib.hid (fun w1 (h : Below w.heap.size w w1) => And.intro (hT.call h) (hT2.call h))
  have HA := Lib.hid (fun w1 (h : Below w.heap.size w w1) => awake5_any w1 (hT.call h) (hT2.call h))
  obtain ⟨C, hC⟩ : ∃ C : Nat, ∀ k : Nat, ((k : Int) < cut ↔ k < C) := ⟨cut.toNat, fun k => by omega⟩
  have HC := Lib.hid hC
  have HL := Lib.hid hnl
  have h4 := four_new w _ rfl xs C
  have H4 := Lib.hid h4
  have hn' : (n : Int) ≤ 60 := by omega
  clear g hT hT2 hC hnl h4
  go_enter Tryd.func5, Tryd.ntmps5
  go_wp2_with (first | ((with_reducible refine (xnew_any _).mono ?_); rintro e w1 ⟨rfl, rfl⟩))
  go_loopw [9] (fun i wr => ∃ k : Nat, k ≤ n ∧ i = .int .i64 k ∧ Hid (Ord5 xs C k k k w.heap.size wr) ∧ Hid (Below w.heap.size w wr)) (fun i _ => n - (intOf i).toNat)
  case atStart => exact ⟨0, Nat.zero_le _, rfl, Lib.hid H4.out.1, Lib.hid H4.out.2⟩
  case round =>
    obtain ⟨k, hk, rfl, hO, hb⟩ := hrel
    by_cases hlt : k < n
    · have hkl : k < xs.length := by have := HL.out; omega
      have hll : xs.length ≤ 60 := by have := HL.out; omega
      obtain ⟨b, off, hp, hbl, hcell⟩ := HCell.out k hlt
      obtain ⟨b', off', hp', -, hcell'⟩ := HCell.out (n - 1 - k) (by omega)
      rw [hp] at hp'
      simp only [Option.some.injEq, Addr.mk.injEq, and_true] at hp'
      obtain ⟨rfl, rfl⟩ := hp'
      have HA1 := Lib.hid (ord_a xs C k k k w.heap.size wr hO.out HXs.out hll hkl (HT.out wr hb.out).2)
      have HA2 := Lib.hid (fun w2 (h : Ord5 xs C (k + 1) k k w.heap.size w2) (hw : Below w.heap.size w w2) => ord_b xs C (k + 1) k k w.heap.size w2 h HXs.out hll hkl (HT.out w2 hw).2)
      have HA3 := Lib.hid (fun w2 (h : Ord5 xs C (k + 1) (k + 1) k w.heap.size w2) (hw : Below w.heap.size w w2) (hc : k < C) => ord_c xs C (k + 1) (k + 1) k w.heap.size w2 h HXs.out hll hkl hc (HT.out w2 hw).2)
      have HA4 := Lib.hid (fun w2 (h : Ord5 xs C (k + 1) (k + 1) k w.heap.size w2) (hw : Below w.heap.size w w2) (hc : ¬ k < C) => ord_d xs C (k + 1) (k + 1) k w.heap.size w2 h HXs.out hll hkl hc (HT.out w2 hw).2)
      have hlen := HL.out
      rw [hlen] at HA2
      have i1 : (0 : Int) ≤ (n : Int) - 1 - k := by omega
      generalize hx : xs.getD k 0 = x at *
      generalize hy : xs.getD (n - 1 - k) 0 = y at *
      have hc1 := (hb.out.cell (p := ⟨b, off + k, none⟩) hbl).trans hcell
      have HC1 := Lib.hid (And.intro hcell hcell')
      unfold OrdP at HA1 HA2 HA3 HA4
      subst hp
      clear hx hy hlen hO hkl hll hcell hcell'
      by_cases hkC : k < C
      · have hkc : (k : Int) < cut := (HC.out k).2 hkC
        have HA5 := Lib.hid (fun w2 h hw => HA3.out w2 h hw hkC)
        clear HA3 HA4
        go_wp2_with fail
        refine (HA1.out).mono ?_; rintro e w2 ⟨rfl, h1, h2⟩
        have hb2 := hb.out.trans h2
        have HB2 := Lib.hid hb2
        have HA6 := Lib.hid (HA2.out w2 h1 hb2)
        have hc2 := (hb2.cell (p := ⟨b, off + (n - 1 - k), none⟩) hbl).trans HC1.out.2
        clear h1 h2 hb2 hc1 HA1 HA2
        go_wp2_with fail
        refine (HA6.out).mono ?_; rintro e w3 ⟨rfl, h1, h2⟩
        have hb3 := HB2.out.trans h2
        have HB3 := Lib.hid hb3
        have HA7 := Lib.hid (HA5.out w3 h1 hb3)
        have hc3 := (hb3.cell (p := ⟨b, off + k, none⟩) hbl).trans HC1.out.1
        clear h1 h2 hb3 hc2 HA6 HA5 HB2
        go_wp2_with fail
        refine (HA7.out).mono ?_; rintro e w4 ⟨rfl, h1, h2⟩
        have H1 := Lib.hid h1
        have HB4 := Lib.hid (HB3.out.trans h2)
        clear h1 h2 hc3 HA7 HB3 hkc i1
        go_wp2_with fail
        go_roundw
        case rel => exact ⟨k + 1, by omega, by go_num, H1, HB4⟩
        case measure => simp [intOf]; omega
      · have hkc : ¬ (k : Int) < cut := fun h => hkC ((HC.out k).1 h)
        have HA5 := Lib.hid (fun w2 h hw => HA4.out w2 h hw hkC)
        clear HA3 HA4
        go_wp2_with fail
        refine (HA1.out).mono ?_; rintro e w2 ⟨rfl, h1, h2⟩
        have hb2 := hb.out.trans h2
        have HB2 := Lib.hid hb2
        have HA6 := Lib.hid (HA2.out w2 h1 hb2)
        have hc2 := (hb2.cell (p := ⟨b, off + (n - 1 - k), none⟩) hbl).trans HC1.out.2
        clear h1 h2 hb2 hc1 HA1 HA2
        go_wp2_with fail
        refine (HA6.out).mono ?_; rintro e w3 ⟨rfl, h1, h2⟩
        have hb3 := HB2.out.trans h2
        have HB3 := Lib.hid hb3
        have HA7 := Lib.hid (HA5.out w3 h1 hb3)
        have hc3 := (hb3.cell (p := ⟨b, off + k, none⟩) hbl).trans HC1.out.1
        clear h1 h2 hb3 hc2 HA6 HA5 HB2
        go_wp2_with fail
        refine (HA7.out).mono ?_; rintro e w4 ⟨rfl, h1, h2⟩
        have H1 := Lib.hid h1
        have HB4 := Lib.hid (HB3.out.trans h2)
        clear h1 h2 hc3 HA7 HB3 hkc i1
        go_wp2_with fail
        go_roundw
        case rel => exact ⟨k + 1, by omega, by go_num, H1, HB4⟩
        case measure => simp [intOf]; omega
    · obtain rfl : k = n := by omega
      have HJ := Lib.hid (ord_end xs C k w.heap.size wr hO.out HL.out.symm HXs.out (by have := HL.out; omega))
      clear hO
      go_wp2_with fail
      refine (HJ.out).mono ?_; rintro e w2 ⟨rfl, h1, h2⟩
      have HB2 := Lib.hid (hb.out.trans h2)
      obtain ⟨L, hL⟩ := h1.1.enc
      have hLn := hL.len
      have hLb := hL.bt h1.1.good.1
      have HBy := Lib.hid (fun M w3 (hM : M = w.heap.size ∨ M = w.heap.size + 1 ∨ M = w.heap.size + 1 + 1 + 1) (hw : Below w2.heap.size w2 w3) => show Calls Tryd.prog 22 #[.pointer (some ⟨M, 0, none⟩)] w3 (BytesP w3 L) by
        have hT3 := (HT.out w3 (HB2.out.trans (hw.mono HB2.out.size))).1
        rcases hM with rfl | rfl | rfl
        · exact pbytes_any w3 _ _ _ L (h1.1.below hw) hL hT3
        · exact pbytes_any w3 _ _ _ L (h1.2.1.below hw) hL hT3
        · exact pbytes_any w3 _ _ _ L (h1.2.2.below hw) hL hT3)
      have HVa := Lib.hid (fun M w3 (hM : M = w.heap.size ∨ M = w.heap.size + 1 + 1 + 1) (hw : Below w2.heap.size w2 w3) => show Calls Tryd.prog 23 #[.pointer (some ⟨M, 0, none⟩)] w3 (ValueP (valueW (totF xs) (totT xs)) w3) by
        have hT3 := (HT.out w3 (HB2.out.trans (hw.mono HB2.out.size))).1
        rcases hM with rfl | rfl
        · exact pvalue_any w3 _ _ _ (h1.1.below hw) hT3
        · exact pvalue_any w3 _ _ _ (h1.2.2.below hw) hT3)
      have HCv := Lib.hid (fun w3 B v (ho : BOwn w3 B v L) => conv_own ho hLn.1 hLb)
      have HA3 := Lib.hid (fun w3 (hw : Below w2.heap.size w2 w3) => HA.out w3 (HB2.out.trans (hw.mono HB2.out.size)))
      have hR := valueW_w64 (totF xs) (totT xs)
      generalize valueW (totF xs) (totT xs) = R at *
      have hS := rsame_any R R
      rw [same_self] at hS
      have HS := Lib.hid (fun w3 => hS w3 hR hR)
      generalize strB L = S at *
      clear h1 h2 hL hLn hLb HJ HA H4 HC HXs HX HCell HL hR hS HT hn hn' hk hlt c0 c1
      unfold BytesP at HBy
      unfold ValueP at HVa
      go_upto_region 16 with fail
      have hBw : Below w2.heap.size w2 w2.drew := (Below.refl _ _).drew
      go_region_with
        (first
          | (go_at_call 22; refine (HBy.out _ _ (by omega) hBw).mono ?_; rintro e wn ⟨⟨v, rfl, ho⟩, hbn⟩; have haft : Aft _ wn := hbn; have hrf := Aft.refl wn; have hcv := HCv.out _ _ _ ho; have hBw := below_then hBw hbn; obtain ⟨pa, pl, pc, rfl⟩ := own_slice3 ho; clear ho hbn)
          | (go_at_call 23; refine (HVa.out _ _ (by omega) hBw).mono ?_; rintro e wn ⟨rfl, hbn⟩; have hBw := below_then hBw hbn; clear hbn)
          | (go_at_call 14; refine (HS.out _).mono ?_; rintro e wn ⟨rfl, hd⟩; have hBw := below_then hBw hd.below; clear hd)
          | (go_at_call 9; refine (HA3.out _ hBw).mono ?_; rintro e wn ⟨rfl, hbn⟩; have HE := Lib.hid (below_then HB2.out (below_then hBw hbn)); clear hbn))
      all_goals
        go_wp2_with fail
        go_ret
        exact ⟨rfl, HE.out⟩
end Go.Proofs.YtboinjkeaffboaaDoor.exactOrders
