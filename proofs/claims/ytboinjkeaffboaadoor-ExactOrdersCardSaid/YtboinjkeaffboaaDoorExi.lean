/- The chapter's examples. -/
import Derived.Test.YtboinjkeaffboaaDoorExh
namespace Go.Proofs.YtboinjkeaffboaaDoor
set_option maxRecDepth 100000
open Go.RowKit
set_option linter.unusedVariables false
theorem awake_flag : totF [4845873199050653696, 4607182418800017408, 14069245235905429504] = 16 := by decide +kernel
theorem awake_total : totT [4845873199050653696, 4607182418800017408, 14069245235905429504] = unitsI 4607182418800017408 := by decide +kernel
theorem awake_val : valueW (totF [4845873199050653696, 4607182418800017408, 14069245235905429504]) (totT [4845873199050653696, 4607182418800017408, 14069245235905429504]) = 4607182418800017408 := by
  rw [awake_flag, awake_total]
  have hk : kindI 4607182418800017408 = 1 := by decide +kernel
  have hn := units_neg (x := 4607182418800017408) (by decide) hk
  have hb : negB 4607182418800017408 = false := by decide +kernel
  have hr := (near_float (r := 4607182418800017408) (by decide) (by decide)).1
  have hu : unitsI 4607182418800017408 = ((unitsN 4607182418800017408 : Nat) : Int) := by
    unfold unitsI
    rw [if_pos hk, hb]
    rfl
  rw [hb] at hn
  unfold valueW
  rw [hn, hu, Int.natAbs_natCast, hr]
  rfl
theorem flts3 (w : World) (x y z : Nat) (hx : W64 x) (hy : W64 y) (hz : W64 z) : Flts (w.alloc (.cells #[.float .f64 x, .float .f64 y, .float .f64 z] 33)) (.slice (some ⟨w.heap.size, 0, none⟩) 3 3) [x, y, z] := by

  refine ⟨⟨_, 3, rfl, by simp, .inr ⟨w.heap.size, 0, rfl, by simp, fun i hi => ?_⟩⟩, fun i => ?_⟩
  · have : i = 0 ∨ i = 1 ∨ i = 2 := by simp at hi; omega
    rcases this with rfl | rfl | rfl <;> simp [go_sem]
  · by_cases h0 : i = 0
    · subst h0; exact hx
    · by_cases h1 : i = 1
      · subst h1; exact hy
      · by_cases h2 : i = 2
        · subst h2; exact hz
        · have : ([x, y, z].getD i 0) = 0 := by simp [List.getD, List.getElem?_eq_none (show [x, y, z].length ≤ i by simp; omega)]
          rw [this]; decide
theorem enc_zero : IsEnc 0 0 [0, 0, 0] := ⟨[], Wd.nil, .inl rfl, by simp [wv, wvN], by simp, rfl⟩
set_option maxHeartbeats 2000000 in
theorem awake5_any (w : World) (hT : Tab w) (hT2 : Tab64 w) : Calls Tryd.prog 9 #[] w fun e w' => e = .returned (.bool true) ∧ Below w.heap.size w w' := by
  have HB := Lib.hid (pbytes_any (w.alloc (.cells #[.slice none 0 0, .bool false, .int .u8 0, .bool true] 60)) w.heap.size 0 0 [0, 0, 0] (sum_new w) enc_zero (hT.call (below_one w _)))
  have HTo := Lib.hid (fun w1 v (hb : Below w.heap.size w w1) (hv : Flts w1 v [4845873199050653696, 4607182418800017408, 14069245235905429504]) => ptotal_any v _ w1 hv (by decide) (hT.call hb) (hT2.call hb))
  rw [awake_val] at HTo
  have hop : (FloatKind.f64.format.order 4607182418800017408 4607182418800017408 == some .eq) = true := by decide +kernel
  unfold ValueP at HTo
  unfold BytesP at HB
  clear hT hT2
  go_enter Tryd.func9, Tryd.ntmps9
  go_wp2_with fail
  refine (xnew_any _).mono ?_; rintro e w1 ⟨rfl, rfl⟩
  go_wp2_with fail
  refine (HB.out).mono ?_; rintro e w1 ⟨⟨v, rfl, ho⟩, hb⟩
  have hB1 := below_then (below_one w _) hb
  have hF := flts3 w1 4845873199050653696 4607182418800017408 14069245235905429504 (by decide) (by decide) (by decide)
  have hB2 := below_then hB1 (below_one w1 (.cells #[.float .f64 4845873199050653696, .float .f64 4607182418800017408, .float .f64 14069245235905429504] 33))
  have HT1 := Lib.hid (HTo.out _ _ hB2 hF)
  have HB2 := Lib.hid hB2
  obtain ⟨g, cap, hg, hc⟩ : ∃ g cap, v = .slice (some ⟨g, 0, none⟩) 3 cap ∧ (∀ j, j < 3 → w1.cell? ⟨g, j, none⟩ = some (.int .u8 0)) := by
    have hi := Ints.own ho
    obtain ⟨a, c, rfl, -, h | ⟨b, off, rfl, hb, hcell⟩⟩ := hi
    · cases h
    · rcases ho.2 with ⟨h, -⟩ | ⟨g, cap, cur, h, -⟩
      · cases h
      · simp only [Value.slice.injEq, Option.some.injEq, Addr.mk.injEq] at h
        obtain ⟨⟨rfl, rfl, -⟩, -, rfl⟩ := h
        refine ⟨_, _, rfl, fun j hj => ?_⟩
        have h2 := hcell j hj
        have : j = 0 ∨ j = 1 ∨ j = 2 := by omega
        rcases this with rfl | rfl | rfl <;> simpa using h2
  subst hg
  have c0 := hc 0 (by decide)
  have c1 := hc 1 (by decide)
  have c2 := hc 2 (by decide)
  have HC := Lib.hid (And.intro c0 (And.intro c1 c2))
  clear ho hb hB1 hF hB2 hc HB HTo c0 c1 c2
  go_wp2_with fail
  refine (HT1.out).mono ?_; rintro e w2 ⟨rfl, hb⟩
  have HE := Lib.hid (below_then HB2.out hb)
  have c0 := cell_later hb (cell_later (below_one w1 _) HC.out.1)
  have c1 := cell_later hb (cell_later (below_one w1 _) HC.out.2.1)
  have c2 := cell_later hb (cell_later (below_one w1 _) HC.out.2.2)
  clear hb HT1 HB2 HC
  go_wp2_with fail
  go_ret
  exact ⟨rfl, HE.out⟩
end Go.Proofs.YtboinjkeaffboaaDoor
