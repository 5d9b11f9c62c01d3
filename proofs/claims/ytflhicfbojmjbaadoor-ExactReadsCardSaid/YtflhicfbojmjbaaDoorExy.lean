/- Both sides of a sum: is; boxes beside sums. -/
import Derived.Test.YtflhicfbojmjbaaDoorExt
import Derived.Deep.RegionWith
import Derived.Deep.DrawnRows
namespace Go.Proofs.YtflhicfbojmjbaaDoor
set_option maxRecDepth 100000
open Go.RowKit
set_option linter.unusedVariables false
attribute [local go_sem ↓] Go.wp_at_zero Go.wp_at_succ
/-- A sum stays as it is where a box of another type is written. -/
theorem SumAt.box {w w' : World} {M K f : Nat} {t : Int} {cur : Array Value} {fr : Nat × Nat} (h : SumAt w M f t) (hp : w.heap[K]? = some (.cells cur 32 fr)) (hg : w.grownBy w' (some K)) : SumAt w' M f t := by
  obtain ⟨v, h1, ⟨a, m1, m2, m3⟩, h3⟩ := h
  have hne : M ≠ K := by
    rintro rfl
    unfold Cells4 at h1
    rw [h1] at hp
    simp at hp
  refine ⟨v, ?_, ⟨a, ⟨m1.1.grown m2 hp (by decide) hg, m1.2⟩, m2.grown hp (by decide) hg, m3⟩, h3⟩
  unfold Cells4
  rw [hg.block M h1.lt (by simpa using hne)]; exact h1
theorem SumBox.sum {w w' : World} {K f : Nat} {t : Int} {N g : Nat} {u : Int} (h : SumBox w K f t) (k : SumAt w N g u) (hg : w.grownBy w' (some N)) : SumBox w' K f t := by
  obtain ⟨nb, p, l, c, h1, h2, h3⟩ := h
  have hne : K ≠ N := by
    rintro rfl
    obtain ⟨x, k1, -⟩ := k
    unfold Cells4 at k1
    rw [k1] at h1
    simp at h1
  exact ⟨nb, p, l, c, (hg.block _ (Array.getElem?_eq_some_iff.1 h1).1 (by simpa using hne)).trans h1, h2.sum k hg, h3⟩
abbrev SevenAt (N : Nat) (b0 b1 b2 b3 b4 b5 : Bool) (v : Value) (w : World) : Prop := w.cell? ⟨N, 0, none⟩ = some (.bool b0) ∧ w.cell? ⟨N, 1, none⟩ = some (.bool b1) ∧ w.cell? ⟨N, 2, none⟩ = some (.bool b2) ∧ w.cell? ⟨N, 3, none⟩ = some (.bool b3) ∧ w.cell? ⟨N, 4, none⟩ = some (.bool b4) ∧ w.cell? ⟨N, 5, none⟩ = some (.bool b5) ∧ w.cell? ⟨N, 6, none⟩ = some v
theorem SevenAt.call {N : Nat} {b0 b1 b2 b3 b4 b5 : Bool} {v : Value} {w w' : World} (h : SevenAt N b0 b1 b2 b3 b4 b5 v w) (hb : Below w.heap.size w w') : SevenAt N b0 b1 b2 b3 b4 b5 v w' :=
  ⟨cell_later hb h.1, cell_later hb h.2.1, cell_later hb h.2.2.1, cell_later hb h.2.2.2.1, cell_later hb h.2.2.2.2.1, cell_later hb h.2.2.2.2.2.1, cell_later hb h.2.2.2.2.2.2⟩
set_option maxHeartbeats 4000000 in
theorem is_any (w : World) (N f : Nat) (t : Int) (v : Value) (hs : SumAt w N f t) (hv : SumV w v f t) (hT : Tab w) :
    Calls Tryd.prog 8 #[.pointer (some ⟨N, 0, none⟩), v] w fun e w' => e = .returned (.bool true) ∧ Below w.heap.size w w' := by
  obtain ⟨l, hl⟩ := hs.enc
  have hVP := Lib.hid (fun w1 (h : Below w.heap.size w w1) => pvalue_any w1 N f t (hs.below h) (hT.call h))
  have hVR := Lib.hid (fun w1 (h : Below w.heap.size w w1) => rvalue_any w1 v f t (hv.below h))
  have hBP := Lib.hid (fun w1 (h : Below w.heap.size w w1) => pbytes_any w1 N f t l (hs.below h) hl (hT.call h))
  have hBR := Lib.hid (fun w1 (h : Below w.heap.size w w1) => rsbytes_any w1 v f t l (hv.below h) hl)
  have HCv := Lib.hid (fun w3 B v (ho : BOwn w3 B v l) => conv_own ho hl.len.1 (hl.bt hs.good.1))
  have hR := valueW_w64 f t
  have HS := Lib.hid (fun w3 X (hX : W64 X) (hs : sameB (valueW f t) X = true) => show Calls Tryd.prog 21 #[.float .f64 (valueW f t), .float .f64 X] w3 _ by have h := rsame_any (valueW f t) X w3 hR hX; rw [hs] at h; exact h)
  unfold BytesP at hBP hBR
  unfold ValueP at hVP
  unfold RValP at hVR
  generalize valueW f t = R at *
  generalize strB l = S at *
  obtain ⟨nb, p, q, c, rfl, -, -⟩ := hv
  have hB0 := below_one w (.cells #[.bool (bitB f 0), .bool (bitB f 1), .bool (bitB f 2), .bool (bitB f 3), .bool (bitB f 4), .bool nb, .slice p q c] 32)
  have hW0 := heap_alloc_new w (.cells #[.bool (bitB f 0), .bool (bitB f 1), .bool (bitB f 2), .bool (bitB f 3), .bool (bitB f 4), .bool nb, .slice p q c] 32)
  generalize bitB f 0 = x0 at *
  generalize bitB f 1 = x1 at *
  generalize bitB f 2 = x2 at *
  generalize bitB f 3 = x3 at *
  generalize bitB f 4 = x4 at *
  have HB0 := Lib.hid hB0
  have HW0 := Lib.hid hW0
  clear hB0 hW0 hs hl hT hR
  go_enter Tryd.func8, Tryd.ntmps8
  go_wp2_with fail
  obtain ⟨⟨k0, k1, k2, k3, k4, k5, k6⟩, -⟩ := seven_at HW0.out
  have HK := Lib.hid (show SevenAt w.heap.size x0 x1 x2 x3 x4 nb (.slice p q c) _ from ⟨k0, k1, k2, k3, k4, k5, k6⟩)
  clear k0 k1 k2 k3 k4 k5 k6 HW0
  generalize w.alloc (.cells #[.bool x0, .bool x1, .bool x2, .bool x3, .bool x4, .bool nb, .slice p q c] 32) = W at *
  have hk : SevenAt w.heap.size x0 x1 x2 x3 x4 nb (.slice p q c) W.drew := HK.out.call (Below.refl _ _).drew
  have hBw : Below W.heap.size W W.drew := (Below.refl _ _).drew
  go_region_with
    (first
      | (go_at_call 22; refine (hVP.out _ (below_then HB0.out hBw)).mono ?_; rintro e wn ⟨rfl, hbn⟩; have hk := SevenAt.call hk hbn; have hBw := below_then hBw hbn; clear hbn)
      | (go_at_call 23; refine (hVR.out _ (below_then HB0.out hBw)).mono ?_; rintro e wn ⟨⟨X, hX1, hX2, rfl⟩, hbn⟩; have HX := Lib.hid (And.intro hX1 hX2); have hk := SevenAt.call hk hbn; have hBw := below_then hBw hbn; clear hbn hX1 hX2)
      | (go_at_call 21; refine (HS.out _ _ HX.out.1 HX.out.2).mono ?_; rintro e wn ⟨rfl, hd⟩; have hk := SevenAt.call hk hd.below; have hBw := below_then hBw hd.below; clear hd)
      | (go_at_call 9; refine (hBP.out _ (below_then HB0.out hBw)).mono ?_; rintro e wn ⟨⟨v, rfl, ho⟩, hbn⟩; have haft : Aft _ wn := hbn; have hrf := Aft.refl wn; have hcv := HCv.out _ _ _ ho; have hk := SevenAt.call hk hbn; have hBw := below_then hBw hbn; obtain ⟨pa, pl, pc, rfl⟩ := own_slice3 ho; clear ho hbn)
      | (go_at_call 24; refine (hBR.out _ (below_then HB0.out hBw)).mono ?_; rintro e wn ⟨⟨v, rfl, ho⟩, hbn⟩; have haft : Aft _ wn := hbn; have hrf := Aft.refl wn; have hcv := HCv.out _ _ _ ho; have hk := SevenAt.call hk hbn; have hBw := below_then hBw hbn; obtain ⟨pa, pl, pc, rfl⟩ := own_slice3 ho; clear ho hbn))
  all_goals
    have HE := Lib.hid (below_then HB0.out hBw)
    clear hk hBw
    go_wp2_with fail
    go_ret
    exact ⟨rfl, HE.out⟩
end Go.Proofs.YtflhicfbojmjbaaDoor
