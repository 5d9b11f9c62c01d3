/- Package exact: Total, Mean; sums that nobody made; the chapter's examples. -/
import Derived.Test.YtboinjkeaffboaaDoorExf
import Derived.Test.YtboinjkeaffboaaDoorLaid2
namespace Go.Proofs.YtboinjkeaffboaaDoor
set_option maxRecDepth 100000
open Go.RowKit
set_option linter.unusedVariables false
/-- A slice value reads as these floats. -/
def Flts (w : World) (v : Value) (xs : List Nat) : Prop :=
  (∃ a cap, v = .slice a xs.length cap ∧ xs.length ≤ cap ∧ (xs = [] ∨ ∃ b off, a = some ⟨b, off, none⟩ ∧ b < w.heap.size ∧ ∀ i, i < xs.length → w.cell? ⟨b, off + i, none⟩ = some (.float .f64 (xs.getD i 0)))) ∧ ∀ i, W64 (xs.getD i 0)
theorem Flts.shape {w : World} {v : Value} {xs : List Nat} (h : Flts w v xs) : ∃ p c, v = .slice p xs.length c := by
  obtain ⟨⟨a, c, rfl, -⟩, -⟩ := h
  exact ⟨a, c, rfl⟩
theorem Flts.cell {w : World} {p : Option Addr} {l c : Nat} {xs : List Nat} (h : Flts w (.slice p l c) xs) {i : Nat} (hi : i < xs.length) : ∃ b off, p = some ⟨b, off, none⟩ ∧ b < w.heap.size ∧ w.cell? ⟨b, off + i, none⟩ = some (.float .f64 (xs.getD i 0)) := by
  obtain ⟨⟨a, c', e, -, hc⟩, -⟩ := h
  simp only [Value.slice.injEq] at e
  obtain ⟨rfl, -, -⟩ := e
  rcases hc with rfl | ⟨b, off, rfl, hb, hcell⟩
  · simp at hi
  · exact ⟨b, off, rfl, hb, hcell i hi⟩
theorem Flts.below {w w' : World} {v : Value} {xs : List Nat} (h : Flts w v xs) (hb : Below w.heap.size w w') : Flts w' v xs := by
  obtain ⟨⟨a, c, rfl, hl, hc⟩, hx⟩ := h
  refine ⟨⟨a, c, rfl, hl, hc.imp id ?_⟩, hx⟩
  rintro ⟨b, off, rfl, hbl, hcell⟩
  exact ⟨b, off, rfl, Nat.lt_of_lt_of_le hbl hb.size, fun i hi => (hb.cell (p := ⟨b, off + i, none⟩) hbl).trans (hcell i hi)⟩
def totF (xs : List Nat) : Nat := xs.foldl (fun f x => f ||| flagN x) 0
def totT (xs : List Nat) : Int := xs.foldl (fun t x => t + unitsI x) 0
theorem totF_snoc (xs : List Nat) (x : Nat) : totF (xs ++ [x]) = totF xs ||| flagN x := by unfold totF; rw [List.foldl_append]; rfl
theorem totT_snoc (xs : List Nat) (x : Nat) : totT (xs ++ [x]) = totT xs + unitsI x := by unfold totT; rw [List.foldl_append]; rfl
theorem take_snocN (l : List Nat) (k : Nat) (h : k < l.length) : l.take (k + 1) = l.take k ++ [l.getD k 0] := by
  rw [List.take_succ_eq_append_getElem h]; simp [List.getD, h]
theorem totT_fewer {xs : List Nat} (h : ∀ i, W64 (xs.getD i 0)) : ∀ k, k ≤ xs.length → Fewer k (totT (xs.take k))
  | 0, _ => by rw [List.take_zero]; exact Fewer.zero
  | k + 1, hk => by
    rw [take_snocN xs k (by omega), totT_snoc]
    exact (totT_fewer h k (by omega)).add (fewer_one _ (h k))
set_option maxHeartbeats 2000000 in
theorem ptotal_any (v : Value) (xs : List Nat) (w : World) (hv : Flts w v xs) (hl : xs.length ≤ 900) (hT : Tab w) (hT2 : Tab64 w) :
    Calls Tryd.prog 15 #[v] w (ValueP (valueW (totF xs) (totT xs)) w) := by
  have HF := Lib.hid (totT_fewer hv.2)
  have HV := Lib.hid (fun w1 (h : Below w.heap.size w w1) => hv.below h)
  have HT := Lib.hid (fun w1 (h : Below w.heap.size w w1) => And.intro (hT.call h) (hT2.call h))
  have HW := Lib.hid hv.2
  obtain ⟨R, hR⟩ : ∃ R, valueW (totF xs) (totT xs) = R := ⟨_, rfl⟩
  rw [hR]
  have HR := Lib.hid hR
  obtain ⟨p, c, rfl⟩ := hv.shape
  obtain ⟨n, hn⟩ : ∃ n, xs.length = n := ⟨_, rfl⟩
  rw [hn] at HF hl HV ⊢
  have Hn := Lib.hid hn
  clear hv hT hT2 hR hn
  unfold ValueP
  go_enter Tryd.func15, Tryd.ntmps15
  go_wp2_with fail
  refine (xnew_any _).mono ?_; rintro e w1 ⟨rfl, rfl⟩
  have hS0 := sum_new w
  have hB0 := below_one w (.cells #[.slice none 0 0, .bool false, .int .u8 0, .bool true] 60)
  go_wp2_with fail
  go_loopw [9] (fun i wr => ∃ k : Nat, k ≤ n ∧ i = .int .i64 k ∧ Hid (SumAt wr w.heap.size (totF (xs.take k)) (totT (xs.take k))) ∧ Hid (Below w.heap.size w wr)) (fun i _ => n - (intOf i).toNat)
  case atStart => exact ⟨0, Nat.zero_le _, rfl, Lib.hid hS0, Lib.hid hB0⟩
  case round =>
    obtain ⟨k, hk, rfl, hs, hb⟩ := hrel
    clear hS0 hB0
    by_cases hlt : k < n
    · obtain ⟨b, off, hp, hbl, hcell⟩ := (HV.out wr hb.out).cell (i := k) (by rw [Hn.out]; omega)
      have hfe := HF.out (k + 1) (by omega)
      have hx := HW.out k
      have ht := take_snocN xs k (by rw [Hn.out]; omega)
      generalize xs.getD k 0 = x at *
      rw [ht, totT_snoc] at hfe
      have HA := Lib.hid (padd_fit wr w.heap.size _ x _ hs.out hx (HT.out wr hb.out).2 (hfe.fits (by omega)))
      rw [← totF_snoc, ← totT_snoc, ← ht] at HA
      subst hp
      clear hfe ht hbl hs
      go_wp2_with fail
      refine (HA.out).mono ?_; rintro e w2 ⟨rfl, h1, h2⟩
      have H1 := Lib.hid h1
      have H2 := Lib.hid (hb.out.grown h2 hb.out.size (fun j hj => by simp only [Option.some.injEq] at hj; omega))
      clear h1 h2 HA hcell
      go_wp2_with fail
      go_roundw
      case rel => exact ⟨k + 1, by omega, by go_num, H1, H2⟩
      case measure => simp [intOf]; omega
    · obtain rfl : k = n := by omega
      have HVl := Lib.hid (pvalue_any wr w.heap.size _ _ hs.out (HT.out wr hb.out).1)
      rw [← Hn.out, List.take_length, HR.out] at HVl
      clear hs HF
      go_wp2_with fail
      refine (HVl.out).mono ?_; rintro e w2 ⟨rfl, h2⟩
      have HE := Lib.hid (below_then hb.out h2)
      clear h2 HVl
      go_wp2_with fail
      go_ret
      exact ⟨rfl, HE.out⟩
end Go.Proofs.YtboinjkeaffboaaDoor
