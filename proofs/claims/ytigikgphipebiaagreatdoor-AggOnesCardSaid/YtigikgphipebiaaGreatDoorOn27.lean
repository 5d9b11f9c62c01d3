/- Contracts that the law leans on, pruned and merged: Exs. -/
import Derived.Deep.RegionLaw
import Derived.Test.YtigikgphipebiaaGreatDoorOn25
import Derived.Test.YtigikgphipebiaaGreatDoorOn26
/- bushelref05: Mean. -/
namespace Go.Proofs.YtigikgphipebiaaGreatDoor
set_option maxRecDepth 100000
open Go.RowKit
set_option linter.unusedVariables false
theorem kinds (x : Nat) : kindI x = 1 ∨ (kindI x = 3 ∧ flagN x = 1 ∧ belowB x = false) ∨ (kindI x = 2 ∧ flagN x = 2 ∧ belowB x = false) ∨ (kindI x = 2 ∧ flagN x = 4 ∧ belowB x = true) ∨ (kindI x = 0 ∧ flagN x = 16 ∧ belowB x = false) ∨ (kindI x = 0 ∧ flagN x = 8 ∧ belowB x = true) := by
  unfold kindI flagN belowB
  cases isNaNB x <;> cases isInfB x <;> cases isZeroB x <;> cases negB x <;> simp
theorem radd_any (w : World) (v : Value) (f x : Nat) (s : Int) (h : SumV w v f s) (hx : W64 x) (hr : Fits (s + unitsI x)) :
    Calls Tryz.prog 108 #[v, .float .f64 x] w (RJoinP (f ||| flagN x) (s + unitsI x) true w) := by
  rcases kinds x with hk | ⟨hk, hf, hb⟩ | ⟨hk, hf, hb⟩ | ⟨hk, hf, hb⟩ | ⟨hk, hf, hb⟩ | ⟨hk, hf, hb⟩
  · rw [flag_one hx hk]
    exact radd_fin w v f x _ s _ true h hx hk (fun w1 v1 v2 h1 h2 => rsjoin_fit w1 v1 v2 f 16 s (unitsI x) h1 h2 hr)
  all_goals rw [units_other (by omega), Int.add_zero, hf]
  · exact radd_nan w v f x s h hx hk hb
  · exact radd_inf_pos w v f x s h hx hk hb
  · exact radd_inf_neg w v f x s h hx hk hb
  · exact radd_zero_pos w v f x s h hx hk hb
  · exact radd_zero_neg w v f x s h hx hk hb
/-- A block that holds a sum of the reference. -/
def SumBox (w : World) (K : Nat) (f : Nat) (t : Int) : Prop := ∃ nb p l c, w.heap[K]? = some (.cells #[.bool (bitB f 0), .bool (bitB f 1), .bool (bitB f 2), .bool (bitB f 3), .bool (bitB f 4), .bool nb, .slice p l c] 95 (0, 0)) ∧ IsNum w (.agg #[.bool nb, .slice p l c]) t ∧ Good f t
theorem SumBox.below {w w' : World} {K f : Nat} {t : Int} (h : SumBox w K f t) (hb : Below w.heap.size w w') : SumBox w' K f t := by
  obtain ⟨nb, p, l, c, h1, h2, h3⟩ := h
  exact ⟨nb, p, l, c, heap_then h1 hb, h2.below hb, h3⟩
theorem SumBox.lt {w : World} {K f : Nat} {t : Int} (h : SumBox w K f t) : K < w.heap.size := by
  obtain ⟨nb, p, l, c, h1, -⟩ := h
  exact (Array.getElem?_eq_some_iff.1 h1).1
/-- A box is written with a sum. -/
theorem SumBox.put {w : World} {K f g : Nat} {t u : Int} {nb : Bool} {p : Option Addr} {l c : Nat} (h : SumBox w K f t) (hn : IsNum w (.agg #[.bool nb, .slice p l c]) u) (hg : Good g u) :
    SumBox (((((((w.setCell ⟨K, 0, none⟩ (.bool (bitB g 0))).setCell ⟨K, 1, none⟩ (.bool (bitB g 1))).setCell ⟨K, 2, none⟩ (.bool (bitB g 2))).setCell ⟨K, 3, none⟩ (.bool (bitB g 3))).setCell ⟨K, 4, none⟩ (.bool (bitB g 4))).setCell ⟨K, 5, none⟩ (.bool nb)).setCell ⟨K, 6, none⟩ (.slice p l c)) K g u := by
  obtain ⟨nb0, p0, l0, c0, h1, -, -⟩ := h
  exact ⟨nb, p, l, c, set7 h1, hn.grown h1 (by decide) (grown7 _ _ _ _ _ _ _ _ _), hg⟩
theorem SumBox.grown {w w' : World} {M K f : Nat} {t : Int} {cur : Array Value} {fr : Nat × Nat} (h : SumBox w M f t) (hp : w.heap[K]? = some (.cells cur 95 fr)) (hne : M ≠ K) (hg : w.grownBy w' (some K)) : SumBox w' M f t := by
  obtain ⟨nb, p, l, c, h1, h2, h3⟩ := h
  exact ⟨nb, p, l, c, (hg.block _ (Array.getElem?_eq_some_iff.1 h1).1 (by simpa using hne)).trans h1, h2.grown hp (by decide) hg, h3⟩
theorem bits0 : bitB 0 0 = false ∧ bitB 0 1 = false ∧ bitB 0 2 = false ∧ bitB 0 3 = false ∧ bitB 0 4 = false := by decide
theorem isNum0 {w : World} : IsNum w (.agg #[.bool false, .slice none 0 0]) 0 := isNum_zero
theorem box_new5 (w : World) : SumBox (w.alloc (.cells #[.bool false, .bool false, .bool false, .bool false, .bool false, .bool false, .slice none 0 0] 95)) w.heap.size 0 0 :=
  ⟨false, none, 0, 0, by rw [bits0.1, bits0.2.1, bits0.2.2.1, bits0.2.2.2.1, bits0.2.2.2.2]; exact heap_alloc_new w _, isNum0, good_zero⟩
def ROfP (xs : List Nat) (w : World) (e : Ending) (w' : World) : Prop := (∃ v, e = .returned v ∧ SumV w' v (totF xs) (totT xs)) ∧ Below w.heap.size w w'
set_option maxHeartbeats 8000000 in
theorem rsof_any (v : Value) (xs : List Nat) (w : World) (hv : Flts w v xs) (hl : xs.length ≤ 900) :
    Calls Tryz.prog 46 #[v] w (ROfP xs w) := by
  have HF := Lib.hid (totT_fewer hv.2)
  have HV := Lib.hid (fun w1 (h : Below w.heap.size w w1) => hv.below h)
  have HW := Lib.hid hv.2
  obtain ⟨p, c, rfl⟩ := hv.shape
  obtain ⟨n, hn⟩ : ∃ n, xs.length = n := ⟨_, rfl⟩
  rw [hn] at HF hl HV ⊢
  have Hn := Lib.hid hn
  have h1 := below_one w (.cells #[.bool false, .bool false, .bool false, .bool false, .bool false, .bool false, .slice none 0 0] 95)
  have h2 := box_new5 w
  have h3 := box_new5 (w.alloc (.cells #[.bool false, .bool false, .bool false, .bool false, .bool false, .bool false, .slice none 0 0] 95))
  have h4 := below_one (w.alloc (.cells #[.bool false, .bool false, .bool false, .bool false, .bool false, .bool false, .slice none 0 0] 95)) (.cells #[.bool false, .bool false, .bool false, .bool false, .bool false, .bool false, .slice none 0 0] 95)
  have H0 := Lib.hid (And.intro (h2.below h4) (And.intro (show SumBox _ (w.heap.size + 1) 0 0 by simpa using h3) (below_then h1 h4)))
  clear hv hn h1 h2 h3 h4
  unfold ROfP
  go_enter Tryz.func46, Tryz.ntmps46
  go_wp2_with fail
  go_loopw [4] (fun i wr => ∃ k : Nat, k ≤ n ∧ i = .int .i64 k ∧ Hid (SumBox wr w.heap.size 0 0) ∧ Hid (SumBox wr (w.heap.size + 1) (totF (xs.take k)) (totT (xs.take k))) ∧ Hid (Below w.heap.size w wr)) (fun i _ => n - (intOf i).toNat)
  case atStart => exact ⟨0, Nat.zero_le _, rfl, Lib.hid H0.out.1, Lib.hid (by rw [List.take_zero]; exact H0.out.2.1), Lib.hid H0.out.2.2⟩
  case round =>
    obtain ⟨k, hk, rfl, hr0, hs0, hb⟩ := hrel
    by_cases hlt : k < n
    · obtain ⟨b, off, hp, hbl, hcell⟩ := (HV.out wr hb.out).cell (i := k) (by rw [Hn.out]; omega)
      have hfe := HF.out (k + 1) (by omega)
      have hx := HW.out k
      have ht := take_snocN xs k (by rw [Hn.out]; omega)
      generalize xs.getD k 0 = x at *
      rw [ht, totT_snoc] at hfe
      have hfit := hfe.fits (by omega)
      have hs := hs0.out
      obtain ⟨nb, q, ql, qc, hh, hnum, hg⟩ := hs
      have HA := Lib.hid (fun w1 (h : Below wr.heap.size wr w1) => radd_any w1 (.agg #[.bool (bitB (totF (xs.take k)) 0), .bool (bitB (totF (xs.take k)) 1), .bool (bitB (totF (xs.take k)) 2), .bool (bitB (totF (xs.take k)) 3), .bool (bitB (totF (xs.take k)) 4), .bool nb, .slice q ql qc]) (totF (xs.take k)) x (totT (xs.take k)) ⟨nb, q, ql, qc, rfl, hnum.below h, hg⟩ hx hfit)
      rw [← totF_snoc, ← totT_snoc, ← ht] at HA
      unfold RJoinP at HA
      obtain ⟨⟨a0, a1, a2, a3, a4, a5, a6⟩, -⟩ := seven_at hh
      subst hp
      have Hbw := Lib.hid hb.out
      generalize hf5 : totF (xs.take k) = F5 at *
      generalize hf6 : totF (xs.take (k + 1)) = F6 at *
      have HF6 := Lib.hid hf6
      have HH := Lib.hid hh
      clear hfe hfit ht hbl hh hnum hg H0 hx hf5 hf6
      go_upto_region 5 with fail
      have e0 : wr.drew.cell? ⟨w.heap.size + 1, 0, none⟩ = some (.bool (bitB F5 0)) := by simp [a0]
      have e1 : wr.drew.cell? ⟨w.heap.size + 1, 1, none⟩ = some (.bool (bitB F5 1)) := by simp [a1]
      have e2 : wr.drew.cell? ⟨w.heap.size + 1, 2, none⟩ = some (.bool (bitB F5 2)) := by simp [a2]
      have e3 : wr.drew.cell? ⟨w.heap.size + 1, 3, none⟩ = some (.bool (bitB F5 3)) := by simp [a3]
      have e4 : wr.drew.cell? ⟨w.heap.size + 1, 4, none⟩ = some (.bool (bitB F5 4)) := by simp [a4]
      have e5 : wr.drew.cell? ⟨w.heap.size + 1, 5, none⟩ = some (.bool nb) := by simp [a5]
      have e6 : wr.drew.cell? ⟨w.heap.size + 1, 6, none⟩ = some (.slice q ql qc) := by simp [a6]
      have ec : wr.drew.cell? ⟨b, off + k, none⟩ = some (.float .f64 x) := by simp [hcell]
      have hBw : Below wr.heap.size wr wr.drew := (Below.refl _ _).drew
      go_region_law (first
        | (go_simp; go_at_call 108; refine (HA.out _ hBw).mono ?_; rintro e w2 ⟨⟨rv, rfl, nb2, q2, l2, c2, rfl, hn2, hg2⟩, hb2⟩; have hbd := below_then hBw hb2; obtain ⟨⟨c0, c1', c2', c3', c4', c5', c6'⟩, f0, f1, f2, f3, f4, f5, f6⟩ := seven_at (heap_then HH.out hbd)))
      all_goals
        have hput := SumBox.put (hs0.out.below hbd) hn2 hg2
        have hg7 := grown7 w2 (w.heap.size + 1) (.bool (bitB F6 0)) (.bool (bitB F6 1)) (.bool (bitB F6 2)) (.bool (bitB F6 3)) (.bool (bitB F6 4)) (.bool nb2) (.slice q2 l2 c2)
        have hR := (hr0.out.below hbd).grown (heap_then HH.out hbd) (by omega) hg7
        have hBB := (below_then Hbw.out hbd).grown hg7 (below_then Hbw.out hbd).size (fun k hk => by simp only [Option.some.injEq] at hk; omega)
        have HPut := Lib.hid hput
        have HR := Lib.hid hR
        have HBB := Lib.hid hBB
        clear hput hg7 hR hBB hn2 hg2 hb2 hbd HA
        go_wp2_with fail
        go_roundw
        case rel => exact ⟨k + 1, by omega, by go_num, HR, Lib.hid (by rw [HF6.out]; exact HPut.out), HBB⟩
        case measure => simp [intOf]; omega
    · obtain rfl : k = n := by omega
      have hs := hs0.out
      rw [← Hn.out, List.take_length] at hs
      obtain ⟨nb, q, ql, qc, hh, hnum, hg⟩ := hs
      have hR := hr0.out
      obtain ⟨rb, rp, rl, rc, hr, -, -⟩ := hR
      obtain ⟨⟨a0, a1, a2, a3, a4, a5, a6⟩, -⟩ := seven_at hh
      obtain ⟨⟨r0, r1, r2, r3, r4, r5, r6⟩, f0, f1, f2, f3, f4, f5, f6⟩ := seven_at hr
      have HR := Lib.hid hr
      have HNm := Lib.hid hnum
      have HGr := Lib.hid hg
      generalize hF7 : totF xs = F7 at *
      generalize hT7 : totT xs = T7 at *
      clear hh hnum hg hr hs0 hr0 H0
      go_wp2_with fail
      have hf := set7 (a' := .bool (bitB F7 0)) (b' := .bool (bitB F7 1)) (c' := .bool (bitB F7 2)) (d' := .bool (bitB F7 3)) (e' := .bool (bitB F7 4)) (f' := .bool nb) (g' := .slice q ql qc) HR.out
      have hgr := grown7 wr (w.heap.size) (.bool (bitB F7 0)) (.bool (bitB F7 1)) (.bool (bitB F7 2)) (.bool (bitB F7 3)) (.bool (bitB F7 4)) (.bool nb) (.slice q ql qc)
      have hn := HNm.out.grown HR.out (by decide) hgr
      have hbl := hb.out.grown hgr hb.out.size (fun k hk => by simp only [Option.some.injEq] at hk; omega)
      generalize (((((((wr.setCell ⟨w.heap.size, 0, none⟩ (.bool (bitB F7 0))).setCell ⟨w.heap.size, 1, none⟩ (.bool (bitB F7 1))).setCell ⟨w.heap.size, 2, none⟩ (.bool (bitB F7 2))).setCell ⟨w.heap.size, 3, none⟩ (.bool (bitB F7 3))).setCell ⟨w.heap.size, 4, none⟩ (.bool (bitB F7 4))).setCell ⟨w.heap.size, 5, none⟩ (.bool nb)).setCell ⟨w.heap.size, 6, none⟩ (.slice q ql qc)) = wz at *
      obtain ⟨⟨k0, k1, k2, k3, k4, k5, k6⟩, -⟩ := seven_at hf
      exact bodyPost_ret (v := .agg #[.bool (bitB F7 0), .bool (bitB F7 1), .bool (bitB F7 2), .bool (bitB F7 3), .bool (bitB F7 4), .bool nb, .slice q ql qc]) (by simp [results, Tryz.results46, go_sem, k0, k1, k2, k3, k4, k5, k6]) rfl ⟨⟨_, rfl, nb, q, ql, qc, by rw [hF7], by rw [hT7]; exact hn, by rw [hF7, hT7]; exact HGr.out⟩, hbl⟩
set_option maxRecDepth 100000
open Go.RowKit
set_option linter.unusedVariables false
end Go.Proofs.YtigikgphipebiaaGreatDoor
