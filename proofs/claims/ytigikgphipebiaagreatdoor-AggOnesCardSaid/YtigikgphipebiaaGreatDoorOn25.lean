/- Contracts that the law leans on, pruned and merged: Exo. -/
import Derived.Test.YtigikgphipebiaaGreatDoorOn19
/- bushelref05: Join where there is room. -/
namespace Go.Proofs.YtigikgphipebiaaGreatDoor
set_option maxRecDepth 100000
open Go.RowKit
set_option linter.unusedVariables false
set_option maxRecDepth 100000
open Go.RowKit
set_option linter.unusedVariables false
/-- A flag of a state. -/
def bitB (f i : Nat) : Bool := f.testBit i
theorem bitB_or (f g i : Nat) : bitB (f ||| g) i = (bitB f i || bitB g i) := Nat.testBit_or f g i
/-- A value of the reference's sums, in a state. -/
def SumV (w : World) (v : Value) (f : Nat) (t : Int) : Prop := ∃ nb p l c, v = .agg #[.bool (bitB f 0), .bool (bitB f 1), .bool (bitB f 2), .bool (bitB f 3), .bool (bitB f 4), .bool nb, .slice p l c] ∧ IsNum w (.agg #[.bool nb, .slice p l c]) t ∧ Good f t
theorem SumV.below {w w' : World} {v : Value} {f : Nat} {t : Int} (h : SumV w v f t) (hb : Below w.heap.size w w') : SumV w' v f t := by
  obtain ⟨nb, p, l, c, rfl, h2, h3⟩ := h
  exact ⟨nb, p, l, c, rfl, h2.below hb, h3⟩
set_option maxRecDepth 100000
open Go.RowKit
set_option linter.unusedVariables false
theorem sized_abs {t : Int} (h : Sized 20000 (t.natAbs : Int)) : Sized 20000 t := ⟨by have := h.2; omega, by have := h.2; omega⟩
theorem sized_nabs {t : Int} (h : Sized 20000 t) : Sized 20000 (t.natAbs : Int) := by
  obtain ⟨h1, h2⟩ := h
  unfold Sized
  generalize (1000 : Int) ^ 20000 = M at *
  omega
theorem sized_fits {t : Int} (h : Fits t) : Sized 20000 t := by
  obtain ⟨N, hN⟩ : ∃ N : Nat, N = 2240 := ⟨_, rfl⟩
  exact sized_abs (sized_nat (N := N) (Nat.le_of_lt (lt_bits (by unfold Fits at h; omega))) (by omega))
theorem sized_sum {s t : Int} (h : Fits s) (k : Fits t) : Sized 20000 (s + t) := by
  obtain ⟨N, hN⟩ : ∃ N : Nat, N = 2240 := ⟨_, rfl⟩
  have h1 := lt_bits (p := s.natAbs) (N := N) (by unfold Fits at h; omega)
  have h2 := lt_bits (p := t.natAbs) (N := N) (by unfold Fits at k; omega)
  have h3 := Int.natAbs_add_le s t
  exact sized_abs (sized_nat (N := N + 1) (by rw [Nat.pow_succ]; omega) (by omega))
theorem fits_test {t : Int} {N : Nat} (hN : N = 2240) : decide (0 ≤ cmpI (t.natAbs : Int) ((2 : Int) ^ N)) = true ↔ ¬ Fits t := by
  unfold Fits
  by_cases h0 : t.natAbs = 0
  · rw [h0]
    have hp : (((0 : Nat) : Int)) < 2 ^ N := Int.pow_pos (by decide)
    rw [cmpI_lt hp]
    simp [bitsZ]
  · have h1 := two_lt_iff (z := t.natAbs) (N := N) h0
    unfold cmpI
    by_cases h2 : (t.natAbs : Int) < 2 ^ N
    · rw [if_pos h2]
      have := h1.1 h2
      simp; omega
    · rw [if_neg h2]
      have : ¬ bitsZ (t.natAbs : Int) ≤ N := fun hh => h2 (h1.2 hh)
      constructor
      · intro _; omega
      · intro _; rw [decide_eq_true_eq]; split <;> omega
/-- The block of a sum of the reference, of seven cells, is written. -/
theorem set7 {w : World} {N : Nat} {T : TypeId} {a b c d e f g a' b' c' d' e' f' g' : Value} (h : w.heap[N]? = some (.cells #[a, b, c, d, e, f, g] T (0, 0))) :
    (((((((w.setCell ⟨N, 0, none⟩ a').setCell ⟨N, 1, none⟩ b').setCell ⟨N, 2, none⟩ c').setCell ⟨N, 3, none⟩ d').setCell ⟨N, 4, none⟩ e').setCell ⟨N, 5, none⟩ f').setCell ⟨N, 6, none⟩ g').heap[N]? = some (.cells #[a', b', c', d', e', f', g'] T (0, 0)) := by
  simp [World.setCell, Array.getElem?_modify, h]
theorem grown7 (w : World) (N : Nat) (a' b' c' d' e' f' g' : Value) :
    w.grownBy (((((((w.setCell ⟨N, 0, none⟩ a').setCell ⟨N, 1, none⟩ b').setCell ⟨N, 2, none⟩ c').setCell ⟨N, 3, none⟩ d').setCell ⟨N, 4, none⟩ e').setCell ⟨N, 5, none⟩ f').setCell ⟨N, 6, none⟩ g') (some N) :=
  grown_then (grown_then (grown_then (grown_then (grown_then (grown_then (grown_set w N 0 a') (grown_set _ N 1 b')) (grown_set _ N 2 c')) (grown_set _ N 3 d')) (grown_set _ N 4 e')) (grown_set _ N 5 f')) (grown_set _ N 6 g')
theorem seven_at {w : World} {N : Nat} {T : TypeId} {a b c d e f g : Value} (h : w.heap[N]? = some (.cells #[a, b, c, d, e, f, g] T (0, 0))) :
    (w.cell? ⟨N, 0, none⟩ = some a ∧ w.cell? ⟨N, 1, none⟩ = some b ∧ w.cell? ⟨N, 2, none⟩ = some c ∧ w.cell? ⟨N, 3, none⟩ = some d ∧ w.cell? ⟨N, 4, none⟩ = some e ∧ w.cell? ⟨N, 5, none⟩ = some f ∧ w.cell? ⟨N, 6, none⟩ = some g) ∧
    (w.frozen? ⟨N, 0, none⟩ = false ∧ w.frozen? ⟨N, 1, none⟩ = false ∧ w.frozen? ⟨N, 2, none⟩ = false ∧ w.frozen? ⟨N, 3, none⟩ = false ∧ w.frozen? ⟨N, 4, none⟩ = false ∧ w.frozen? ⟨N, 5, none⟩ = false ∧ w.frozen? ⟨N, 6, none⟩ = false) := by
  refine ⟨⟨by simp [World.cell?, h], by simp [World.cell?, h], by simp [World.cell?, h], by simp [World.cell?, h], by simp [World.cell?, h], by simp [World.cell?, h], by simp [World.cell?, h]⟩, ⟨by simp [World.frozen?, h], by simp [World.frozen?, h], by simp [World.frozen?, h], by simp [World.frozen?, h], by simp [World.frozen?, h], by simp [World.frozen?, h], by simp [World.frozen?, h]⟩⟩
theorem heap_then {w w' : World} {N : Nat} {o : Obj} (h : w.heap[N]? = some o) (hb : Below w.heap.size w w') : w'.heap[N]? = some o := by
  rw [hb.block N (Array.getElem?_eq_some_iff.1 h).1]; exact h
theorem three_blocks (w : World) (a b c : Obj) : (((w.alloc a).alloc b).alloc c).heap[w.heap.size]? = some a ∧ (((w.alloc a).alloc b).alloc c).heap[w.heap.size + 1]? = some b ∧ (((w.alloc a).alloc b).alloc c).heap[w.heap.size + 1 + 1]? = some c := by
  have h0 := heap_then (heap_then (heap_alloc_new w a) (below_one _ b)) (below_one _ c)
  have h1 := heap_then (heap_alloc_new (w.alloc a) b) (below_one _ c)
  have h2 := heap_alloc_new ((w.alloc a).alloc b) c
  exact ⟨h0, by simpa using h1, by simpa using h2⟩
def RJoinP (f : Nat) (t : Int) (ok : Bool) (w : World) (e : Ending) (w' : World) : Prop := (∃ v, e = .returned (.tuple #[v, .bool ok]) ∧ SumV w' v f t) ∧ Below w.heap.size w w'
set_option maxRecDepth 100000
open Go.RowKit
set_option linter.unusedVariables false
set_option maxHeartbeats 40000000 in
theorem rsjoin_fit (w : World) (u v : Value) (f g : Nat) (s t : Int) (hu : SumV w u f s) (hv : SumV w v g t) (hr : Fits (s + t)) :
    Calls Tryz.prog 58 #[u, v] w (RJoinP (f ||| g) (s + t) true w) := by
  have hgood := hu
  obtain ⟨b1, p1, l1, c1, rfl, n1, g1⟩ := hu
  obtain ⟨b2, p2, l2, c2, rfl, n2, g2⟩ := hv
  have HA := Lib.hid (fun w1 (h : Below w.heap.size w w1) => num_add _ _ s t 20000 w1 (n1.below h) (n2.below h) (sized_fits g1.2.2) (sized_fits g2.2.2) (by decide))
  have HG := Lib.hid (g1.join g2 hr)
  obtain ⟨K, hK⟩ : ∃ K : Nat, K = 2240 := ⟨_, rfl⟩
  have H2 := Lib.hid (fun w1 => two_num 2240 K (Lib.hid (by omega)) w1 (by omega))
  have hft := Lib.hid (fits_test (t := s + t) hK)
  have HS2 := Lib.hid (sized_nabs (sized_sum g1.2.2 g2.2.2))
  have HS3 := Lib.hid (sized_two (N := K) (by omega))
  have HS4 := Lib.hid (sized_sum g1.2.2 g2.2.2)
  have HCm := Lib.hid (fun w1 u v (hu : IsNum w1 u (((s + t).natAbs : Nat) : Int)) (hv : IsNum w1 v (2 ^ K)) => num_cmp u v _ _ 20000 w1 hu hv HS2.out HS3.out (by decide))
  generalize cmpI (((s + t).natAbs : Nat) : Int) (2 ^ K) = C at *
  have hC : C < 0 := by
    apply Classical.byContradiction
    intro hh
    exact hft.out.1 (decide_eq_true (by omega)) hr
  unfold RJoinP SumV
  clear n1 n2 g1 g2 hgood hK
  simp only [bitB_or]
  generalize bitB f 0 = x0 at *
  generalize bitB g 0 = y0 at *
  generalize bitB f 1 = x1 at *
  generalize bitB g 1 = y1 at *
  generalize bitB f 2 = x2 at *
  generalize bitB g 2 = y2 at *
  generalize bitB f 3 = x3 at *
  generalize bitB g 3 = y3 at *
  generalize bitB f 4 = x4 at *
  generalize bitB g 4 = y4 at *
  have hX := three_blocks w (.cells #[.bool x0, .bool x1, .bool x2, .bool x3, .bool x4, .bool b1, .slice p1 l1 c1] 95) (.cells #[.bool y0, .bool y1, .bool y2, .bool y3, .bool y4, .bool b2, .slice p2 l2 c2] 95) (.cells #[.bool false, .bool false, .bool false, .bool false, .bool false, .bool false, .slice none 0 0] 95)
  have hB := below_three w (.cells #[.bool x0, .bool x1, .bool x2, .bool x3, .bool x4, .bool b1, .slice p1 l1 c1] 95) (.cells #[.bool y0, .bool y1, .bool y2, .bool y3, .bool y4, .bool b2, .slice p2 l2 c2] 95) (.cells #[.bool false, .bool false, .bool false, .bool false, .bool false, .bool false, .slice none 0 0] 95)
  have HX := Lib.hid hX
  have HB := Lib.hid hB
  clear hX hB
  go_enter Tryz.func58, Tryz.ntmps58
  go_wp2_with fail
  generalize (((w.alloc (.cells #[.bool x0, .bool x1, .bool x2, .bool x3, .bool x4, .bool b1, .slice p1 l1 c1] 95)).alloc (.cells #[.bool y0, .bool y1, .bool y2, .bool y3, .bool y4, .bool b2, .slice p2 l2 c2] 95)).alloc (.cells #[.bool false, .bool false, .bool false, .bool false, .bool false, .bool false, .slice none 0 0] 95)) = W at *
  refine (HA.out W HB.out).mono ?_; rintro e w1 ⟨o, rfl, ho, hb⟩
  obtain ⟨ob, op, ol, oc, rfl⟩ := ho.shape
  have HB1 := Lib.hid (below_then HB.out hb)
  have HX1 := Lib.hid (show w1.heap[w.heap.size]? = _ ∧ w1.heap[w.heap.size + 1]? = _ ∧ w1.heap[w.heap.size + 1 + 1]? = _ from ⟨heap_then HX.out.1 hb, heap_then HX.out.2.1 hb, heap_then HX.out.2.2 hb⟩)
  have HO := Lib.hid ho
  clear ho hb HB HX HA
  go_upto_region 2 with fail
  have hO1 := HO.out.below (below_one w1 (.cells #[.bool ob, .slice op ol oc] 89))
  have hN1 := heap_alloc_new w1 (.cells #[.bool ob, .slice op ol oc] 89)
  have hk0 : (w1.alloc (.cells #[.bool ob, .slice op ol oc] 89)).cell? ⟨w1.heap.size, 1, none⟩ = some (.slice op ol oc) := by simp [go_sem]
  have hB1 := below_one w1 (.cells #[.bool ob, .slice op ol oc] 89)
  generalize w1.alloc (.cells #[.bool ob, .slice op ol oc] 89) = W1 at *
  have hk : W1.drew.cell? ⟨w1.heap.size, 1, none⟩ = some (.slice op ol oc) := by simp [hk0]
  have hBw : Below W1.heap.size W1 W1.drew := (Below.refl _ _).drew
  go_region_held3 (fun w' => w'.cell? ⟨w1.heap.size, 1, none⟩ = some (.slice op ol oc)) (with_reducible exact hk)
    (first
      | (go_at_call 126; refine (H2.out _).mono ?_; rintro e w2 ⟨tv, rfl, ht, hb2⟩; have hk := cell_later hb2 hk; have hBw := below_then hBw hb2; have HT2 := Lib.hid ht; obtain ⟨tb, tp, tl, tc, rfl⟩ := ht.shape; clear ht hb2)
      | (go_at_call 125; refine (HCm.out _ _ _ (num_abs (hO1.below hBw)) HT2.out).mono ?_; rintro e w3 ⟨rfl, hb3⟩; have hk := cell_later hb3 hk; have hBw := below_then hBw hb3; clear hb3))
  have hb13 := below_then hB1 hBw
  obtain ⟨⟨ra0, ra1, ra2, ra3, ra4, RA⟩, -⟩ := seven_at (heap_then HX1.out.1 hb13)
  obtain ⟨⟨rb0, rb1, rb2, rb3, rb4, RB⟩, -⟩ := seven_at (heap_then HX1.out.2.1 hb13)
  have hres := heap_then HX1.out.2.2 hb13
  obtain ⟨⟨rc0, rc1, rc2, rc3, rc4, rc5, rc6⟩, rf0, rf1, rf2, rf3, rf4, rf5, rf6⟩ := seven_at hres
  obtain ⟨rd0, rd1, -, -⟩ := cells_of (heap_then hN1 hBw)
  have HRes := Lib.hid hres
  clear RA RB
  have HO3 := Lib.hid (hO1.below hBw)
  have HB3 := Lib.hid (below_then HB1.out hb13)
  clear hO1 hN1 hk0 hB1 hBw hk hb13 hres HX1 HB1 HO H2 HCm HS2 HS3 HS4 HT2 hft hr
  cases x0
  · cases x1
    · cases x2
      · cases x3
        · cases x4
          · go_wp2_with fail
            have hf := set7 (a' := .bool y0) (b' := .bool y1) (c' := .bool y2) (d' := .bool y3) (e' := .bool y4) (f' := .bool ob) (g' := .slice op ol oc) HRes.out
            have hgr := grown7 w3 (w.heap.size + 1 + 1) (.bool y0) (.bool y1) (.bool y2) (.bool y3) (.bool y4) (.bool ob) (.slice op ol oc)
            have hn := HO3.out.grown HRes.out (by decide) hgr
            have hbl := HB3.out.grown hgr HB3.out.size (fun k hk => by simp only [Option.some.injEq] at hk; omega)
            generalize (((((((w3.setCell ⟨w.heap.size + 1 + 1, 0, none⟩ (.bool y0)).setCell ⟨w.heap.size + 1 + 1, 1, none⟩ (.bool y1)).setCell ⟨w.heap.size + 1 + 1, 2, none⟩ (.bool y2)).setCell ⟨w.heap.size + 1 + 1, 3, none⟩ (.bool y3)).setCell ⟨w.heap.size + 1 + 1, 4, none⟩ (.bool y4)).setCell ⟨w.heap.size + 1 + 1, 5, none⟩ (.bool ob)).setCell ⟨w.heap.size + 1 + 1, 6, none⟩ (.slice op ol oc)) = w4 at *
            obtain ⟨⟨k0, k1, k2, k3, k4, k5, k6⟩, -⟩ := seven_at hf
            exact bodyPost_ret (v := .tuple #[.agg #[.bool y0, .bool y1, .bool y2, .bool y3, .bool y4, .bool ob, .slice op ol oc], .bool true]) (by simp [results, Tryz.results58, go_sem, k0, k1, k2, k3, k4, k5, k6]) rfl ⟨⟨_, rfl, ob, op, ol, oc, rfl, hn, HG.out⟩, hbl⟩
          · go_wp2_with fail
            have hf := set7 (a' := .bool y0) (b' := .bool y1) (c' := .bool y2) (d' := .bool y3) (e' := .bool true) (f' := .bool ob) (g' := .slice op ol oc) HRes.out
            have hgr := grown7 w3 (w.heap.size + 1 + 1) (.bool y0) (.bool y1) (.bool y2) (.bool y3) (.bool true) (.bool ob) (.slice op ol oc)
            have hn := HO3.out.grown HRes.out (by decide) hgr
            have hbl := HB3.out.grown hgr HB3.out.size (fun k hk => by simp only [Option.some.injEq] at hk; omega)
            generalize (((((((w3.setCell ⟨w.heap.size + 1 + 1, 0, none⟩ (.bool y0)).setCell ⟨w.heap.size + 1 + 1, 1, none⟩ (.bool y1)).setCell ⟨w.heap.size + 1 + 1, 2, none⟩ (.bool y2)).setCell ⟨w.heap.size + 1 + 1, 3, none⟩ (.bool y3)).setCell ⟨w.heap.size + 1 + 1, 4, none⟩ (.bool true)).setCell ⟨w.heap.size + 1 + 1, 5, none⟩ (.bool ob)).setCell ⟨w.heap.size + 1 + 1, 6, none⟩ (.slice op ol oc)) = w4 at *
            obtain ⟨⟨k0, k1, k2, k3, k4, k5, k6⟩, -⟩ := seven_at hf
            exact bodyPost_ret (v := .tuple #[.agg #[.bool y0, .bool y1, .bool y2, .bool y3, .bool true, .bool ob, .slice op ol oc], .bool true]) (by simp [results, Tryz.results58, go_sem, k0, k1, k2, k3, k4, k5, k6]) rfl ⟨⟨_, rfl, ob, op, ol, oc, rfl, hn, HG.out⟩, hbl⟩
        · cases x4
          · go_wp2_with fail
            have hf := set7 (a' := .bool y0) (b' := .bool y1) (c' := .bool y2) (d' := .bool true) (e' := .bool y4) (f' := .bool ob) (g' := .slice op ol oc) HRes.out
            have hgr := grown7 w3 (w.heap.size + 1 + 1) (.bool y0) (.bool y1) (.bool y2) (.bool true) (.bool y4) (.bool ob) (.slice op ol oc)
            have hn := HO3.out.grown HRes.out (by decide) hgr
            have hbl := HB3.out.grown hgr HB3.out.size (fun k hk => by simp only [Option.some.injEq] at hk; omega)
            generalize (((((((w3.setCell ⟨w.heap.size + 1 + 1, 0, none⟩ (.bool y0)).setCell ⟨w.heap.size + 1 + 1, 1, none⟩ (.bool y1)).setCell ⟨w.heap.size + 1 + 1, 2, none⟩ (.bool y2)).setCell ⟨w.heap.size + 1 + 1, 3, none⟩ (.bool true)).setCell ⟨w.heap.size + 1 + 1, 4, none⟩ (.bool y4)).setCell ⟨w.heap.size + 1 + 1, 5, none⟩ (.bool ob)).setCell ⟨w.heap.size + 1 + 1, 6, none⟩ (.slice op ol oc)) = w4 at *
            obtain ⟨⟨k0, k1, k2, k3, k4, k5, k6⟩, -⟩ := seven_at hf
            exact bodyPost_ret (v := .tuple #[.agg #[.bool y0, .bool y1, .bool y2, .bool true, .bool y4, .bool ob, .slice op ol oc], .bool true]) (by simp [results, Tryz.results58, go_sem, k0, k1, k2, k3, k4, k5, k6]) rfl ⟨⟨_, rfl, ob, op, ol, oc, rfl, hn, HG.out⟩, hbl⟩
          · go_wp2_with fail
            have hf := set7 (a' := .bool y0) (b' := .bool y1) (c' := .bool y2) (d' := .bool true) (e' := .bool true) (f' := .bool ob) (g' := .slice op ol oc) HRes.out
            have hgr := grown7 w3 (w.heap.size + 1 + 1) (.bool y0) (.bool y1) (.bool y2) (.bool true) (.bool true) (.bool ob) (.slice op ol oc)
            have hn := HO3.out.grown HRes.out (by decide) hgr
            have hbl := HB3.out.grown hgr HB3.out.size (fun k hk => by simp only [Option.some.injEq] at hk; omega)
            generalize (((((((w3.setCell ⟨w.heap.size + 1 + 1, 0, none⟩ (.bool y0)).setCell ⟨w.heap.size + 1 + 1, 1, none⟩ (.bool y1)).setCell ⟨w.heap.size + 1 + 1, 2, none⟩ (.bool y2)).setCell ⟨w.heap.size + 1 + 1, 3, none⟩ (.bool true)).setCell ⟨w.heap.size + 1 + 1, 4, none⟩ (.bool true)).setCell ⟨w.heap.size + 1 + 1, 5, none⟩ (.bool ob)).setCell ⟨w.heap.size + 1 + 1, 6, none⟩ (.slice op ol oc)) = w4 at *
            obtain ⟨⟨k0, k1, k2, k3, k4, k5, k6⟩, -⟩ := seven_at hf
            exact bodyPost_ret (v := .tuple #[.agg #[.bool y0, .bool y1, .bool y2, .bool true, .bool true, .bool ob, .slice op ol oc], .bool true]) (by simp [results, Tryz.results58, go_sem, k0, k1, k2, k3, k4, k5, k6]) rfl ⟨⟨_, rfl, ob, op, ol, oc, rfl, hn, HG.out⟩, hbl⟩
      · cases x3
        · cases x4
          · go_wp2_with fail
            have hf := set7 (a' := .bool y0) (b' := .bool y1) (c' := .bool true) (d' := .bool y3) (e' := .bool y4) (f' := .bool ob) (g' := .slice op ol oc) HRes.out
            have hgr := grown7 w3 (w.heap.size + 1 + 1) (.bool y0) (.bool y1) (.bool true) (.bool y3) (.bool y4) (.bool ob) (.slice op ol oc)
            have hn := HO3.out.grown HRes.out (by decide) hgr
            have hbl := HB3.out.grown hgr HB3.out.size (fun k hk => by simp only [Option.some.injEq] at hk; omega)
            generalize (((((((w3.setCell ⟨w.heap.size + 1 + 1, 0, none⟩ (.bool y0)).setCell ⟨w.heap.size + 1 + 1, 1, none⟩ (.bool y1)).setCell ⟨w.heap.size + 1 + 1, 2, none⟩ (.bool true)).setCell ⟨w.heap.size + 1 + 1, 3, none⟩ (.bool y3)).setCell ⟨w.heap.size + 1 + 1, 4, none⟩ (.bool y4)).setCell ⟨w.heap.size + 1 + 1, 5, none⟩ (.bool ob)).setCell ⟨w.heap.size + 1 + 1, 6, none⟩ (.slice op ol oc)) = w4 at *
            obtain ⟨⟨k0, k1, k2, k3, k4, k5, k6⟩, -⟩ := seven_at hf
            exact bodyPost_ret (v := .tuple #[.agg #[.bool y0, .bool y1, .bool true, .bool y3, .bool y4, .bool ob, .slice op ol oc], .bool true]) (by simp [results, Tryz.results58, go_sem, k0, k1, k2, k3, k4, k5, k6]) rfl ⟨⟨_, rfl, ob, op, ol, oc, rfl, hn, HG.out⟩, hbl⟩
          · go_wp2_with fail
            have hf := set7 (a' := .bool y0) (b' := .bool y1) (c' := .bool true) (d' := .bool y3) (e' := .bool true) (f' := .bool ob) (g' := .slice op ol oc) HRes.out
            have hgr := grown7 w3 (w.heap.size + 1 + 1) (.bool y0) (.bool y1) (.bool true) (.bool y3) (.bool true) (.bool ob) (.slice op ol oc)
            have hn := HO3.out.grown HRes.out (by decide) hgr
            have hbl := HB3.out.grown hgr HB3.out.size (fun k hk => by simp only [Option.some.injEq] at hk; omega)
            generalize (((((((w3.setCell ⟨w.heap.size + 1 + 1, 0, none⟩ (.bool y0)).setCell ⟨w.heap.size + 1 + 1, 1, none⟩ (.bool y1)).setCell ⟨w.heap.size + 1 + 1, 2, none⟩ (.bool true)).setCell ⟨w.heap.size + 1 + 1, 3, none⟩ (.bool y3)).setCell ⟨w.heap.size + 1 + 1, 4, none⟩ (.bool true)).setCell ⟨w.heap.size + 1 + 1, 5, none⟩ (.bool ob)).setCell ⟨w.heap.size + 1 + 1, 6, none⟩ (.slice op ol oc)) = w4 at *
            obtain ⟨⟨k0, k1, k2, k3, k4, k5, k6⟩, -⟩ := seven_at hf
            exact bodyPost_ret (v := .tuple #[.agg #[.bool y0, .bool y1, .bool true, .bool y3, .bool true, .bool ob, .slice op ol oc], .bool true]) (by simp [results, Tryz.results58, go_sem, k0, k1, k2, k3, k4, k5, k6]) rfl ⟨⟨_, rfl, ob, op, ol, oc, rfl, hn, HG.out⟩, hbl⟩
        · cases x4
          · go_wp2_with fail
            have hf := set7 (a' := .bool y0) (b' := .bool y1) (c' := .bool true) (d' := .bool true) (e' := .bool y4) (f' := .bool ob) (g' := .slice op ol oc) HRes.out
            have hgr := grown7 w3 (w.heap.size + 1 + 1) (.bool y0) (.bool y1) (.bool true) (.bool true) (.bool y4) (.bool ob) (.slice op ol oc)
            have hn := HO3.out.grown HRes.out (by decide) hgr
            have hbl := HB3.out.grown hgr HB3.out.size (fun k hk => by simp only [Option.some.injEq] at hk; omega)
            generalize (((((((w3.setCell ⟨w.heap.size + 1 + 1, 0, none⟩ (.bool y0)).setCell ⟨w.heap.size + 1 + 1, 1, none⟩ (.bool y1)).setCell ⟨w.heap.size + 1 + 1, 2, none⟩ (.bool true)).setCell ⟨w.heap.size + 1 + 1, 3, none⟩ (.bool true)).setCell ⟨w.heap.size + 1 + 1, 4, none⟩ (.bool y4)).setCell ⟨w.heap.size + 1 + 1, 5, none⟩ (.bool ob)).setCell ⟨w.heap.size + 1 + 1, 6, none⟩ (.slice op ol oc)) = w4 at *
            obtain ⟨⟨k0, k1, k2, k3, k4, k5, k6⟩, -⟩ := seven_at hf
            exact bodyPost_ret (v := .tuple #[.agg #[.bool y0, .bool y1, .bool true, .bool true, .bool y4, .bool ob, .slice op ol oc], .bool true]) (by simp [results, Tryz.results58, go_sem, k0, k1, k2, k3, k4, k5, k6]) rfl ⟨⟨_, rfl, ob, op, ol, oc, rfl, hn, HG.out⟩, hbl⟩
          · go_wp2_with fail
            have hf := set7 (a' := .bool y0) (b' := .bool y1) (c' := .bool true) (d' := .bool true) (e' := .bool true) (f' := .bool ob) (g' := .slice op ol oc) HRes.out
            have hgr := grown7 w3 (w.heap.size + 1 + 1) (.bool y0) (.bool y1) (.bool true) (.bool true) (.bool true) (.bool ob) (.slice op ol oc)
            have hn := HO3.out.grown HRes.out (by decide) hgr
            have hbl := HB3.out.grown hgr HB3.out.size (fun k hk => by simp only [Option.some.injEq] at hk; omega)
            generalize (((((((w3.setCell ⟨w.heap.size + 1 + 1, 0, none⟩ (.bool y0)).setCell ⟨w.heap.size + 1 + 1, 1, none⟩ (.bool y1)).setCell ⟨w.heap.size + 1 + 1, 2, none⟩ (.bool true)).setCell ⟨w.heap.size + 1 + 1, 3, none⟩ (.bool true)).setCell ⟨w.heap.size + 1 + 1, 4, none⟩ (.bool true)).setCell ⟨w.heap.size + 1 + 1, 5, none⟩ (.bool ob)).setCell ⟨w.heap.size + 1 + 1, 6, none⟩ (.slice op ol oc)) = w4 at *
            obtain ⟨⟨k0, k1, k2, k3, k4, k5, k6⟩, -⟩ := seven_at hf
            exact bodyPost_ret (v := .tuple #[.agg #[.bool y0, .bool y1, .bool true, .bool true, .bool true, .bool ob, .slice op ol oc], .bool true]) (by simp [results, Tryz.results58, go_sem, k0, k1, k2, k3, k4, k5, k6]) rfl ⟨⟨_, rfl, ob, op, ol, oc, rfl, hn, HG.out⟩, hbl⟩
    · cases x2
      · cases x3
        · cases x4
          · go_wp2_with fail
            have hf := set7 (a' := .bool y0) (b' := .bool true) (c' := .bool y2) (d' := .bool y3) (e' := .bool y4) (f' := .bool ob) (g' := .slice op ol oc) HRes.out
            have hgr := grown7 w3 (w.heap.size + 1 + 1) (.bool y0) (.bool true) (.bool y2) (.bool y3) (.bool y4) (.bool ob) (.slice op ol oc)
            have hn := HO3.out.grown HRes.out (by decide) hgr
            have hbl := HB3.out.grown hgr HB3.out.size (fun k hk => by simp only [Option.some.injEq] at hk; omega)
            generalize (((((((w3.setCell ⟨w.heap.size + 1 + 1, 0, none⟩ (.bool y0)).setCell ⟨w.heap.size + 1 + 1, 1, none⟩ (.bool true)).setCell ⟨w.heap.size + 1 + 1, 2, none⟩ (.bool y2)).setCell ⟨w.heap.size + 1 + 1, 3, none⟩ (.bool y3)).setCell ⟨w.heap.size + 1 + 1, 4, none⟩ (.bool y4)).setCell ⟨w.heap.size + 1 + 1, 5, none⟩ (.bool ob)).setCell ⟨w.heap.size + 1 + 1, 6, none⟩ (.slice op ol oc)) = w4 at *
            obtain ⟨⟨k0, k1, k2, k3, k4, k5, k6⟩, -⟩ := seven_at hf
            exact bodyPost_ret (v := .tuple #[.agg #[.bool y0, .bool true, .bool y2, .bool y3, .bool y4, .bool ob, .slice op ol oc], .bool true]) (by simp [results, Tryz.results58, go_sem, k0, k1, k2, k3, k4, k5, k6]) rfl ⟨⟨_, rfl, ob, op, ol, oc, rfl, hn, HG.out⟩, hbl⟩
          · go_wp2_with fail
            have hf := set7 (a' := .bool y0) (b' := .bool true) (c' := .bool y2) (d' := .bool y3) (e' := .bool true) (f' := .bool ob) (g' := .slice op ol oc) HRes.out
            have hgr := grown7 w3 (w.heap.size + 1 + 1) (.bool y0) (.bool true) (.bool y2) (.bool y3) (.bool true) (.bool ob) (.slice op ol oc)
            have hn := HO3.out.grown HRes.out (by decide) hgr
            have hbl := HB3.out.grown hgr HB3.out.size (fun k hk => by simp only [Option.some.injEq] at hk; omega)
            generalize (((((((w3.setCell ⟨w.heap.size + 1 + 1, 0, none⟩ (.bool y0)).setCell ⟨w.heap.size + 1 + 1, 1, none⟩ (.bool true)).setCell ⟨w.heap.size + 1 + 1, 2, none⟩ (.bool y2)).setCell ⟨w.heap.size + 1 + 1, 3, none⟩ (.bool y3)).setCell ⟨w.heap.size + 1 + 1, 4, none⟩ (.bool true)).setCell ⟨w.heap.size + 1 + 1, 5, none⟩ (.bool ob)).setCell ⟨w.heap.size + 1 + 1, 6, none⟩ (.slice op ol oc)) = w4 at *
            obtain ⟨⟨k0, k1, k2, k3, k4, k5, k6⟩, -⟩ := seven_at hf
            exact bodyPost_ret (v := .tuple #[.agg #[.bool y0, .bool true, .bool y2, .bool y3, .bool true, .bool ob, .slice op ol oc], .bool true]) (by simp [results, Tryz.results58, go_sem, k0, k1, k2, k3, k4, k5, k6]) rfl ⟨⟨_, rfl, ob, op, ol, oc, rfl, hn, HG.out⟩, hbl⟩
        · cases x4
          · go_wp2_with fail
            have hf := set7 (a' := .bool y0) (b' := .bool true) (c' := .bool y2) (d' := .bool true) (e' := .bool y4) (f' := .bool ob) (g' := .slice op ol oc) HRes.out
            have hgr := grown7 w3 (w.heap.size + 1 + 1) (.bool y0) (.bool true) (.bool y2) (.bool true) (.bool y4) (.bool ob) (.slice op ol oc)
            have hn := HO3.out.grown HRes.out (by decide) hgr
            have hbl := HB3.out.grown hgr HB3.out.size (fun k hk => by simp only [Option.some.injEq] at hk; omega)
            generalize (((((((w3.setCell ⟨w.heap.size + 1 + 1, 0, none⟩ (.bool y0)).setCell ⟨w.heap.size + 1 + 1, 1, none⟩ (.bool true)).setCell ⟨w.heap.size + 1 + 1, 2, none⟩ (.bool y2)).setCell ⟨w.heap.size + 1 + 1, 3, none⟩ (.bool true)).setCell ⟨w.heap.size + 1 + 1, 4, none⟩ (.bool y4)).setCell ⟨w.heap.size + 1 + 1, 5, none⟩ (.bool ob)).setCell ⟨w.heap.size + 1 + 1, 6, none⟩ (.slice op ol oc)) = w4 at *
            obtain ⟨⟨k0, k1, k2, k3, k4, k5, k6⟩, -⟩ := seven_at hf
            exact bodyPost_ret (v := .tuple #[.agg #[.bool y0, .bool true, .bool y2, .bool true, .bool y4, .bool ob, .slice op ol oc], .bool true]) (by simp [results, Tryz.results58, go_sem, k0, k1, k2, k3, k4, k5, k6]) rfl ⟨⟨_, rfl, ob, op, ol, oc, rfl, hn, HG.out⟩, hbl⟩
          · go_wp2_with fail
            have hf := set7 (a' := .bool y0) (b' := .bool true) (c' := .bool y2) (d' := .bool true) (e' := .bool true) (f' := .bool ob) (g' := .slice op ol oc) HRes.out
            have hgr := grown7 w3 (w.heap.size + 1 + 1) (.bool y0) (.bool true) (.bool y2) (.bool true) (.bool true) (.bool ob) (.slice op ol oc)
            have hn := HO3.out.grown HRes.out (by decide) hgr
            have hbl := HB3.out.grown hgr HB3.out.size (fun k hk => by simp only [Option.some.injEq] at hk; omega)
            generalize (((((((w3.setCell ⟨w.heap.size + 1 + 1, 0, none⟩ (.bool y0)).setCell ⟨w.heap.size + 1 + 1, 1, none⟩ (.bool true)).setCell ⟨w.heap.size + 1 + 1, 2, none⟩ (.bool y2)).setCell ⟨w.heap.size + 1 + 1, 3, none⟩ (.bool true)).setCell ⟨w.heap.size + 1 + 1, 4, none⟩ (.bool true)).setCell ⟨w.heap.size + 1 + 1, 5, none⟩ (.bool ob)).setCell ⟨w.heap.size + 1 + 1, 6, none⟩ (.slice op ol oc)) = w4 at *
            obtain ⟨⟨k0, k1, k2, k3, k4, k5, k6⟩, -⟩ := seven_at hf
            exact bodyPost_ret (v := .tuple #[.agg #[.bool y0, .bool true, .bool y2, .bool true, .bool true, .bool ob, .slice op ol oc], .bool true]) (by simp [results, Tryz.results58, go_sem, k0, k1, k2, k3, k4, k5, k6]) rfl ⟨⟨_, rfl, ob, op, ol, oc, rfl, hn, HG.out⟩, hbl⟩
      · cases x3
        · cases x4
          · go_wp2_with fail
            have hf := set7 (a' := .bool y0) (b' := .bool true) (c' := .bool true) (d' := .bool y3) (e' := .bool y4) (f' := .bool ob) (g' := .slice op ol oc) HRes.out
            have hgr := grown7 w3 (w.heap.size + 1 + 1) (.bool y0) (.bool true) (.bool true) (.bool y3) (.bool y4) (.bool ob) (.slice op ol oc)
            have hn := HO3.out.grown HRes.out (by decide) hgr
            have hbl := HB3.out.grown hgr HB3.out.size (fun k hk => by simp only [Option.some.injEq] at hk; omega)
            generalize (((((((w3.setCell ⟨w.heap.size + 1 + 1, 0, none⟩ (.bool y0)).setCell ⟨w.heap.size + 1 + 1, 1, none⟩ (.bool true)).setCell ⟨w.heap.size + 1 + 1, 2, none⟩ (.bool true)).setCell ⟨w.heap.size + 1 + 1, 3, none⟩ (.bool y3)).setCell ⟨w.heap.size + 1 + 1, 4, none⟩ (.bool y4)).setCell ⟨w.heap.size + 1 + 1, 5, none⟩ (.bool ob)).setCell ⟨w.heap.size + 1 + 1, 6, none⟩ (.slice op ol oc)) = w4 at *
            obtain ⟨⟨k0, k1, k2, k3, k4, k5, k6⟩, -⟩ := seven_at hf
            exact bodyPost_ret (v := .tuple #[.agg #[.bool y0, .bool true, .bool true, .bool y3, .bool y4, .bool ob, .slice op ol oc], .bool true]) (by simp [results, Tryz.results58, go_sem, k0, k1, k2, k3, k4, k5, k6]) rfl ⟨⟨_, rfl, ob, op, ol, oc, rfl, hn, HG.out⟩, hbl⟩
          · go_wp2_with fail
            have hf := set7 (a' := .bool y0) (b' := .bool true) (c' := .bool true) (d' := .bool y3) (e' := .bool true) (f' := .bool ob) (g' := .slice op ol oc) HRes.out
            have hgr := grown7 w3 (w.heap.size + 1 + 1) (.bool y0) (.bool true) (.bool true) (.bool y3) (.bool true) (.bool ob) (.slice op ol oc)
            have hn := HO3.out.grown HRes.out (by decide) hgr
            have hbl := HB3.out.grown hgr HB3.out.size (fun k hk => by simp only [Option.some.injEq] at hk; omega)
            generalize (((((((w3.setCell ⟨w.heap.size + 1 + 1, 0, none⟩ (.bool y0)).setCell ⟨w.heap.size + 1 + 1, 1, none⟩ (.bool true)).setCell ⟨w.heap.size + 1 + 1, 2, none⟩ (.bool true)).setCell ⟨w.heap.size + 1 + 1, 3, none⟩ (.bool y3)).setCell ⟨w.heap.size + 1 + 1, 4, none⟩ (.bool true)).setCell ⟨w.heap.size + 1 + 1, 5, none⟩ (.bool ob)).setCell ⟨w.heap.size + 1 + 1, 6, none⟩ (.slice op ol oc)) = w4 at *
            obtain ⟨⟨k0, k1, k2, k3, k4, k5, k6⟩, -⟩ := seven_at hf
            exact bodyPost_ret (v := .tuple #[.agg #[.bool y0, .bool true, .bool true, .bool y3, .bool true, .bool ob, .slice op ol oc], .bool true]) (by simp [results, Tryz.results58, go_sem, k0, k1, k2, k3, k4, k5, k6]) rfl ⟨⟨_, rfl, ob, op, ol, oc, rfl, hn, HG.out⟩, hbl⟩
        · cases x4
          · go_wp2_with fail
            have hf := set7 (a' := .bool y0) (b' := .bool true) (c' := .bool true) (d' := .bool true) (e' := .bool y4) (f' := .bool ob) (g' := .slice op ol oc) HRes.out
            have hgr := grown7 w3 (w.heap.size + 1 + 1) (.bool y0) (.bool true) (.bool true) (.bool true) (.bool y4) (.bool ob) (.slice op ol oc)
            have hn := HO3.out.grown HRes.out (by decide) hgr
            have hbl := HB3.out.grown hgr HB3.out.size (fun k hk => by simp only [Option.some.injEq] at hk; omega)
            generalize (((((((w3.setCell ⟨w.heap.size + 1 + 1, 0, none⟩ (.bool y0)).setCell ⟨w.heap.size + 1 + 1, 1, none⟩ (.bool true)).setCell ⟨w.heap.size + 1 + 1, 2, none⟩ (.bool true)).setCell ⟨w.heap.size + 1 + 1, 3, none⟩ (.bool true)).setCell ⟨w.heap.size + 1 + 1, 4, none⟩ (.bool y4)).setCell ⟨w.heap.size + 1 + 1, 5, none⟩ (.bool ob)).setCell ⟨w.heap.size + 1 + 1, 6, none⟩ (.slice op ol oc)) = w4 at *
            obtain ⟨⟨k0, k1, k2, k3, k4, k5, k6⟩, -⟩ := seven_at hf
            exact bodyPost_ret (v := .tuple #[.agg #[.bool y0, .bool true, .bool true, .bool true, .bool y4, .bool ob, .slice op ol oc], .bool true]) (by simp [results, Tryz.results58, go_sem, k0, k1, k2, k3, k4, k5, k6]) rfl ⟨⟨_, rfl, ob, op, ol, oc, rfl, hn, HG.out⟩, hbl⟩
          · go_wp2_with fail
            have hf := set7 (a' := .bool y0) (b' := .bool true) (c' := .bool true) (d' := .bool true) (e' := .bool true) (f' := .bool ob) (g' := .slice op ol oc) HRes.out
            have hgr := grown7 w3 (w.heap.size + 1 + 1) (.bool y0) (.bool true) (.bool true) (.bool true) (.bool true) (.bool ob) (.slice op ol oc)
            have hn := HO3.out.grown HRes.out (by decide) hgr
            have hbl := HB3.out.grown hgr HB3.out.size (fun k hk => by simp only [Option.some.injEq] at hk; omega)
            generalize (((((((w3.setCell ⟨w.heap.size + 1 + 1, 0, none⟩ (.bool y0)).setCell ⟨w.heap.size + 1 + 1, 1, none⟩ (.bool true)).setCell ⟨w.heap.size + 1 + 1, 2, none⟩ (.bool true)).setCell ⟨w.heap.size + 1 + 1, 3, none⟩ (.bool true)).setCell ⟨w.heap.size + 1 + 1, 4, none⟩ (.bool true)).setCell ⟨w.heap.size + 1 + 1, 5, none⟩ (.bool ob)).setCell ⟨w.heap.size + 1 + 1, 6, none⟩ (.slice op ol oc)) = w4 at *
            obtain ⟨⟨k0, k1, k2, k3, k4, k5, k6⟩, -⟩ := seven_at hf
            exact bodyPost_ret (v := .tuple #[.agg #[.bool y0, .bool true, .bool true, .bool true, .bool true, .bool ob, .slice op ol oc], .bool true]) (by simp [results, Tryz.results58, go_sem, k0, k1, k2, k3, k4, k5, k6]) rfl ⟨⟨_, rfl, ob, op, ol, oc, rfl, hn, HG.out⟩, hbl⟩
  · cases x1
    · cases x2
      · cases x3
        · cases x4
          · go_wp2_with fail
            have hf := set7 (a' := .bool true) (b' := .bool y1) (c' := .bool y2) (d' := .bool y3) (e' := .bool y4) (f' := .bool ob) (g' := .slice op ol oc) HRes.out
            have hgr := grown7 w3 (w.heap.size + 1 + 1) (.bool true) (.bool y1) (.bool y2) (.bool y3) (.bool y4) (.bool ob) (.slice op ol oc)
            have hn := HO3.out.grown HRes.out (by decide) hgr
            have hbl := HB3.out.grown hgr HB3.out.size (fun k hk => by simp only [Option.some.injEq] at hk; omega)
            generalize (((((((w3.setCell ⟨w.heap.size + 1 + 1, 0, none⟩ (.bool true)).setCell ⟨w.heap.size + 1 + 1, 1, none⟩ (.bool y1)).setCell ⟨w.heap.size + 1 + 1, 2, none⟩ (.bool y2)).setCell ⟨w.heap.size + 1 + 1, 3, none⟩ (.bool y3)).setCell ⟨w.heap.size + 1 + 1, 4, none⟩ (.bool y4)).setCell ⟨w.heap.size + 1 + 1, 5, none⟩ (.bool ob)).setCell ⟨w.heap.size + 1 + 1, 6, none⟩ (.slice op ol oc)) = w4 at *
            obtain ⟨⟨k0, k1, k2, k3, k4, k5, k6⟩, -⟩ := seven_at hf
            exact bodyPost_ret (v := .tuple #[.agg #[.bool true, .bool y1, .bool y2, .bool y3, .bool y4, .bool ob, .slice op ol oc], .bool true]) (by simp [results, Tryz.results58, go_sem, k0, k1, k2, k3, k4, k5, k6]) rfl ⟨⟨_, rfl, ob, op, ol, oc, rfl, hn, HG.out⟩, hbl⟩
          · go_wp2_with fail
            have hf := set7 (a' := .bool true) (b' := .bool y1) (c' := .bool y2) (d' := .bool y3) (e' := .bool true) (f' := .bool ob) (g' := .slice op ol oc) HRes.out
            have hgr := grown7 w3 (w.heap.size + 1 + 1) (.bool true) (.bool y1) (.bool y2) (.bool y3) (.bool true) (.bool ob) (.slice op ol oc)
            have hn := HO3.out.grown HRes.out (by decide) hgr
            have hbl := HB3.out.grown hgr HB3.out.size (fun k hk => by simp only [Option.some.injEq] at hk; omega)
            generalize (((((((w3.setCell ⟨w.heap.size + 1 + 1, 0, none⟩ (.bool true)).setCell ⟨w.heap.size + 1 + 1, 1, none⟩ (.bool y1)).setCell ⟨w.heap.size + 1 + 1, 2, none⟩ (.bool y2)).setCell ⟨w.heap.size + 1 + 1, 3, none⟩ (.bool y3)).setCell ⟨w.heap.size + 1 + 1, 4, none⟩ (.bool true)).setCell ⟨w.heap.size + 1 + 1, 5, none⟩ (.bool ob)).setCell ⟨w.heap.size + 1 + 1, 6, none⟩ (.slice op ol oc)) = w4 at *
            obtain ⟨⟨k0, k1, k2, k3, k4, k5, k6⟩, -⟩ := seven_at hf
            exact bodyPost_ret (v := .tuple #[.agg #[.bool true, .bool y1, .bool y2, .bool y3, .bool true, .bool ob, .slice op ol oc], .bool true]) (by simp [results, Tryz.results58, go_sem, k0, k1, k2, k3, k4, k5, k6]) rfl ⟨⟨_, rfl, ob, op, ol, oc, rfl, hn, HG.out⟩, hbl⟩
        · cases x4
          · go_wp2_with fail
            have hf := set7 (a' := .bool true) (b' := .bool y1) (c' := .bool y2) (d' := .bool true) (e' := .bool y4) (f' := .bool ob) (g' := .slice op ol oc) HRes.out
            have hgr := grown7 w3 (w.heap.size + 1 + 1) (.bool true) (.bool y1) (.bool y2) (.bool true) (.bool y4) (.bool ob) (.slice op ol oc)
            have hn := HO3.out.grown HRes.out (by decide) hgr
            have hbl := HB3.out.grown hgr HB3.out.size (fun k hk => by simp only [Option.some.injEq] at hk; omega)
            generalize (((((((w3.setCell ⟨w.heap.size + 1 + 1, 0, none⟩ (.bool true)).setCell ⟨w.heap.size + 1 + 1, 1, none⟩ (.bool y1)).setCell ⟨w.heap.size + 1 + 1, 2, none⟩ (.bool y2)).setCell ⟨w.heap.size + 1 + 1, 3, none⟩ (.bool true)).setCell ⟨w.heap.size + 1 + 1, 4, none⟩ (.bool y4)).setCell ⟨w.heap.size + 1 + 1, 5, none⟩ (.bool ob)).setCell ⟨w.heap.size + 1 + 1, 6, none⟩ (.slice op ol oc)) = w4 at *
            obtain ⟨⟨k0, k1, k2, k3, k4, k5, k6⟩, -⟩ := seven_at hf
            exact bodyPost_ret (v := .tuple #[.agg #[.bool true, .bool y1, .bool y2, .bool true, .bool y4, .bool ob, .slice op ol oc], .bool true]) (by simp [results, Tryz.results58, go_sem, k0, k1, k2, k3, k4, k5, k6]) rfl ⟨⟨_, rfl, ob, op, ol, oc, rfl, hn, HG.out⟩, hbl⟩
          · go_wp2_with fail
            have hf := set7 (a' := .bool true) (b' := .bool y1) (c' := .bool y2) (d' := .bool true) (e' := .bool true) (f' := .bool ob) (g' := .slice op ol oc) HRes.out
            have hgr := grown7 w3 (w.heap.size + 1 + 1) (.bool true) (.bool y1) (.bool y2) (.bool true) (.bool true) (.bool ob) (.slice op ol oc)
            have hn := HO3.out.grown HRes.out (by decide) hgr
            have hbl := HB3.out.grown hgr HB3.out.size (fun k hk => by simp only [Option.some.injEq] at hk; omega)
            generalize (((((((w3.setCell ⟨w.heap.size + 1 + 1, 0, none⟩ (.bool true)).setCell ⟨w.heap.size + 1 + 1, 1, none⟩ (.bool y1)).setCell ⟨w.heap.size + 1 + 1, 2, none⟩ (.bool y2)).setCell ⟨w.heap.size + 1 + 1, 3, none⟩ (.bool true)).setCell ⟨w.heap.size + 1 + 1, 4, none⟩ (.bool true)).setCell ⟨w.heap.size + 1 + 1, 5, none⟩ (.bool ob)).setCell ⟨w.heap.size + 1 + 1, 6, none⟩ (.slice op ol oc)) = w4 at *
            obtain ⟨⟨k0, k1, k2, k3, k4, k5, k6⟩, -⟩ := seven_at hf
            exact bodyPost_ret (v := .tuple #[.agg #[.bool true, .bool y1, .bool y2, .bool true, .bool true, .bool ob, .slice op ol oc], .bool true]) (by simp [results, Tryz.results58, go_sem, k0, k1, k2, k3, k4, k5, k6]) rfl ⟨⟨_, rfl, ob, op, ol, oc, rfl, hn, HG.out⟩, hbl⟩
      · cases x3
        · cases x4
          · go_wp2_with fail
            have hf := set7 (a' := .bool true) (b' := .bool y1) (c' := .bool true) (d' := .bool y3) (e' := .bool y4) (f' := .bool ob) (g' := .slice op ol oc) HRes.out
            have hgr := grown7 w3 (w.heap.size + 1 + 1) (.bool true) (.bool y1) (.bool true) (.bool y3) (.bool y4) (.bool ob) (.slice op ol oc)
            have hn := HO3.out.grown HRes.out (by decide) hgr
            have hbl := HB3.out.grown hgr HB3.out.size (fun k hk => by simp only [Option.some.injEq] at hk; omega)
            generalize (((((((w3.setCell ⟨w.heap.size + 1 + 1, 0, none⟩ (.bool true)).setCell ⟨w.heap.size + 1 + 1, 1, none⟩ (.bool y1)).setCell ⟨w.heap.size + 1 + 1, 2, none⟩ (.bool true)).setCell ⟨w.heap.size + 1 + 1, 3, none⟩ (.bool y3)).setCell ⟨w.heap.size + 1 + 1, 4, none⟩ (.bool y4)).setCell ⟨w.heap.size + 1 + 1, 5, none⟩ (.bool ob)).setCell ⟨w.heap.size + 1 + 1, 6, none⟩ (.slice op ol oc)) = w4 at *
            obtain ⟨⟨k0, k1, k2, k3, k4, k5, k6⟩, -⟩ := seven_at hf
            exact bodyPost_ret (v := .tuple #[.agg #[.bool true, .bool y1, .bool true, .bool y3, .bool y4, .bool ob, .slice op ol oc], .bool true]) (by simp [results, Tryz.results58, go_sem, k0, k1, k2, k3, k4, k5, k6]) rfl ⟨⟨_, rfl, ob, op, ol, oc, rfl, hn, HG.out⟩, hbl⟩
          · go_wp2_with fail
            have hf := set7 (a' := .bool true) (b' := .bool y1) (c' := .bool true) (d' := .bool y3) (e' := .bool true) (f' := .bool ob) (g' := .slice op ol oc) HRes.out
            have hgr := grown7 w3 (w.heap.size + 1 + 1) (.bool true) (.bool y1) (.bool true) (.bool y3) (.bool true) (.bool ob) (.slice op ol oc)
            have hn := HO3.out.grown HRes.out (by decide) hgr
            have hbl := HB3.out.grown hgr HB3.out.size (fun k hk => by simp only [Option.some.injEq] at hk; omega)
            generalize (((((((w3.setCell ⟨w.heap.size + 1 + 1, 0, none⟩ (.bool true)).setCell ⟨w.heap.size + 1 + 1, 1, none⟩ (.bool y1)).setCell ⟨w.heap.size + 1 + 1, 2, none⟩ (.bool true)).setCell ⟨w.heap.size + 1 + 1, 3, none⟩ (.bool y3)).setCell ⟨w.heap.size + 1 + 1, 4, none⟩ (.bool true)).setCell ⟨w.heap.size + 1 + 1, 5, none⟩ (.bool ob)).setCell ⟨w.heap.size + 1 + 1, 6, none⟩ (.slice op ol oc)) = w4 at *
            obtain ⟨⟨k0, k1, k2, k3, k4, k5, k6⟩, -⟩ := seven_at hf
            exact bodyPost_ret (v := .tuple #[.agg #[.bool true, .bool y1, .bool true, .bool y3, .bool true, .bool ob, .slice op ol oc], .bool true]) (by simp [results, Tryz.results58, go_sem, k0, k1, k2, k3, k4, k5, k6]) rfl ⟨⟨_, rfl, ob, op, ol, oc, rfl, hn, HG.out⟩, hbl⟩
        · cases x4
          · go_wp2_with fail
            have hf := set7 (a' := .bool true) (b' := .bool y1) (c' := .bool true) (d' := .bool true) (e' := .bool y4) (f' := .bool ob) (g' := .slice op ol oc) HRes.out
            have hgr := grown7 w3 (w.heap.size + 1 + 1) (.bool true) (.bool y1) (.bool true) (.bool true) (.bool y4) (.bool ob) (.slice op ol oc)
            have hn := HO3.out.grown HRes.out (by decide) hgr
            have hbl := HB3.out.grown hgr HB3.out.size (fun k hk => by simp only [Option.some.injEq] at hk; omega)
            generalize (((((((w3.setCell ⟨w.heap.size + 1 + 1, 0, none⟩ (.bool true)).setCell ⟨w.heap.size + 1 + 1, 1, none⟩ (.bool y1)).setCell ⟨w.heap.size + 1 + 1, 2, none⟩ (.bool true)).setCell ⟨w.heap.size + 1 + 1, 3, none⟩ (.bool true)).setCell ⟨w.heap.size + 1 + 1, 4, none⟩ (.bool y4)).setCell ⟨w.heap.size + 1 + 1, 5, none⟩ (.bool ob)).setCell ⟨w.heap.size + 1 + 1, 6, none⟩ (.slice op ol oc)) = w4 at *
            obtain ⟨⟨k0, k1, k2, k3, k4, k5, k6⟩, -⟩ := seven_at hf
            exact bodyPost_ret (v := .tuple #[.agg #[.bool true, .bool y1, .bool true, .bool true, .bool y4, .bool ob, .slice op ol oc], .bool true]) (by simp [results, Tryz.results58, go_sem, k0, k1, k2, k3, k4, k5, k6]) rfl ⟨⟨_, rfl, ob, op, ol, oc, rfl, hn, HG.out⟩, hbl⟩
          · go_wp2_with fail
            have hf := set7 (a' := .bool true) (b' := .bool y1) (c' := .bool true) (d' := .bool true) (e' := .bool true) (f' := .bool ob) (g' := .slice op ol oc) HRes.out
            have hgr := grown7 w3 (w.heap.size + 1 + 1) (.bool true) (.bool y1) (.bool true) (.bool true) (.bool true) (.bool ob) (.slice op ol oc)
            have hn := HO3.out.grown HRes.out (by decide) hgr
            have hbl := HB3.out.grown hgr HB3.out.size (fun k hk => by simp only [Option.some.injEq] at hk; omega)
            generalize (((((((w3.setCell ⟨w.heap.size + 1 + 1, 0, none⟩ (.bool true)).setCell ⟨w.heap.size + 1 + 1, 1, none⟩ (.bool y1)).setCell ⟨w.heap.size + 1 + 1, 2, none⟩ (.bool true)).setCell ⟨w.heap.size + 1 + 1, 3, none⟩ (.bool true)).setCell ⟨w.heap.size + 1 + 1, 4, none⟩ (.bool true)).setCell ⟨w.heap.size + 1 + 1, 5, none⟩ (.bool ob)).setCell ⟨w.heap.size + 1 + 1, 6, none⟩ (.slice op ol oc)) = w4 at *
            obtain ⟨⟨k0, k1, k2, k3, k4, k5, k6⟩, -⟩ := seven_at hf
            exact bodyPost_ret (v := .tuple #[.agg #[.bool true, .bool y1, .bool true, .bool true, .bool true, .bool ob, .slice op ol oc], .bool true]) (by simp [results, Tryz.results58, go_sem, k0, k1, k2, k3, k4, k5, k6]) rfl ⟨⟨_, rfl, ob, op, ol, oc, rfl, hn, HG.out⟩, hbl⟩
    · cases x2
      · cases x3
        · cases x4
          · go_wp2_with fail
            have hf := set7 (a' := .bool true) (b' := .bool true) (c' := .bool y2) (d' := .bool y3) (e' := .bool y4) (f' := .bool ob) (g' := .slice op ol oc) HRes.out
            have hgr := grown7 w3 (w.heap.size + 1 + 1) (.bool true) (.bool true) (.bool y2) (.bool y3) (.bool y4) (.bool ob) (.slice op ol oc)
            have hn := HO3.out.grown HRes.out (by decide) hgr
            have hbl := HB3.out.grown hgr HB3.out.size (fun k hk => by simp only [Option.some.injEq] at hk; omega)
            generalize (((((((w3.setCell ⟨w.heap.size + 1 + 1, 0, none⟩ (.bool true)).setCell ⟨w.heap.size + 1 + 1, 1, none⟩ (.bool true)).setCell ⟨w.heap.size + 1 + 1, 2, none⟩ (.bool y2)).setCell ⟨w.heap.size + 1 + 1, 3, none⟩ (.bool y3)).setCell ⟨w.heap.size + 1 + 1, 4, none⟩ (.bool y4)).setCell ⟨w.heap.size + 1 + 1, 5, none⟩ (.bool ob)).setCell ⟨w.heap.size + 1 + 1, 6, none⟩ (.slice op ol oc)) = w4 at *
            obtain ⟨⟨k0, k1, k2, k3, k4, k5, k6⟩, -⟩ := seven_at hf
            exact bodyPost_ret (v := .tuple #[.agg #[.bool true, .bool true, .bool y2, .bool y3, .bool y4, .bool ob, .slice op ol oc], .bool true]) (by simp [results, Tryz.results58, go_sem, k0, k1, k2, k3, k4, k5, k6]) rfl ⟨⟨_, rfl, ob, op, ol, oc, rfl, hn, HG.out⟩, hbl⟩
          · go_wp2_with fail
            have hf := set7 (a' := .bool true) (b' := .bool true) (c' := .bool y2) (d' := .bool y3) (e' := .bool true) (f' := .bool ob) (g' := .slice op ol oc) HRes.out
            have hgr := grown7 w3 (w.heap.size + 1 + 1) (.bool true) (.bool true) (.bool y2) (.bool y3) (.bool true) (.bool ob) (.slice op ol oc)
            have hn := HO3.out.grown HRes.out (by decide) hgr
            have hbl := HB3.out.grown hgr HB3.out.size (fun k hk => by simp only [Option.some.injEq] at hk; omega)
            generalize (((((((w3.setCell ⟨w.heap.size + 1 + 1, 0, none⟩ (.bool true)).setCell ⟨w.heap.size + 1 + 1, 1, none⟩ (.bool true)).setCell ⟨w.heap.size + 1 + 1, 2, none⟩ (.bool y2)).setCell ⟨w.heap.size + 1 + 1, 3, none⟩ (.bool y3)).setCell ⟨w.heap.size + 1 + 1, 4, none⟩ (.bool true)).setCell ⟨w.heap.size + 1 + 1, 5, none⟩ (.bool ob)).setCell ⟨w.heap.size + 1 + 1, 6, none⟩ (.slice op ol oc)) = w4 at *
            obtain ⟨⟨k0, k1, k2, k3, k4, k5, k6⟩, -⟩ := seven_at hf
            exact bodyPost_ret (v := .tuple #[.agg #[.bool true, .bool true, .bool y2, .bool y3, .bool true, .bool ob, .slice op ol oc], .bool true]) (by simp [results, Tryz.results58, go_sem, k0, k1, k2, k3, k4, k5, k6]) rfl ⟨⟨_, rfl, ob, op, ol, oc, rfl, hn, HG.out⟩, hbl⟩
        · cases x4
          · go_wp2_with fail
            have hf := set7 (a' := .bool true) (b' := .bool true) (c' := .bool y2) (d' := .bool true) (e' := .bool y4) (f' := .bool ob) (g' := .slice op ol oc) HRes.out
            have hgr := grown7 w3 (w.heap.size + 1 + 1) (.bool true) (.bool true) (.bool y2) (.bool true) (.bool y4) (.bool ob) (.slice op ol oc)
            have hn := HO3.out.grown HRes.out (by decide) hgr
            have hbl := HB3.out.grown hgr HB3.out.size (fun k hk => by simp only [Option.some.injEq] at hk; omega)
            generalize (((((((w3.setCell ⟨w.heap.size + 1 + 1, 0, none⟩ (.bool true)).setCell ⟨w.heap.size + 1 + 1, 1, none⟩ (.bool true)).setCell ⟨w.heap.size + 1 + 1, 2, none⟩ (.bool y2)).setCell ⟨w.heap.size + 1 + 1, 3, none⟩ (.bool true)).setCell ⟨w.heap.size + 1 + 1, 4, none⟩ (.bool y4)).setCell ⟨w.heap.size + 1 + 1, 5, none⟩ (.bool ob)).setCell ⟨w.heap.size + 1 + 1, 6, none⟩ (.slice op ol oc)) = w4 at *
            obtain ⟨⟨k0, k1, k2, k3, k4, k5, k6⟩, -⟩ := seven_at hf
            exact bodyPost_ret (v := .tuple #[.agg #[.bool true, .bool true, .bool y2, .bool true, .bool y4, .bool ob, .slice op ol oc], .bool true]) (by simp [results, Tryz.results58, go_sem, k0, k1, k2, k3, k4, k5, k6]) rfl ⟨⟨_, rfl, ob, op, ol, oc, rfl, hn, HG.out⟩, hbl⟩
          · go_wp2_with fail
            have hf := set7 (a' := .bool true) (b' := .bool true) (c' := .bool y2) (d' := .bool true) (e' := .bool true) (f' := .bool ob) (g' := .slice op ol oc) HRes.out
            have hgr := grown7 w3 (w.heap.size + 1 + 1) (.bool true) (.bool true) (.bool y2) (.bool true) (.bool true) (.bool ob) (.slice op ol oc)
            have hn := HO3.out.grown HRes.out (by decide) hgr
            have hbl := HB3.out.grown hgr HB3.out.size (fun k hk => by simp only [Option.some.injEq] at hk; omega)
            generalize (((((((w3.setCell ⟨w.heap.size + 1 + 1, 0, none⟩ (.bool true)).setCell ⟨w.heap.size + 1 + 1, 1, none⟩ (.bool true)).setCell ⟨w.heap.size + 1 + 1, 2, none⟩ (.bool y2)).setCell ⟨w.heap.size + 1 + 1, 3, none⟩ (.bool true)).setCell ⟨w.heap.size + 1 + 1, 4, none⟩ (.bool true)).setCell ⟨w.heap.size + 1 + 1, 5, none⟩ (.bool ob)).setCell ⟨w.heap.size + 1 + 1, 6, none⟩ (.slice op ol oc)) = w4 at *
            obtain ⟨⟨k0, k1, k2, k3, k4, k5, k6⟩, -⟩ := seven_at hf
            exact bodyPost_ret (v := .tuple #[.agg #[.bool true, .bool true, .bool y2, .bool true, .bool true, .bool ob, .slice op ol oc], .bool true]) (by simp [results, Tryz.results58, go_sem, k0, k1, k2, k3, k4, k5, k6]) rfl ⟨⟨_, rfl, ob, op, ol, oc, rfl, hn, HG.out⟩, hbl⟩
      · cases x3
        · cases x4
          · go_wp2_with fail
            have hf := set7 (a' := .bool true) (b' := .bool true) (c' := .bool true) (d' := .bool y3) (e' := .bool y4) (f' := .bool ob) (g' := .slice op ol oc) HRes.out
            have hgr := grown7 w3 (w.heap.size + 1 + 1) (.bool true) (.bool true) (.bool true) (.bool y3) (.bool y4) (.bool ob) (.slice op ol oc)
            have hn := HO3.out.grown HRes.out (by decide) hgr
            have hbl := HB3.out.grown hgr HB3.out.size (fun k hk => by simp only [Option.some.injEq] at hk; omega)
            generalize (((((((w3.setCell ⟨w.heap.size + 1 + 1, 0, none⟩ (.bool true)).setCell ⟨w.heap.size + 1 + 1, 1, none⟩ (.bool true)).setCell ⟨w.heap.size + 1 + 1, 2, none⟩ (.bool true)).setCell ⟨w.heap.size + 1 + 1, 3, none⟩ (.bool y3)).setCell ⟨w.heap.size + 1 + 1, 4, none⟩ (.bool y4)).setCell ⟨w.heap.size + 1 + 1, 5, none⟩ (.bool ob)).setCell ⟨w.heap.size + 1 + 1, 6, none⟩ (.slice op ol oc)) = w4 at *
            obtain ⟨⟨k0, k1, k2, k3, k4, k5, k6⟩, -⟩ := seven_at hf
            exact bodyPost_ret (v := .tuple #[.agg #[.bool true, .bool true, .bool true, .bool y3, .bool y4, .bool ob, .slice op ol oc], .bool true]) (by simp [results, Tryz.results58, go_sem, k0, k1, k2, k3, k4, k5, k6]) rfl ⟨⟨_, rfl, ob, op, ol, oc, rfl, hn, HG.out⟩, hbl⟩
          · go_wp2_with fail
            have hf := set7 (a' := .bool true) (b' := .bool true) (c' := .bool true) (d' := .bool y3) (e' := .bool true) (f' := .bool ob) (g' := .slice op ol oc) HRes.out
            have hgr := grown7 w3 (w.heap.size + 1 + 1) (.bool true) (.bool true) (.bool true) (.bool y3) (.bool true) (.bool ob) (.slice op ol oc)
            have hn := HO3.out.grown HRes.out (by decide) hgr
            have hbl := HB3.out.grown hgr HB3.out.size (fun k hk => by simp only [Option.some.injEq] at hk; omega)
            generalize (((((((w3.setCell ⟨w.heap.size + 1 + 1, 0, none⟩ (.bool true)).setCell ⟨w.heap.size + 1 + 1, 1, none⟩ (.bool true)).setCell ⟨w.heap.size + 1 + 1, 2, none⟩ (.bool true)).setCell ⟨w.heap.size + 1 + 1, 3, none⟩ (.bool y3)).setCell ⟨w.heap.size + 1 + 1, 4, none⟩ (.bool true)).setCell ⟨w.heap.size + 1 + 1, 5, none⟩ (.bool ob)).setCell ⟨w.heap.size + 1 + 1, 6, none⟩ (.slice op ol oc)) = w4 at *
            obtain ⟨⟨k0, k1, k2, k3, k4, k5, k6⟩, -⟩ := seven_at hf
            exact bodyPost_ret (v := .tuple #[.agg #[.bool true, .bool true, .bool true, .bool y3, .bool true, .bool ob, .slice op ol oc], .bool true]) (by simp [results, Tryz.results58, go_sem, k0, k1, k2, k3, k4, k5, k6]) rfl ⟨⟨_, rfl, ob, op, ol, oc, rfl, hn, HG.out⟩, hbl⟩
        · cases x4
          · go_wp2_with fail
            have hf := set7 (a' := .bool true) (b' := .bool true) (c' := .bool true) (d' := .bool true) (e' := .bool y4) (f' := .bool ob) (g' := .slice op ol oc) HRes.out
            have hgr := grown7 w3 (w.heap.size + 1 + 1) (.bool true) (.bool true) (.bool true) (.bool true) (.bool y4) (.bool ob) (.slice op ol oc)
            have hn := HO3.out.grown HRes.out (by decide) hgr
            have hbl := HB3.out.grown hgr HB3.out.size (fun k hk => by simp only [Option.some.injEq] at hk; omega)
            generalize (((((((w3.setCell ⟨w.heap.size + 1 + 1, 0, none⟩ (.bool true)).setCell ⟨w.heap.size + 1 + 1, 1, none⟩ (.bool true)).setCell ⟨w.heap.size + 1 + 1, 2, none⟩ (.bool true)).setCell ⟨w.heap.size + 1 + 1, 3, none⟩ (.bool true)).setCell ⟨w.heap.size + 1 + 1, 4, none⟩ (.bool y4)).setCell ⟨w.heap.size + 1 + 1, 5, none⟩ (.bool ob)).setCell ⟨w.heap.size + 1 + 1, 6, none⟩ (.slice op ol oc)) = w4 at *
            obtain ⟨⟨k0, k1, k2, k3, k4, k5, k6⟩, -⟩ := seven_at hf
            exact bodyPost_ret (v := .tuple #[.agg #[.bool true, .bool true, .bool true, .bool true, .bool y4, .bool ob, .slice op ol oc], .bool true]) (by simp [results, Tryz.results58, go_sem, k0, k1, k2, k3, k4, k5, k6]) rfl ⟨⟨_, rfl, ob, op, ol, oc, rfl, hn, HG.out⟩, hbl⟩
          · go_wp2_with fail
            have hf := set7 (a' := .bool true) (b' := .bool true) (c' := .bool true) (d' := .bool true) (e' := .bool true) (f' := .bool ob) (g' := .slice op ol oc) HRes.out
            have hgr := grown7 w3 (w.heap.size + 1 + 1) (.bool true) (.bool true) (.bool true) (.bool true) (.bool true) (.bool ob) (.slice op ol oc)
            have hn := HO3.out.grown HRes.out (by decide) hgr
            have hbl := HB3.out.grown hgr HB3.out.size (fun k hk => by simp only [Option.some.injEq] at hk; omega)
            generalize (((((((w3.setCell ⟨w.heap.size + 1 + 1, 0, none⟩ (.bool true)).setCell ⟨w.heap.size + 1 + 1, 1, none⟩ (.bool true)).setCell ⟨w.heap.size + 1 + 1, 2, none⟩ (.bool true)).setCell ⟨w.heap.size + 1 + 1, 3, none⟩ (.bool true)).setCell ⟨w.heap.size + 1 + 1, 4, none⟩ (.bool true)).setCell ⟨w.heap.size + 1 + 1, 5, none⟩ (.bool ob)).setCell ⟨w.heap.size + 1 + 1, 6, none⟩ (.slice op ol oc)) = w4 at *
            obtain ⟨⟨k0, k1, k2, k3, k4, k5, k6⟩, -⟩ := seven_at hf
            exact bodyPost_ret (v := .tuple #[.agg #[.bool true, .bool true, .bool true, .bool true, .bool true, .bool ob, .slice op ol oc], .bool true]) (by simp [results, Tryz.results58, go_sem, k0, k1, k2, k3, k4, k5, k6]) rfl ⟨⟨_, rfl, ob, op, ol, oc, rfl, hn, HG.out⟩, hbl⟩
end Go.Proofs.YtigikgphipebiaaGreatDoor
