/- Contracts that the law leans on, pruned and merged: Exo Exq Exs Ext Exy Exjo. -/
import Derived.Deep.RegionLaw
import Derived.Deep.RegionHeld3
import Derived.Deep.RegionWith
import Derived.Deep.DrawnRows
import Derived.Test.YtigikgphipebiaaGreatDoorRi13
import Derived.Test.YtigikgphipebiaaGreatDoorRi18
/- bushelref05: Join where there is room. -/
namespace Go.Proofs.YtigikgphipebiaaGreatDoor
set_option maxRecDepth 100000
open Go.RowKit
set_option linter.unusedVariables false
set_option maxHeartbeats 4000000 in
theorem rjoin5 (b : Bool) (v : Value) (z : Nat) (w : World) (hv : IsNum w v z) (h0 : z ≠ 0) (hz : Mid z) :
    Calls Tryz.prog 137 #[.bool b, v, .int .i64 (-1074)] w fun r w' => r = .returned (.float .f64 (signN b (nearW z (-1074)))) ∧ Below w.heap.size w w' := by
  obtain ⟨nb, np, nl, nc, rfl⟩ := hv.shape
  have hB := below_one w (.cells #[.bool nb, .slice np nl nc] 89)
  have HV := Lib.hid (hv.below hB)
  have HB := Lib.hid hB
  have hx : (w.alloc (.cells #[.bool nb, .slice np nl nc] 89)).cell? ⟨w.heap.size, 0, none⟩ = some (.bool nb) := by simp [go_sem]
  have hy : (w.alloc (.cells #[.bool nb, .slice np nl nc] 89)).cell? ⟨w.heap.size, 1, none⟩ = some (.slice np nl nc) := by simp [go_sem]
  have hl : ((nl : Int) == 0) = false := by have := num_len hv; simp; omega
  have h1m : Mid 1 := by have := le_cast (z := 1) (N := 1) (K := 3300) (by decide) (by decide); exact this
  have HNr := Lib.hid (fun w1 u v (hu : IsNum w1 u (z : Int)) (hv : IsNum w1 v ((1 : Nat) : Int)) => rnearq_any u v z 1 (-1074) w1 hu hv hz h1m (by decide) (by decide) (by decide))
  rw [nearQ_one h0] at HNr
  have HG := Lib.hid (fun w => rsign_any b (nearW z (-1074)) w (nearW_w64 z (-1074)))
  generalize signN b (nearW z (-1074)) = R at *
  generalize nearW z (-1074) = R0 at *
  clear hv hB h0 hz h1m
  go_enter Tryz.func137, Tryz.ntmps137
  go_upto_region 7 with fail
  generalize w.alloc (.cells #[.bool nb, .slice np nl nc] 89) = W at *
  have hk : W.drew.cell? ⟨w.heap.size, 0, none⟩ = some (.bool nb) ∧ W.drew.cell? ⟨w.heap.size, 1, none⟩ = some (.slice np nl nc) := ⟨by simp [hx], by simp [hy]⟩
  have hBw : Below W.heap.size W W.drew := (Below.refl _ _).drew
  go_region_held3 (fun w' => w'.cell? ⟨w.heap.size, 0, none⟩ = some (.bool nb) ∧ w'.cell? ⟨w.heap.size, 1, none⟩ = some (.slice np nl nc))
    (with_reducible exact hk)
    (first
      | (go_at_call 105; refine (nat_any 1 _ (by decide) (by decide)).mono ?_; rintro r w1 ⟨o, rfl, ho, hb1⟩; have hk := And.intro (cell_later hb1 hk.1) (cell_later hb1 hk.2); have hBw := hBw.trans (hb1.mono hBw.size))
      | (go_at_call 183; refine (HNr.out _ _ _ (HV.out.below hBw) ho).mono ?_; rintro r w2 ⟨rfl, hb2⟩; have hk := And.intro (cell_later hb2 hk.1) (cell_later hb2 hk.2); have hBw := hBw.trans (hb2.mono hBw.size))
      | (go_at_call 136; refine (HG.out _).mono ?_; rintro r w3 ⟨rfl, rfl⟩))
  have hE := HB.out.trans (hBw.mono HB.out.size)
  clear hk hBw
  go_wp2_with fail
  go_ret
  exact ⟨rfl, hE⟩
set_option maxRecDepth 100000
open Go.RowKit
set_option linter.unusedVariables false
/-- A flag of a state. -/
def bitB (f i : Nat) : Bool := f.testBit i
/-- A value of the reference's sums, in a state. -/
def SumV (w : World) (v : Value) (f : Nat) (t : Int) : Prop := ∃ nb p l c, v = .agg #[.bool (bitB f 0), .bool (bitB f 1), .bool (bitB f 2), .bool (bitB f 3), .bool (bitB f 4), .bool nb, .slice p l c] ∧ IsNum w (.agg #[.bool nb, .slice p l c]) t ∧ Good f t
theorem SumV.below {w w' : World} {v : Value} {f : Nat} {t : Int} (h : SumV w v f t) (hb : Below w.heap.size w w') : SumV w' v f t := by
  obtain ⟨nb, p, l, c, rfl, h2, h3⟩ := h
  exact ⟨nb, p, l, c, rfl, h2.below hb, h3⟩
def RValP (f : Nat) (t : Int) (w : World) (e : Ending) (w' : World) : Prop := (∃ X : Nat, W64 X ∧ sameB (valueW f t) X = true ∧ e = .returned (.float .f64 X)) ∧ Below w.heap.size w w'
set_option maxHeartbeats 4000000 in
theorem rvalue_any (w : World) (v : Value) (f : Nat) (t : Int) (h : SumV w v f t) : Calls Tryz.prog 65 #[v] w (RValP f t w) := by
  obtain ⟨nb, p, l, c, rfl, hn, hg⟩ := h
  unfold bitB
  have hneg := num_neg hn
  have hlen := num_len hn
  have HB := Lib.hid (fun o => below_one w o)
  have HJ := Lib.hid (fun w1 (h : Below w.heap.size w w1) (h0 : t ≠ 0) => rjoin5 nb (.agg #[.bool false, .slice p l c]) t.natAbs w1 ((num_abs hn).below h) (by omega) (mid_of hg.2.2 (by decide)))
  have HG := Lib.hid (fun b x (hx : W64 x) w => rsign_any b x w hx)
  have hq := Lib.hid (fun t w => run_qnan (P := Tryz.prog) t w)
  have hinf : floatBits .quo .f64 4607182418800017408 0 = some 9218868437227405312 := by decide +kernel
  have hop := Lib.hid (fun t w => run_float_arith (P := Tryz.prog) w .quo t .f64 _ _ _ hinf)
  have hgood := hg.2.1
  have hQ : ∀ R : Nat, valueW f t = R → W64 R → Hid (∃ X : Nat, W64 X ∧ sameB (valueW f t) X = true ∧ Ending.returned (.float .f64 R) = .returned (.float .f64 X)) := fun R e h => ⟨R, h, by rw [e]; exact same_self _, rfl⟩
  have hQn : valueW f t = 9221120237041090561 → ∀ X : Nat, isNaNB X = true → W64 X → Hid (∃ Y : Nat, W64 Y ∧ sameB (valueW f t) Y = true ∧ Ending.returned (.float .f64 X) = .returned (.float .f64 Y)) := fun e X h1 h2 => ⟨X, h2, by rw [e]; exact nan_same nan_w64 h2 nan_is h1, rfl⟩
  unfold RValP
  clear hinf
  cases hb0 : f.testBit 0
  · cases hb1 : f.testBit 1
    · cases hb2 : f.testBit 2
      · by_cases h0 : t = 0
        · obtain rfl : l = 0 := hlen.2 h0
          clear hlen hgood hneg
          cases hb3 : f.testBit 3
          · have hR := hQ 0 (by unfold valueW; rw [hb0, hb1, hb2, hb3, h0]; simp only [Bool.false_and, Bool.or_false, Bool.false_eq_true, if_false]; decide) (by decide)
            generalize f.testBit 4 = b4 at *
            have h2 := Lib.hid (HG.out false 0 (by decide))
            rw [show signN false 0 = 0 by decide] at h2
            clear hQ hQn HJ HG hq hop hn hg hb0 hb1 hb2 hb3
            go_enter Tryz.func65, Tryz.ntmps65
            go_wp2_with fail
            refine (h2.out _).mono ?_; rintro e w1 ⟨rfl, rfl⟩
            go_wp2_with fail
            go_ret
            exact ⟨hR.out, HB.out _⟩
          · cases hb4 : f.testBit 4
            · have hR := hQ 9223372036854775808 (by unfold valueW; rw [hb0, hb1, hb2, hb3, hb4, h0]; decide) (by decide)
              have h2 := Lib.hid (HG.out true 0 (by decide))
              rw [show signN true 0 = 9223372036854775808 by decide] at h2
              clear hQ hQn HJ HG hq hop hn hg hb0 hb1 hb2 hb3 hb4
              go_enter Tryz.func65, Tryz.ntmps65
              go_wp2_with fail
              refine (h2.out _).mono ?_; rintro e w1 ⟨rfl, rfl⟩
              go_wp2_with fail
              go_ret
              exact ⟨hR.out, HB.out _⟩
            · have hR := hQ 0 (by unfold valueW; rw [hb0, hb1, hb2, hb3, hb4, h0]; decide) (by decide)
              have h2 := Lib.hid (HG.out false 0 (by decide))
              rw [show signN false 0 = 0 by decide] at h2
              clear hQ hQn HJ HG hq hop hn hg hb0 hb1 hb2 hb3 hb4
              go_enter Tryz.func65, Tryz.ntmps65
              go_wp2_with fail
              refine (h2.out _).mono ?_; rintro e w1 ⟨rfl, rfl⟩
              go_wp2_with fail
              go_ret
              exact ⟨hR.out, HB.out _⟩
        · have hb4 := hgood h0
          have hR := hQ (signN nb (nearW t.natAbs (-1074))) (by unfold valueW; rw [hb0, hb1, hb2, hb4, hneg]; simp) (sign_fits4 _ (nearW_w64 t.natAbs (-1074)))
          have hl : (0 : Int) < (l : Int) := by omega
          have hJ := Lib.hid (fun w1 h => HJ.out w1 h h0)
          generalize signN nb (nearW t.natAbs (-1074)) = R at *
          generalize f.testBit 3 = b3 at *
          generalize f.testBit 4 = b4 at *
          clear hQ hQn HJ HG hq hop hb0 hb1 hb2 hb4 hn hg hneg hlen hgood h0
          go_enter Tryz.func65, Tryz.ntmps65
          go_wp2_with fail
          refine (hJ.out _ (HB.out _)).mono ?_; rintro e w1 ⟨rfl, hb⟩
          have HE := Lib.hid (below_then (HB.out _) hb)
          clear hb hJ
          go_wp2_with fail
          go_ret
          exact ⟨hR.out, HE.out⟩
      · have hR := hQ 18442240474082181120 (by unfold valueW; rw [hb0, hb1, hb2]; rfl) (by decide)
        generalize f.testBit 3 = b3 at *
        generalize f.testBit 4 = b4 at *
        have h2 := Lib.hid (HG.out true 9218868437227405312 (by decide))
        rw [show signN true 9218868437227405312 = 18442240474082181120 by decide] at h2
        clear hQ hQn HJ HG hq hn hg hb0 hb1 hb2
        have hop2 := hop.out
        go_enter Tryz.func65, Tryz.ntmps65
        go_wp2_with (simp only [hop2])
        refine (h2.out _).mono ?_; rintro e w1 ⟨rfl, rfl⟩
        clear hop2
        go_wp2_with fail
        go_ret
        exact ⟨hR.out, HB.out _⟩
    · cases hb2 : f.testBit 2
      · have hR := hQ 9218868437227405312 (by unfold valueW; rw [hb0, hb1, hb2]; rfl) (by decide)
        generalize f.testBit 3 = b3 at *
        generalize f.testBit 4 = b4 at *
        have h2 := Lib.hid (HG.out false 9218868437227405312 (by decide))
        rw [show signN false 9218868437227405312 = 9218868437227405312 by decide] at h2
        clear hQ hQn HJ HG hq hn hg hb0 hb1 hb2
        have hop2 := hop.out
        go_enter Tryz.func65, Tryz.ntmps65
        go_wp2_with (simp only [hop2])
        refine (h2.out _).mono ?_; rintro e w1 ⟨rfl, rfl⟩
        clear hop2
        go_wp2_with fail
        go_ret
        exact ⟨hR.out, HB.out _⟩
      · have hR := hQn (by unfold valueW; rw [hb0, hb1, hb2]; rfl)
        generalize f.testBit 3 = b3 at *
        generalize f.testBit 4 = b4 at *
        clear hQ hQn HJ HG hop hn hg hb0 hb1 hb2
        have hq2 := hq.out
        go_enter Tryz.func65, Tryz.ntmps65
        go_wp2_with (simp only [hq2])
        go_ret
        exact ⟨(hR _ (nanOf_nan _ _).1 (nanOf_nan _ _).2).out, (HB.out _).drew⟩
  · have hR := hQn (by unfold valueW; rw [hb0]; rfl)
    generalize f.testBit 1 = b1 at *
    generalize f.testBit 2 = b2 at *
    generalize f.testBit 3 = b3 at *
    generalize f.testBit 4 = b4 at *
    clear hQ hQn HJ HG hop hn hg hb0
    have hq2 := hq.out
    go_enter Tryz.func65, Tryz.ntmps65
    go_wp2_with (simp only [hq2])
    go_ret
    exact ⟨(hR _ (nanOf_nan _ _).1 (nanOf_nan _ _).2).out, (HB.out _).drew⟩
set_option maxRecDepth 100000
open Go.RowKit
set_option linter.unusedVariables false
/-- The block of a sum of the reference, of seven cells, is written. -/
theorem set7 {w : World} {N : Nat} {T : TypeId} {a b c d e f g a' b' c' d' e' f' g' : Value} (h : w.heap[N]? = some (.cells #[a, b, c, d, e, f, g] T (0, 0))) :
    (((((((w.setCell ⟨N, 0, none⟩ a').setCell ⟨N, 1, none⟩ b').setCell ⟨N, 2, none⟩ c').setCell ⟨N, 3, none⟩ d').setCell ⟨N, 4, none⟩ e').setCell ⟨N, 5, none⟩ f').setCell ⟨N, 6, none⟩ g').heap[N]? = some (.cells #[a', b', c', d', e', f', g'] T (0, 0)) := by
  simp [World.setCell, Array.getElem?_modify, h]
theorem grown7 (w : World) (N : Nat) (a' b' c' d' e' f' g' : Value) :
    w.grownBy (((((((w.setCell ⟨N, 0, none⟩ a').setCell ⟨N, 1, none⟩ b').setCell ⟨N, 2, none⟩ c').setCell ⟨N, 3, none⟩ d').setCell ⟨N, 4, none⟩ e').setCell ⟨N, 5, none⟩ f').setCell ⟨N, 6, none⟩ g') (some N) :=
  grown_then (grown_then (grown_then (grown_then (grown_then (grown_then (grown_set w N 0 a') (grown_set _ N 1 b')) (grown_set _ N 2 c')) (grown_set _ N 3 d')) (grown_set _ N 4 e')) (grown_set _ N 5 f')) (grown_set _ N 6 g')
theorem seven_at {w : World} {N : Nat} {T : TypeId} {a b c d e f g : Value} (h : w.heap[N]? = some (.cells #[a, b, c, d, e, f, g] T (0, 0))) :
    (w.cell? ⟨N, 0, none⟩ = some a ∧ w.cell? ⟨N, 1, none⟩ = some b ∧ w.cell? ⟨N, 2, none⟩ = some c ∧ w.cell? ⟨N, 3, none⟩ = some d ∧ w.cell? ⟨N, 4, none⟩ = some e ∧ w.cell? ⟨N, 5, none⟩ = some f ∧ w.cell? ⟨N, 6, none⟩ = some g) ∧
    (w.frozen? ⟨N, 0, none⟩ = false ∧ w.frozen? ⟨N, 1, none⟩ = false ∧ w.frozen? ⟨N, 2, none⟩ = false ∧ w.frozen? ⟨N, 3, none⟩ = false ∧ w.frozen? ⟨N, 4, none⟩ = false ∧ w.frozen? ⟨N, 5, none⟩ = false ∧ w.frozen? ⟨N, 6, none⟩ = false) := by
  refine ⟨⟨by simp [World.cell?, h], by simp [World.cell?, h], by simp [World.cell?, h], by simp [World.cell?, h], by simp [World.cell?, h], by simp [World.cell?, h], by simp [World.cell?, h]⟩, ⟨by simp [World.frozen?, h], by simp [World.frozen?, h], by simp [World.frozen?, h], by simp [World.frozen?, h], by simp [World.frozen?, h], by simp [World.frozen?, h], by simp [World.frozen?, h]⟩⟩
theorem heap_then {w w' : World} {N : Nat} {o : Obj} (h : w.heap[N]? = some o) (hb : Below w.heap.size w w') : w'.heap[N]? = some o := by
  rw [hb.block N (Array.getElem?_eq_some_iff.1 h).1]; exact h
set_option maxRecDepth 100000
open Go.RowKit
set_option linter.unusedVariables false
end Go.Proofs.YtigikgphipebiaaGreatDoor
/- bushelref05: Add of what is no other finite number. -/
namespace Go.Proofs.YtigikgphipebiaaGreatDoor
set_option maxRecDepth 100000
open Go.RowKit
set_option linter.unusedVariables false
theorem two_blocks (w : World) (a b : Obj) : ((w.alloc a).alloc b).heap[w.heap.size]? = some a ∧ ((w.alloc a).alloc b).heap[w.heap.size + 1]? = some b := by
  have h0 := heap_then (heap_alloc_new w a) (below_one _ b)
  have h1 := heap_alloc_new (w.alloc a) b
  exact ⟨h0, by simpa using h1⟩
set_option maxRecDepth 100000
open Go.RowKit
set_option linter.unusedVariables false
theorem Good.flag {f g : Nat} {s : Int} (h : Good f s) (hg : g < 32) : Good (f ||| g) s :=
  ⟨or_lt h.1 hg, fun hh => by rw [Nat.testBit_or, h.2.1 hh]; rfl, h.2.2⟩
end Go.Proofs.YtigikgphipebiaaGreatDoor
/- bushelref05: Mean. -/
namespace Go.Proofs.YtigikgphipebiaaGreatDoor
set_option maxRecDepth 100000
open Go.RowKit
set_option linter.unusedVariables false
/-- A block that holds a sum of the reference. -/
def SumBox (w : World) (K : Nat) (f : Nat) (t : Int) : Prop := ∃ nb p l c, w.heap[K]? = some (.cells #[.bool (bitB f 0), .bool (bitB f 1), .bool (bitB f 2), .bool (bitB f 3), .bool (bitB f 4), .bool nb, .slice p l c] 95 (0, 0)) ∧ IsNum w (.agg #[.bool nb, .slice p l c]) t ∧ Good f t
theorem SumBox.below {w w' : World} {K f : Nat} {t : Int} (h : SumBox w K f t) (hb : Below w.heap.size w w') : SumBox w' K f t := by
  obtain ⟨nb, p, l, c, h1, h2, h3⟩ := h
  exact ⟨nb, p, l, c, heap_then h1 hb, h2.below hb, h3⟩
theorem SumBox.lt {w : World} {K f : Nat} {t : Int} (h : SumBox w K f t) : K < w.heap.size := by
  obtain ⟨nb, p, l, c, h1, -⟩ := h
  exact (Array.getElem?_eq_some_iff.1 h1).1
/-- A box is written with a sum. -/
theorem SumBox.put {w : World} {K f g : Nat} {t u : Int} {nb : Bool} {p : Option Addr} {l c : Nat} (h : SumBox w K f t) (hn : IsNum w (.agg #[.bool nb, .slice p l c]) u) (hg : Good g u) :
    SumBox (((((((w.setCell ⟨K, 0, none⟩ (.bool (bitB g 0))).setCell ⟨K, 1, none⟩ (.bool (bitB g 1))).setCell ⟨K, 2, none⟩ (.bool (bitB g 2))).setCell ⟨K, 3, none⟩ (.bool (bitB g 3))).setCell ⟨K, 4, none⟩ (.bool (bitB g 4))).setCell ⟨K, 5, none⟩ (.bool nb)).setCell ⟨K, 6, none⟩ (.slice p l c)) K g u := by
  obtain ⟨nb0, p0, l0, c0, h1, -, -⟩ := h
  exact ⟨nb, p, l, c, set7 h1, hn.grown h1 (by decide) (grown7 _ _ _ _ _ _ _ _ _), hg⟩
theorem SumBox.grown {w w' : World} {M K f : Nat} {t : Int} {cur : Array Value} {fr : Nat × Nat} (h : SumBox w M f t) (hp : w.heap[K]? = some (.cells cur 95 fr)) (hne : M ≠ K) (hg : w.grownBy w' (some K)) : SumBox w' M f t := by
  obtain ⟨nb, p, l, c, h1, h2, h3⟩ := h
  exact ⟨nb, p, l, c, (hg.block _ (Array.getElem?_eq_some_iff.1 h1).1 (by simpa using hne)).trans h1, h2.grown hp (by decide) hg, h3⟩
set_option maxRecDepth 100000
open Go.RowKit
set_option linter.unusedVariables false
end Go.Proofs.YtigikgphipebiaaGreatDoor
/- bushelref05: the bytes. -/
namespace Go.Proofs.YtigikgphipebiaaGreatDoor
set_option maxRecDepth 100000
open Go.RowKit
set_option linter.unusedVariables false
abbrev SixB (N : Nat) (b0 b1 b2 b3 b4 b5 : Bool) (w : World) : Prop := w.cell? ⟨N, 0, none⟩ = some (.bool b0) ∧ w.cell? ⟨N, 1, none⟩ = some (.bool b1) ∧ w.cell? ⟨N, 2, none⟩ = some (.bool b2) ∧ w.cell? ⟨N, 3, none⟩ = some (.bool b3) ∧ w.cell? ⟨N, 4, none⟩ = some (.bool b4) ∧ w.cell? ⟨N, 5, none⟩ = some (.bool b5)
theorem SixB.call {N : Nat} {b0 b1 b2 b3 b4 b5 : Bool} {w w' : World} (h : SixB N b0 b1 b2 b3 b4 b5 w) (hb : Below w.heap.size w w') : SixB N b0 b1 b2 b3 b4 b5 w' :=
  ⟨cell_later hb h.1, cell_later hb h.2.1, cell_later hb h.2.2.1, cell_later hb h.2.2.2.1, cell_later hb h.2.2.2.2.1, cell_later hb h.2.2.2.2.2⟩
theorem SixB.alloc {N : Nat} {b0 b1 b2 b3 b4 b5 : Bool} {w : World} {o : Obj} (h : SixB N b0 b1 b2 b3 b4 b5 w) : SixB N b0 b1 b2 b3 b4 b5 (w.alloc o) := h.call (below_one w o)
theorem BOwn5.mono {w : World} {B B' : Nat} {v : Value} {l : List Int} (h : BOwn5 w B v l) (hb : B' ≤ B) : BOwn5 w B' v l := by
  obtain ⟨h1, h2⟩ := h
  refine ⟨h1, ?_⟩
  rcases h2 with h2 | ⟨g, cap, cur, e, h3, h4⟩
  · exact .inl h2
  · exact .inr ⟨g, cap, cur, e, Nat.le_trans hb h3, h4⟩
end Go.Proofs.YtigikgphipebiaaGreatDoor
/- Both sides of a sum: is; boxes beside sums. -/
namespace Go.Proofs.YtigikgphipebiaaGreatDoor
set_option maxRecDepth 100000
open Go.RowKit
set_option linter.unusedVariables false
attribute [local go_sem ↓] Go.wp_at_zero Go.wp_at_succ
/-- A sum stays as it is where a box of another type is written. -/
theorem SumAt.box {w w' : World} {M K f : Nat} {t : Int} {cur : Array Value} {fr : Nat × Nat} (h : SumAt w M f t) (hp : w.heap[K]? = some (.cells cur 95 fr)) (hg : w.grownBy w' (some K)) : SumAt w' M f t := by
  obtain ⟨v, h1, ⟨a, m1, m2, m3⟩, h3⟩ := h
  have hne : M ≠ K := by
    rintro rfl
    unfold Cells4 at h1
    rw [h1] at hp
    simp at hp
  refine ⟨v, ?_, ⟨a, ⟨m1.1.grown m2 hp (by decide) hg, m1.2⟩, m2.grown hp (by decide) hg, m3⟩, h3⟩
  unfold Cells4
  rw [hg.block M h1.lt (by simpa using hne)]; exact h1
theorem SumBox.sum {w w' : World} {K f : Nat} {t : Int} {N g : Nat} {u : Int} (h : SumBox w K f t) (k : SumAt w N g u) (hg : w.grownBy w' (some N)) : SumBox w' K f t := by
  obtain ⟨nb, p, l, c, h1, h2, h3⟩ := h
  have hne : K ≠ N := by
    rintro rfl
    obtain ⟨x, k1, -⟩ := k
    unfold Cells4 at k1
    rw [k1] at h1
    simp at h1
  exact ⟨nb, p, l, c, (hg.block _ (Array.getElem?_eq_some_iff.1 h1).1 (by simpa using hne)).trans h1, h2.sum k hg, h3⟩
abbrev SevenAt (N : Nat) (b0 b1 b2 b3 b4 b5 : Bool) (v : Value) (w : World) : Prop := w.cell? ⟨N, 0, none⟩ = some (.bool b0) ∧ w.cell? ⟨N, 1, none⟩ = some (.bool b1) ∧ w.cell? ⟨N, 2, none⟩ = some (.bool b2) ∧ w.cell? ⟨N, 3, none⟩ = some (.bool b3) ∧ w.cell? ⟨N, 4, none⟩ = some (.bool b4) ∧ w.cell? ⟨N, 5, none⟩ = some (.bool b5) ∧ w.cell? ⟨N, 6, none⟩ = some v
theorem SevenAt.call {N : Nat} {b0 b1 b2 b3 b4 b5 : Bool} {v : Value} {w w' : World} (h : SevenAt N b0 b1 b2 b3 b4 b5 v w) (hb : Below w.heap.size w w') : SevenAt N b0 b1 b2 b3 b4 b5 v w' :=
  ⟨cell_later hb h.1, cell_later hb h.2.1, cell_later hb h.2.2.1, cell_later hb h.2.2.2.1, cell_later hb h.2.2.2.2.1, cell_later hb h.2.2.2.2.2.1, cell_later hb h.2.2.2.2.2.2⟩
end Go.Proofs.YtigikgphipebiaaGreatDoor
/- Sums that are joined, on both sides at once: one answer for a join, fitting or not. -/
namespace Go.Proofs.YtigikgphipebiaaGreatDoor
set_option maxRecDepth 100000
open Go.RowKit
set_option linter.unusedVariables false
/-- The value that lies in a box. -/
theorem SumBox.value {w : World} {K f : Nat} {t : Int} (h : SumBox w K f t) : ∃ nb p l c, w.heap[K]? = some (.cells #[.bool (bitB f 0), .bool (bitB f 1), .bool (bitB f 2), .bool (bitB f 3), .bool (bitB f 4), .bool nb, .slice p l c] 95 (0, 0)) ∧
    SumV w (.agg #[.bool (bitB f 0), .bool (bitB f 1), .bool (bitB f 2), .bool (bitB f 3), .bool (bitB f 4), .bool nb, .slice p l c]) f t := by
  obtain ⟨nb, p, l, c, h1, h2, h3⟩ := h
  exact ⟨nb, p, l, c, h1, nb, p, l, c, rfl, h2, h3⟩
/-- A value that is laid in a new box. -/
theorem SumV.box {w : World} {f : Nat} {t : Int} {nb : Bool} {p : Option Addr} {l c : Nat} (h : SumV w (.agg #[.bool (bitB f 0), .bool (bitB f 1), .bool (bitB f 2), .bool (bitB f 3), .bool (bitB f 4), .bool nb, .slice p l c]) f t) :
    SumBox (w.alloc (.cells #[.bool (bitB f 0), .bool (bitB f 1), .bool (bitB f 2), .bool (bitB f 3), .bool (bitB f 4), .bool nb, .slice p l c] 95)) w.heap.size f t := by
  obtain ⟨nb', p', l', c', e, h2, h3⟩ := h
  simp only [Value.agg.injEq, Array.mk.injEq, List.cons.injEq, Value.bool.injEq, Value.slice.injEq, and_true, true_and] at e
  obtain ⟨rfl, rfl, rfl, rfl⟩ := e
  exact ⟨_, _, _, _, heap_alloc_new w _, h2.below (below_one w _), h3⟩
theorem SumV.shape {w : World} {v : Value} {f : Nat} {t : Int} (h : SumV w v f t) : ∃ nb p l c, v = .agg #[.bool (bitB f 0), .bool (bitB f 1), .bool (bitB f 2), .bool (bitB f 3), .bool (bitB f 4), .bool nb, .slice p l c] := by
  obtain ⟨nb, p, l, c, e, -, -⟩ := h
  exact ⟨nb, p, l, c, e⟩
end Go.Proofs.YtigikgphipebiaaGreatDoor
