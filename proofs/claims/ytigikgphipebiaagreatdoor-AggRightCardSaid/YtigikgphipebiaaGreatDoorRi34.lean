/- Contracts that the law leans on, pruned and merged: Aggx. -/
import Derived.Test.YtigikgphipebiaaGreatDoorRi06
import Derived.Test.YtigikgphipebiaaGreatDoorRi07
import Derived.Test.YtigikgphipebiaaGreatDoorRi20
import Derived.Test.YtigikgphipebiaaGreatDoorRi33
/- Layer 14: the program's Same. -/
namespace Go.Proofs.YtigikgphipebiaaGreatDoor
set_option maxRecDepth 100000
open Go.RowKit
set_option linter.unusedVariables false
set_option maxHeartbeats 4000000 in
theorem eqU14_any (u v : Value) (xs ys : List Int) (w : World) (hu : Ints .u32 w u xs) (hv : Ints .u32 w v ys) (hm : xs.length ≤ 9223372036854775807) :
    Calls Tryz.prog 69 #[u, v] w fun e w' => e = .returned (.bool (decide (xs = ys))) ∧ Drawn w w' := by
  obtain ⟨a, cap, rfl, h1, h3⟩ := hu
  obtain ⟨a', cap', rfl, h1', h3'⟩ := hv
  have HC := Lib.hid h3
  have HC' := Lib.hid h3'
  clear h3 h3'
  by_cases hn : xs.length = ys.length
  · have HG := Lib.hid (fun h => eq_good hn h)
    have HB := Lib.hid (fun k h => eq_bad (xs := xs) (ys := ys) (k := k) h)
    rw [← hn] at HC' ⊢
    have HQ := Lib.hid hn
    clear h1 h1' hn
    generalize decide (xs = ys) = R at *
    go_enter Tryz.func69, Tryz.ntmps69
    go_wp2_with fail
    go_loopw [13] (fun i wr => ∃ k : Nat, k ≤ xs.length ∧ i = .int .i64 k ∧ Hid (Drawn w wr) ∧ Hid (∀ j, j < k → xs.getD j 0 = ys.getD j 0)) (fun i _ => xs.length - (intOf i).toNat)
    case atStart => exact ⟨0, Nat.zero_le _, rfl, Lib.hid (Drawn.refl _), Lib.hid (fun j hj => by omega)⟩
    case round =>
      obtain ⟨k, hk, rfl, HD, HJ⟩ := hrel
      by_cases hlk : k < xs.length
      · have hlk' : (k : Int) < (xs.length : Int) := by omega
        rcases HC.out with h3 | ⟨b, off, rfl, hlt, hc⟩
        · rw [h3] at hlk; simp at hlk
        rcases HC'.out with h3 | ⟨b', off', rfl, hlt', hc'⟩
        · have hn := HQ.out; rw [h3] at hn; rw [hn] at hlk; simp at hlk
        have hx : wr.cell? ⟨b, off + k, none⟩ = some (.int .u32 (xs.getD k 0)) := (HD.out.below.cell (p := ⟨b, off + k, none⟩) hlt).trans (hc k hlk)
        have hx' : wr.cell? ⟨b', off' + k, none⟩ = some (.int .u32 (ys.getD k 0)) := (HD.out.below.cell (p := ⟨b', off' + k, none⟩) hlt').trans (hc' k hlk)
        have HN := Lib.hid (fun n => HD.out.next n)
        clear hc hc'
        by_cases hq : xs.getD k 0 = ys.getD k 0
        · have HJ2 := Lib.hid (fun j (hj : j < k + 1) => show xs.getD j 0 = ys.getD j 0 from if h : j < k then HJ.out j h else by
            have e : j = k := by omega
            rw [e]; exact hq)
          rw [← hq] at hx'
          have e : (xs.getD k 0 != xs.getD k 0) = false := by simp
          clear hq
          generalize xs.getD k 0 = x at hx hx' e
          go_upto_region 6 with fail
          go_quiet (fail)
          have HD2 := Lib.hid (HN.out nq)
          go_wp2
          go_roundw
          case rel => exact ⟨k + 1, by omega, by go_num, HD2, HJ2⟩
          case measure => simp [intOf]; omega
        · have hR := HB.out k hq
          subst hR
          have e : (xs.getD k 0 != ys.getD k 0) = true := by simpa using hq
          clear hq
          generalize xs.getD k 0 = x at hx e
          generalize ys.getD k 0 = y at hx' e
          go_upto_region 6 with fail
          go_quiet (fail)
          have HD2 := Lib.hid (HN.out nq)
          go_wp2
          go_ret
          exact ⟨rfl, HD2.out⟩
      · have hke : k = xs.length := by omega
        subst hke
        have hR := HG.out HJ.out
        subst hR
        go_wp2_with fail
        go_ret
        exact ⟨rfl, HD.out⟩
  · rw [eq_len hn]
    have hn2 : ((xs.length : Int) != (ys.length : Int)) = true := by simp; omega
    go_enter Tryz.func69, Tryz.ntmps69
    go_wp2_with fail
    go_ret
    exact ⟨rfl, Drawn.refl _⟩
theorem bequal14_any (v1 v2 : Value) (a b : List Int) (w : World) (h1 : Ints .u8 w v1 a) (h2 : Ints .u8 w v2 b) (ha : Bt a) (hb : Bt b) :
    Calls Tryz.prog 71 #[v1, v2] w fun e w' => e = .returned (.bool (decide (a = b))) ∧ w = w' := by
  have c1 := conv_ints h1 ha
  have c2 := conv_ints h2 hb
  have HE := Lib.hid (strB_beq ha hb)
  obtain ⟨p1, q1, rfl, -, -⟩ := h1
  obtain ⟨p2, q2, rfl, -, -⟩ := h2
  generalize strB a = A at *
  generalize strB b = B at *
  go_enter Tryz.func71, Tryz.ntmps71
  go_wp2_with fail
  go_ret
  exact ⟨by show Ending.returned (Value.bool _) = _; rw [HE.out], rfl⟩
theorem boxes_pair {w : World} {cs ds : Array Value} {T : TypeId} : ((w.alloc (.cells cs T)).alloc (.cells ds T)).heap[w.heap.size]? = some (.cells cs T (0, 0)) ∧ ((w.alloc (.cells cs T)).alloc (.cells ds T)).heap[w.heap.size + 1]? = some (.cells ds T (0, 0)) ∧ Below w.heap.size w ((w.alloc (.cells cs T)).alloc (.cells ds T)) := by
  have b1 := below_one w (.cells cs T)
  have b2 := below_one (w.alloc (.cells cs T)) (.cells ds T)
  have h1 : (w.alloc (.cells cs T)).heap[w.heap.size]? = some (.cells cs T (0, 0)) := heap_alloc_new w _
  have h2 : ((w.alloc (.cells cs T)).alloc (.cells ds T)).heap[(w.alloc (.cells cs T)).heap.size]? = some (.cells ds T (0, 0)) := heap_alloc_new _ _
  simp only [World.size_alloc] at h2
  refine ⟨?_, h2, below_then b1 b2⟩
  rw [b2.block _ (by simp)]; exact h1
set_option maxHeartbeats 8000000 in
theorem sameW_raw (w : World) (x0 x1 x3 x4 y0 y1 y3 y4 : Int) (lx ly : List Int) (p p' : Option Addr) (c c' : Nat) (hq : Ints .u32 w (.slice p lx.length c) lx) (hr : Ints .u32 w (.slice p' ly.length c') ly) (hm : lx.length ≤ 9223372036854775807) :
    Calls Tryz.prog 68 #[.agg #[.int .i64 x0, .int .i64 x1, .slice p lx.length c, .int .i64 x3, .int .i64 x4], .agg #[.int .i64 y0, .int .i64 y1, .slice p' ly.length c', .int .i64 y3, .int .i64 y4]] w fun e w' => e = .returned (.bool (sameWh ⟨x0, x1, lx, x3, x4⟩ ⟨y0, y1, ly, y3, y4⟩)) ∧ Below w.heap.size w w' := by
  have HE := Lib.hid (fun w1 (hb : Below w.heap.size w w1) => eqU14_any (.slice p lx.length c) (.slice p' ly.length c') lx ly w1 (hq.below hb) (hr.below hb) hm)
  have HR := Lib.hid (show sameWh ⟨x0, x1, lx, x3, x4⟩ ⟨y0, y1, ly, y3, y4⟩ = (x0 == y0 && x1 == y1 && x3 == y3 && x4 == y4 && decide (lx = ly)) from rfl)
  obtain ⟨b1, b2, b3⟩ := boxes_pair (w := w) (T := 75) (cs := #[.int .i64 x0, .int .i64 x1, .slice p lx.length c, .int .i64 x3, .int .i64 x4]) (ds := #[.int .i64 y0, .int .i64 y1, .slice p' ly.length c', .int .i64 y3, .int .i64 y4])
  have HX := Lib.hid b1
  have HY := Lib.hid b2
  have HB := Lib.hid b3
  generalize sameWh ⟨x0, x1, lx, x3, x4⟩ ⟨y0, y1, ly, y3, y4⟩ = R at *
  generalize decide (lx = ly) = dl at *
  clear hq hr hm b1 b2 b3
  go_enter Tryz.func68, Tryz.ntmps68
  go_upto_region 1 with fail
  generalize (w.alloc (.cells #[.int .i64 x0, .int .i64 x1, .slice p lx.length c, .int .i64 x3, .int .i64 x4] 75)).alloc (.cells #[.int .i64 y0, .int .i64 y1, .slice p' ly.length c', .int .i64 y3, .int .i64 y4] 75) = W at *
  obtain ⟨c0, c1, c2, c3, c4⟩ := row5 HX.out
  obtain ⟨d0, d1, d2, d3, d4⟩ := row5 HY.out
  have hcases : (x0 == y0) = false ∨ ((x0 == y0) = true ∧ (x1 == y1) = false) ∨ ((x0 == y0) = true ∧ (x1 == y1) = true) := by
    cases (x0 == y0) <;> cases (x1 == y1) <;> simp
  rcases hcases with e1 | ⟨e1, e2⟩ | ⟨e1, e2⟩
  · have hR : R = false := HR.out.trans (by rw [e1]; rfl)
    subst hR
    clear HR HE
    go_wp2_with fail
    go_ret
    exact ⟨rfl, HB.out⟩
  · have hR : R = false := HR.out.trans (by rw [e1, e2]; rfl)
    subst hR
    clear HR HE
    go_wp2_with fail
    go_ret
    exact ⟨rfl, HB.out⟩
  · have hR : R = (x3 == y3 && x4 == y4 && dl) := HR.out.trans (by rw [e1, e2]; simp)
    clear HR
    go_wp2_with fail
    refine (HE.out _ HB.out).mono ?_; rintro e w1 ⟨rfl, hd⟩
    have HB1 := Lib.hid (below_then HB.out hd.below)
    have c3 := cell_later hd.below c3
    have c4 := cell_later hd.below c4
    have d3 := cell_later hd.below d3
    have d4 := cell_later hd.below d4
    clear hd HE
    have hcases : dl = false ∨ (dl = true ∧ (x3 == y3) = false) ∨ (dl = true ∧ (x3 == y3) = true ∧ (x4 == y4) = false) ∨ (dl = true ∧ (x3 == y3) = true ∧ (x4 == y4) = true) := by
      cases dl <;> cases (x3 == y3) <;> cases (x4 == y4) <;> simp
    rcases hcases with rfl | ⟨rfl, e3⟩ | ⟨rfl, e3, e4⟩ | ⟨rfl, e3, e4⟩
    · have hR2 : R = false := hR.trans (by simp)
      subst hR2
      clear hR
      go_wp2_with fail
      go_ret
      exact ⟨rfl, HB1.out⟩
    · have hR2 : R = false := hR.trans (by rw [e3]; rfl)
      subst hR2
      clear hR
      go_wp2_with fail
      go_ret
      exact ⟨rfl, HB1.out⟩
    · have hR2 : R = false := hR.trans (by rw [e3, e4]; rfl)
      subst hR2
      clear hR
      go_wp2_with fail
      go_ret
      exact ⟨rfl, HB1.out⟩
    · have hR2 : R = true := hR.trans (by rw [e3, e4]; rfl)
      subst hR2
      clear hR
      go_wp2_with fail
      go_ret
      exact ⟨rfl, HB1.out⟩
set_option maxHeartbeats 8000000 in
theorem sameR_raw (w : World) (x1 x2 y1 y2 : Nat) (lx ly : List Int) (p p' : Option Addr) (c c' : Nat) (hq : Ints .u8 w (.slice p lx.length c) lx) (hr : Ints .u8 w (.slice p' ly.length c') ly) (hx : ReW ⟨lx, x1, x2⟩) (hy : ReW ⟨ly, y1, y2⟩) :
    Calls Tryz.prog 70 #[.agg #[.slice p lx.length c, .float .f64 x1, .float .f64 x2], .agg #[.slice p' ly.length c', .float .f64 y1, .float .f64 y2]] w fun e w' => e = .returned (.bool (sameRe ⟨lx, x1, x2⟩ ⟨ly, y1, y2⟩)) ∧ Below w.heap.size w w' := by
  have HE := Lib.hid (fun w1 (hb : Below w.heap.size w w1) => bequal14_any (.slice p lx.length c) (.slice p' ly.length c') lx ly w1 (hq.below hb) (hr.below hb) hx.sum hy.sum)
  have H1 := Lib.hid (fun w1 => fsame_any x1 y1 w1 hx.mn hy.mn)
  have H2 := Lib.hid (fun w1 => fsame_any x2 y2 w1 hx.mx hy.mx)
  have HR := Lib.hid (show sameRe ⟨lx, x1, x2⟩ ⟨ly, y1, y2⟩ = (decide (lx = ly) && sameB x1 y1 && sameB x2 y2) from rfl)
  obtain ⟨b1, b2, b3⟩ := boxes_pair (w := w) (T := 63) (cs := #[.slice p lx.length c, .float .f64 x1, .float .f64 x2]) (ds := #[.slice p' ly.length c', .float .f64 y1, .float .f64 y2])
  have HX := Lib.hid b1
  have HY := Lib.hid b2
  have HB := Lib.hid b3
  have hsf := fun (w : World) (a : Addr) (m : Mode) (k : Nat) => run_store_f64 (P := Tryz.prog) (w := w) (a := a) (m := m) k
  generalize sameRe ⟨lx, x1, x2⟩ ⟨ly, y1, y2⟩ = R at *
  generalize decide (lx = ly) = dl at *
  generalize sameB x1 y1 = s1 at *
  generalize sameB x2 y2 = s2 at *
  clear hq hr hx hy b1 b2 b3
  go_enter Tryz.func70, Tryz.ntmps70
  go_upto_region 1 with fail
  generalize (w.alloc (.cells #[.slice p lx.length c, .float .f64 x1, .float .f64 x2] 63)).alloc (.cells #[.slice p' ly.length c', .float .f64 y1, .float .f64 y2] 63) = W at *
  obtain ⟨c0, c1, c2⟩ := row3 HX.out
  obtain ⟨d0, d1, d2⟩ := row3 HY.out
  go_wp2_with fail
  refine (HE.out _ HB.out).mono ?_; rintro e w1 ⟨rfl, rfl⟩
  have hR := HR.out
  clear HE HR
  cases dl with
  | false =>
    subst hR
    go_wp2_with fail
    go_ret
    exact ⟨rfl, HB.out⟩
  | true =>
    go_wp2_with fail
    refine (H1.out _).mono ?_; rintro e w1 ⟨rfl, rfl⟩
    cases s1 with
    | false =>
      subst hR
      go_wp2_with fail
      go_ret
      exact ⟨rfl, HB.out⟩
    | true =>
      go_wp2_with fail
      refine (H2.out _).mono ?_; rintro e w1 ⟨rfl, rfl⟩
      cases s2 with
      | false =>
        subst hR
        go_wp2_with fail
        go_ret
        exact ⟨rfl, HB.out⟩
      | true =>
        subst hR
        go_wp2_with fail
        go_ret
        exact ⟨rfl, HB.out⟩
def eqsW (l m : List Wh) : Bool := decide (l.length = m.length) && (List.range l.length).all fun k => sameWh (wg l k) (wg m k)
set_option maxHeartbeats 8000000 in
theorem eqsW_any (w : World) (u v : Value) (l m : List Wh) (hu : Wholes w u l) (hv : Wholes w v m) (hw : ∀ x ∈ l, WhW x) (hw' : ∀ x ∈ m, WhW x) :
    Calls Tryz.prog 73 #[u, v, .func (.func 68) #[] #[]] w fun e w' => e = .returned (.bool (eqsW l m)) ∧ Below w.heap.size w w' := by
  have HU := Lib.hid hu
  have HV := Lib.hid hv
  have HW := Lib.hid (fun k (hk : k < l.length) => show WhW (wg l k) by rw [wg_get hk]; exact hw _ (List.getElem_mem _))
  have HW' := Lib.hid (fun k (hk : k < m.length) => show WhW (wg m k) by rw [wg_get hk]; exact hw' _ (List.getElem_mem _))
  obtain ⟨a, cap, rfl, -, hmx, -⟩ := hu
  obtain ⟨a', cap', rfl, -, -, -⟩ := hv
  by_cases hl : l.length = m.length
  · have HY := Lib.hid (fun (h : ∀ k, k < l.length → sameWh (wg l k) (wg m k) = true) => show eqsW l m = true by unfold eqsW; rw [decide_eq_true hl, Bool.true_and]; exact List.all_eq_true.2 fun x hx => h x (by simpa using hx))
    have HN := Lib.hid (fun k (hk : k < l.length) (h : sameWh (wg l k) (wg m k) = false) => show eqsW l m = false by unfold eqsW; rw [decide_eq_true hl, Bool.true_and]; exact List.all_eq_false.2 ⟨k, by simpa using hk, by simp [h]⟩)
    have hnn : ((l.length : Int) != (m.length : Int)) = false := by simp [hl]
    have HL := Lib.hid hl
    generalize eqsW l m = R at *
    clear hw hw' hl
    go_enter Tryz.func73, Tryz.ntmps73
    go_wp2_with fail
    go_loopw [17] (fun iv wr => ∃ k : Nat, k ≤ l.length ∧ iv = .int .i64 k ∧ Hid (Below w.heap.size w wr ∧ ∀ j, j < k → sameWh (wg l j) (wg m j) = true)) (fun iv _ => l.length - (intOf iv).toNat)
    case atStart => exact ⟨0, Nat.zero_le _, rfl, Lib.hid ⟨Below.refl _ _, fun j hj => by omega⟩⟩
    case round =>
      obtain ⟨k, hk, rfl, HS⟩ := hrel
      by_cases hlk : k < l.length
      · have hlk' : (k : Int) < (l.length : Int) := by omega
        have hkb0 : k < m.length := by have := HL.out; omega
        have hkb : (k : Int) < (m.length : Int) := by omega
        have hle : Hid (k + 1 ≤ l.length) := Lib.hid (by omega)
        obtain ⟨ba, oa, qa, rfl, hqa⟩ := (HU.out.below HS.out.1).at hlk
        obtain ⟨bb, ob, qb, rfl, hqb⟩ := (HV.out.below HS.out.1).at hkb0
        obtain ⟨f0, f1, f2, f3, f4, f9⟩ := hqa
        obtain ⟨g0, g1, g2, g3, g4, g9⟩ := hqb
        have HWx := HW.out k hlk
        have HWy := HW'.out k hkb0
        have HNk := Lib.hid (fun h => HN.out k hlk h)
        have HSn := Lib.hid (fun (h : sameWh (wg l k) (wg m k) = true) j (hj : j < k + 1) => show sameWh (wg l j) (wg m j) = true from if e : j = k then e ▸ h else HS.out.2 j (by omega))
        have HBk := Lib.hid HS.out.1
        generalize wg l k = x at *
        generalize wg m k = y at *
        obtain ⟨x0, x1, lx, x3, x4⟩ := x
        obtain ⟨y0, y1, ly, y3, y4⟩ := y
        have hf := f9
        have hg := g9
        obtain ⟨p, c, rfl, -, -⟩ := f9
        obtain ⟨p', c', rfl, -, -⟩ := g9
        dsimp only at f0 f1 f2 f3 f4 g0 g1 g2 g3 g4
        have HC := Lib.hid (fun w1 (hb : Below wr.heap.size wr w1) => sameW_raw w1 x0 x1 x3 x4 y0 y1 y3 y4 lx ly p p' c c' (hf.below hb) (hg.below hb) HWx.len)
        have b1 := below_one wr (.cells #[.int .i64 x0, .int .i64 x1, .slice p lx.length c, .int .i64 x3, .int .i64 x4] 75)
        have g0 := cell_later b1 g0
        have g1 := cell_later b1 g1
        have g2 := cell_later b1 g2
        have g3 := cell_later b1 g3
        have g4 := cell_later b1 g4
        have HB2 := Lib.hid (below_then b1 (below_one (wr.alloc (.cells #[.int .i64 x0, .int .i64 x1, .slice p lx.length c, .int .i64 x3, .int .i64 x4] 75)) (.cells #[.int .i64 y0, .int .i64 y1, .slice p' ly.length c', .int .i64 y3, .int .i64 y4] 75)))
        clear hf hg HWx HWy HS b1
        generalize sameWh ⟨x0, x1, lx, x3, x4⟩ ⟨y0, y1, ly, y3, y4⟩ = T at *
        go_wp2_with fail
        refine (HC.out _ HB2.out).mono ?_; rintro e w1 ⟨rfl, hb1⟩
        have HB1 := Lib.hid (below_then (below_then HBk.out HB2.out) hb1)
        clear hb1 HC HB2
        cases T with
        | true =>
          have HJ := Lib.hid (HSn.out rfl)
          go_wp2_with fail
          go_roundw
          case rel => exact ⟨k + 1, hle.out, by go_num, Lib.hid ⟨HB1.out, HJ.out⟩⟩
          case measure => simp [intOf]; omega
        | false =>
          have hR := HNk.out rfl
          subst hR
          go_wp2_with fail
          go_ret
          exact ⟨rfl, HB1.out⟩
      · have : k = l.length := by omega
        subst this
        have hR := HY.out HS.out.2
        subst hR
        go_wp2_with fail
        go_ret
        exact ⟨rfl, HS.out.1⟩
  · have hR : eqsW l m = false := by unfold eqsW; rw [decide_eq_false hl]; rfl
    rw [hR]
    have hnn : ((l.length : Int) != (m.length : Int)) = true := by simp; omega
    clear HU HV HW HW' hw hw' hl
    go_enter Tryz.func73, Tryz.ntmps73
    go_wp2_with fail
    go_ret
    exact ⟨rfl, Below.refl _ _⟩
def eqsR (l m : List Re) : Bool := decide (l.length = m.length) && (List.range l.length).all fun k => sameRe (rg l k) (rg m k)
set_option maxHeartbeats 8000000 in
theorem eqsR_any (w : World) (u v : Value) (l m : List Re) (hu : Reals w u l) (hv : Reals w v m) (hw : ∀ x ∈ l, ReW x) (hw' : ∀ x ∈ m, ReW x) :
    Calls Tryz.prog 74 #[u, v, .func (.func 70) #[] #[]] w fun e w' => e = .returned (.bool (eqsR l m)) ∧ Below w.heap.size w w' := by
  have HU := Lib.hid hu
  have HV := Lib.hid hv
  have HW := Lib.hid (fun k (hk : k < l.length) => show ReW (rg l k) by rw [rg_get hk]; exact hw _ (List.getElem_mem _))
  have HW' := Lib.hid (fun k (hk : k < m.length) => show ReW (rg m k) by rw [rg_get hk]; exact hw' _ (List.getElem_mem _))
  obtain ⟨a, cap, rfl, -, hmx, -⟩ := hu
  obtain ⟨a', cap', rfl, -, -, -⟩ := hv
  by_cases hl : l.length = m.length
  · have HY := Lib.hid (fun (h : ∀ k, k < l.length → sameRe (rg l k) (rg m k) = true) => show eqsR l m = true by unfold eqsR; rw [decide_eq_true hl, Bool.true_and]; exact List.all_eq_true.2 fun x hx => h x (by simpa using hx))
    have HN := Lib.hid (fun k (hk : k < l.length) (h : sameRe (rg l k) (rg m k) = false) => show eqsR l m = false by unfold eqsR; rw [decide_eq_true hl, Bool.true_and]; exact List.all_eq_false.2 ⟨k, by simpa using hk, by simp [h]⟩)
    have hnn : ((l.length : Int) != (m.length : Int)) = false := by simp [hl]
    have HL := Lib.hid hl
    generalize eqsR l m = R at *
    clear hw hw' hl
    go_enter Tryz.func74, Tryz.ntmps74
    go_wp2_with fail
    go_loopw [17] (fun iv wr => ∃ k : Nat, k ≤ l.length ∧ iv = .int .i64 k ∧ Hid (Below w.heap.size w wr ∧ ∀ j, j < k → sameRe (rg l j) (rg m j) = true)) (fun iv _ => l.length - (intOf iv).toNat)
    case atStart => exact ⟨0, Nat.zero_le _, rfl, Lib.hid ⟨Below.refl _ _, fun j hj => by omega⟩⟩
    case round =>
      obtain ⟨k, hk, rfl, HS⟩ := hrel
      by_cases hlk : k < l.length
      · have hlk' : (k : Int) < (l.length : Int) := by omega
        have hkb0 : k < m.length := by have := HL.out; omega
        have hkb : (k : Int) < (m.length : Int) := by omega
        have hle : Hid (k + 1 ≤ l.length) := Lib.hid (by omega)
        obtain ⟨ba, oa, qa, rfl, hqa⟩ := (HU.out.below HS.out.1).at hlk
        obtain ⟨bb, ob, qb, rfl, hqb⟩ := (HV.out.below HS.out.1).at hkb0
        obtain ⟨f0, f1, f2, f9⟩ := hqa
        obtain ⟨g0, g1, g2, g9⟩ := hqb
        have HWx := HW.out k hlk
        have HWy := HW'.out k hkb0
        have HNk := Lib.hid (fun h => HN.out k hlk h)
        have HSn := Lib.hid (fun (h : sameRe (rg l k) (rg m k) = true) j (hj : j < k + 1) => show sameRe (rg l j) (rg m j) = true from if e : j = k then e ▸ h else HS.out.2 j (by omega))
        have HBk := Lib.hid HS.out.1
        generalize rg l k = x at *
        generalize rg m k = y at *
        obtain ⟨lx, x1, x2⟩ := x
        obtain ⟨ly, y1, y2⟩ := y
        have hf := f9
        have hg := g9
        obtain ⟨p, c, rfl, -, -⟩ := f9
        obtain ⟨p', c', rfl, -, -⟩ := g9
        dsimp only at f0 f1 f2 g0 g1 g2
        have HC := Lib.hid (fun w1 (hb : Below wr.heap.size wr w1) => sameR_raw w1 x1 x2 y1 y2 lx ly p p' c c' (hf.below hb) (hg.below hb) HWx HWy)
        have b1 := below_one wr (.cells #[.slice p lx.length c, .float .f64 x1, .float .f64 x2] 63)
        have g0 := cell_later b1 g0
        have g1 := cell_later b1 g1
        have g2 := cell_later b1 g2
        have HB2 := Lib.hid (below_then b1 (below_one (wr.alloc (.cells #[.slice p lx.length c, .float .f64 x1, .float .f64 x2] 63)) (.cells #[.slice p' ly.length c', .float .f64 y1, .float .f64 y2] 63)))
        clear hf hg HWx HWy HS b1
        generalize sameRe ⟨lx, x1, x2⟩ ⟨ly, y1, y2⟩ = T at *
        have hsf := fun (w : World) (a : Addr) (m : Mode) (k : Nat) => run_store_f64 (P := Tryz.prog) (w := w) (a := a) (m := m) k
        go_wp2_with fail
        refine (HC.out _ HB2.out).mono ?_; rintro e w1 ⟨rfl, hb1⟩
        have HB1 := Lib.hid (below_then (below_then HBk.out HB2.out) hb1)
        clear hb1 HC HB2
        cases T with
        | true =>
          have HJ := Lib.hid (HSn.out rfl)
          go_wp2_with fail
          go_roundw
          case rel => exact ⟨k + 1, hle.out, by go_num, Lib.hid ⟨HB1.out, HJ.out⟩⟩
          case measure => simp [intOf]; omega
        | false =>
          have hR := HNk.out rfl
          subst hR
          go_wp2_with fail
          go_ret
          exact ⟨rfl, HB1.out⟩
      · have : k = l.length := by omega
        subst this
        have hR := HY.out HS.out.2
        subst hR
        go_wp2_with fail
        go_ret
        exact ⟨rfl, HS.out.1⟩
  · have hR : eqsR l m = false := by unfold eqsR; rw [decide_eq_false hl]; rfl
    rw [hR]
    have hnn : ((l.length : Int) != (m.length : Int)) = true := by simp; omega
    clear HU HV HW HW' hw hw' hl
    go_enter Tryz.func74, Tryz.ntmps74
    go_wp2_with fail
    go_ret
    exact ⟨rfl, Below.refl _ _⟩
theorem same_eqs (a b : Ce) : sameC a b = (a.key == b.key && a.cnt == b.cnt && eqsW a.is b.is && eqsR a.ns b.ns) := by
  unfold sameC eqsW eqsR
  cases (a.key == b.key) <;> cases (a.cnt == b.cnt) <;> cases decide (a.is.length = b.is.length) <;> cases decide (a.ns.length = b.ns.length) <;> cases ((List.range a.is.length).all fun k => sameWh (wg a.is k) (wg b.is k)) <;> simp
set_option maxHeartbeats 8000000 in
theorem psame14_any (w : World) (a b : Ce) (I N I' N' : Value) (h : CeM w I N a) (h' : CeM w I' N' b) (ha : CeW a) (hb : CeW b) :
    Calls Tryz.prog 26 #[CeV a I N, CeV b I' N'] w fun e w' => e = .returned (.bool (sameC a b)) ∧ Below w.heap.size w w' := by
  have HEW := Lib.hid (fun w1 (hb1 : Below w.heap.size w w1) => eqsW_any w1 I I' a.is b.is (h.i.below hb1) (h'.i.below hb1) ha.is hb.is)
  have HER := Lib.hid (fun w1 (hb1 : Below w.heap.size w w1) => eqsR_any w1 N N' a.ns b.ns (h.n.below hb1) (h'.n.below hb1) ha.ns hb.ns)
  have HR := Lib.hid (same_eqs a b)
  obtain ⟨⟨p, k1, rfl⟩, p2, k2, rfl⟩ := h.slices
  obtain ⟨⟨p', k1', rfl⟩, p2', k2', rfl⟩ := h'.slices
  obtain ⟨b1, b2, b3⟩ := boxes_pair (w := w) (T := 41) (cs := #[.int .u64 a.key, .int .i64 a.cnt, .slice p a.is.length k1, .slice p2 a.ns.length k2]) (ds := #[.int .u64 b.key, .int .i64 b.cnt, .slice p' b.is.length k1', .slice p2' b.ns.length k2'])
  have HX := Lib.hid b1
  have HY := Lib.hid b2
  have HB := Lib.hid b3
  generalize sameC a b = R at *
  generalize eqsW a.is b.is = A at *
  generalize eqsR a.ns b.ns = B at *
  clear h h' ha hb b1 b2 b3
  go_enter Tryz.func26, Tryz.ntmps26
  go_upto_region 1 with fail
  generalize (w.alloc (CeO a (.slice p a.is.length k1) (.slice p2 a.ns.length k2))).alloc (CeO b (.slice p' b.is.length k1') (.slice p2' b.ns.length k2')) = W at *
  obtain ⟨⟨x0, x1, x2, x3⟩, -⟩ := box_reads HX.out
  obtain ⟨⟨y0, y1, y2, y3⟩, -⟩ := box_reads HY.out
  have hcases : (a.key == b.key) = false ∨ ((a.key == b.key) = true ∧ (a.cnt == b.cnt) = false) ∨ ((a.key == b.key) = true ∧ (a.cnt == b.cnt) = true) := by
    cases (a.key == b.key) <;> cases (a.cnt == b.cnt) <;> simp
  rcases hcases with e1 | ⟨e1, e2⟩ | ⟨e1, e2⟩
  · have hR : R = false := HR.out.trans (by rw [e1]; rfl)
    subst hR
    clear HR HEW HER
    go_wp2_with fail
    go_ret
    exact ⟨rfl, HB.out⟩
  · have hR : R = false := HR.out.trans (by rw [e1, e2]; rfl)
    subst hR
    clear HR HEW HER
    go_wp2_with fail
    go_ret
    exact ⟨rfl, HB.out⟩
  · have hR : R = (A && B) := HR.out.trans (by rw [e1, e2]; simp)
    clear HR
    go_wp2_with fail
    refine (HEW.out _ HB.out).mono ?_; rintro e w1 ⟨rfl, hb⟩
    have HB1 := Lib.hid (below_then HB.out hb)
    have x3 := cell_later hb x3
    have y3 := cell_later hb y3
    clear hb HEW
    cases A with
    | false =>
      subst hR
      go_wp2_with fail
      go_ret
      exact ⟨rfl, HB1.out⟩
    | true =>
      simp only [Bool.true_and] at hR
      subst hR
      go_wp2_with fail
      refine (HER.out _ HB1.out).mono ?_; rintro e w2 ⟨rfl, hb⟩
      have HB2 := Lib.hid (below_then HB1.out hb)
      clear hb HER x3 y3
      cases R
      · go_wp2_with fail
        go_ret
        exact ⟨rfl, HB2.out⟩
      · go_wp2_with fail
        go_ret
        exact ⟨rfl, HB2.out⟩
end Go.Proofs.YtigikgphipebiaaGreatDoor
